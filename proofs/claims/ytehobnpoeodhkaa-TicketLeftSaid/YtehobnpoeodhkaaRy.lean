import Derived.Test.YtehobnpoeodhkaaRx
namespace Go.Proofs.Ytehobnpoeodhkaa
open Go Go.Abs Go.Proofs
set_option maxHeartbeats 1600000
attribute [local irreducible] CallJ OpsJ WPJ CallV MonoJ SpecJ

theorem bit_tmod {b i : Nat} (hi : i < 64) : (((b : Int)).fdiv (2 ^ min (IntKind.u64.wrap (i : Int)).toNat IntKind.i64.bits)).tmod 2 = if b.testBit i = true then 1 else 0 := by
  rw [shr_eq hi, Int.tmod_eq_emod_of_nonneg (Int.natCast_nonneg _), Nat.testBit_eq_decide_div_mod_eq]
  generalize b / 2 ^ i = q
  simp only [decide_eq_true_eq]
  split <;> omega
section
variable {γ : Type} (E : Env γ) (g : γ) (H : AHeap)
theorem Rising_b (m : HouseM) (s1 s2 s3 lv : Value) (l : List Int) (b : Nat) (hm : HouseIs H m s1 s2 s3) (hr : RdS H lv 1 (encI l)) (_hn : l.length ≤ 1000000) (hb3 : m.clips.length ≤ 30)
    (hcl : ∀ c ∈ m.clips, 0 ≤ c.clock ∧ c.clock.toNat < l.length ∧ -1000000 ≤ c.minute ∧ c.minute ≤ 1000000) (hlb : ∀ x ∈ l, -1000000 ≤ x ∧ x ≤ 1000000) :
    CallJ Try.prog E 87 [hv m s1 s2 s3, lv, .int .i64 b] (fun v H' g' => v = .bool (riseB m l b) ∧ H' = H ∧ g' = g) H g := by
  have hok := hm.cells
  have hr3 := hm.clips
  have hat : ∀ i < m.clips.length, ∃ c x, m.clips[i]? = some c ∧ m.clips.getD i ⟨0, 0, 0⟩ = c ∧ 0 ≤ c.clock ∧ l[c.clock.toNat]? = some x ∧ trueM l c = c.minute - x ∧ (-1000000 ≤ c.minute ∧ c.minute ≤ 1000000 ∧ -1000000 ≤ x ∧ x ≤ 1000000) := by
    intro i hi
    have h1 := hcl _ (List.getElem_mem hi)
    have h2 := hlb _ (List.getElem_mem h1.2.1)
    refine ⟨m.clips[i], l[m.clips[i].clock.toNat]'h1.2.1, by simp [hi], by simp [List.getD, hi], h1.1, by simp [h1.2.1], ?_, by omega⟩
    unfold trueM
    simp [List.getD, h1.2.1]
  refine CallJ.tidy ?_
  unfold hv
  refine CallJ.enter Try.func87 rfl (by simp only [Try.ntmps87, List.length_cons, List.length_nil, Nat.zero_add, Nat.reduceAdd, Nat.reduceSub, List.replicate_succ, List.replicate_zero, List.cons_append, List.nil_append]; rfl) ?_
  repeat' (first
    | (refine is_ucall ?_; first
      | refine st_callP (h := True_spec _ _ _ m s1 s2 s3 lv l _ _ _ (hm.ext extA) (hr.ext extA) hci hci0 hcix hcib) (k := ?_)
      | refine st_callP (h := True_spec _ _ _ m s1 s2 s3 lv l _ _ _ (hm.ext extA) (hr.ext extA) hck hck0 hckx hckb) (k := ?_)
      | fail)
    | (refine is_umcall ?_; first
      | refine mj_callP (h := True_spec _ _ _ m s1 s2 s3 lv l _ _ _ (hm.ext extA) (hr.ext extA) hci hci0 hcix hcib) (k := ?_)
      | refine mj_callP (h := True_spec _ _ _ m s1 s2 s3 lv l _ _ _ (hm.ext extA) (hr.ext extA) hck hck0 hckx hckb) (k := ?_)
      | fail)
    | refine W1 ?_ | refine Wc ?_ | refine W2c ?_ ?_ | refine Wg ?_ | refine W2 ?_ ?_ | exact Wdead | refine Wlive (fun hb => ?_) | intro _ _ _ _ _ _ _ _ | refine We ?_ | refine Wx ?_ | refine Wt ?_ | refine Wm ?_ | refine W2m ?_ ?_ | refine Wl ?_
    | fail)
  refine WPJ.loopT m.clips.length [9, 10, 11, 12, 13, 14, 15, 16, 17, 18, 19, 20, 21, 22, 23, 24, 25, 26, 27, 28, 29, 30, 31, 32, 33, 34, 35, 36, 37, 38, 39, 40, 41, 42, 43, 44, 45, 8] (fun i (_ : Unit) => [(7, .int .i64 i)])
    (fun i _ H1 g1 => g1 = g ∧ Ext H H1 ∧ H1[H.length]? = some (.row [.int .i64 m.hour, .int .i64 m.grace, s1, s2, s3] 1 true) ∧ riseBI m l b i = true) 0 () (Nat.zero_le _) (by intro p hp; simp at hp; rcases hp with rfl; rfl) ⟨rfl, extA, getA, by simp [riseBI]⟩ ?_
  rintro i _ H1 g1 hi ⟨rfl, he, hb0, hx⟩ hl0
  simp only [updT, maskT, List.set_cons_zero, List.set_cons_succ]
  rcases Nat.lt_or_ge i m.clips.length with hlt | hge
  · obtain ⟨ci, xi, hci, hcid, hci0, hcix, hcit, hcib⟩ := hat i hlt
    have hui : 0 ≤ IntKind.u64.wrap (i : Int) := by rw [wrap_u64 (by omega) (by omega)]; omega
    have hbi := bit_tmod (b := b) (i := i) (by omega)
    repeat' (first
      | (refine is_ucall ?_; first
        | refine st_callP (h := True_spec _ _ _ m s1 s2 s3 lv l _ _ _ (hm.ext extA) (hr.ext extA) hci hci0 hcix hcib) (k := ?_)
        | refine st_callP (h := True_spec _ _ _ m s1 s2 s3 lv l _ _ _ (hm.ext extA) (hr.ext extA) hck hck0 hckx hckb) (k := ?_)
        | fail)
      | (refine is_umcall ?_; first
        | refine mj_callP (h := True_spec _ _ _ m s1 s2 s3 lv l _ _ _ (hm.ext extA) (hr.ext extA) hci hci0 hcix hcib) (k := ?_)
        | refine mj_callP (h := True_spec _ _ _ m s1 s2 s3 lv l _ _ _ (hm.ext extA) (hr.ext extA) hck hck0 hckx hckb) (k := ?_)
        | fail)
      | refine W1 ?_ | refine Wc ?_ | refine W2c ?_ ?_ | refine Wg ?_ | refine W2 ?_ ?_ | exact Wdead | refine Wlive (fun hb => ?_) | intro _ _ _ _ _ _ _ _ | refine We ?_ | refine Wx ?_ | refine Wt ?_ | refine Wm ?_ | refine W2m ?_ ?_ | refine Wl ?_
      | fail)
    refine WPJ.loopT i [16, 17, 18, 19, 20, 21, 22, 23, 24, 25, 26, 27, 28, 29, 30, 31, 32, 33, 34, 35, 36, 37, 38, 39, 40, 41, 42, 43, 44, 45] (fun k (_ : Unit) => [(8, .int .i64 k)])
      (fun k _ H1 g2 => g2 = g1 ∧ Ext H H1 ∧ H1[H.length]? = some (.row [.int .i64 m.hour, .int .i64 m.grace, s1, s2, s3] 1 true) ∧ riseBK m l b i k = true) 0 () (Nat.zero_le _) (by intro p hp; simp at hp; rcases hp with rfl; rfl) ⟨rfl, he, hb0, by simp [riseBK]⟩ ?_
    clear hb0 he hl0
    rintro k _ H1 g1 hk ⟨rfl, he, hb0, hy⟩ hl0
    simp only [updT, maskT, List.set_cons_zero, List.set_cons_succ]
    rcases Nat.lt_or_ge k i with hlt2 | hge2
    · obtain ⟨ck, xk, hck, hckd, hck0, hckx, hckt, hckb⟩ := hat k (by omega)
      have huk : 0 ≤ IntKind.u64.wrap (k : Int) := by rw [wrap_u64 (by omega) (by omega)]; omega
      have hbk := bit_tmod (b := b) (i := k) (by omega)
      have hstep : riseBK m l b i (k + 1) = (riseBK m l b i k && (!(b.testBit i && b.testBit k) || decide (trueM l ck ≤ trueM l ci))) := by
        unfold riseBK; rw [range_all_succ, hckd, hcid]
      cases hti : b.testBit i with
      | false =>
        rw [hti, if_neg (by simp)] at hbi
        rw [hti] at hstep
        repeat' (first
          | (refine is_ucall ?_; first
            | refine st_callP (h := True_spec _ _ _ m s1 s2 s3 lv l _ _ _ (hm.ext extA) (hr.ext extA) hci hci0 hcix hcib) (k := ?_)
            | refine st_callP (h := True_spec _ _ _ m s1 s2 s3 lv l _ _ _ (hm.ext extA) (hr.ext extA) hck hck0 hckx hckb) (k := ?_)
            | fail)
          | (refine is_umcall ?_; first
            | refine mj_callP (h := True_spec _ _ _ m s1 s2 s3 lv l _ _ _ (hm.ext extA) (hr.ext extA) hci hci0 hcix hcib) (k := ?_)
            | refine mj_callP (h := True_spec _ _ _ m s1 s2 s3 lv l _ _ _ (hm.ext extA) (hr.ext extA) hck hck0 hckx hckb) (k := ?_)
            | fail)
          | refine W1 ?_ | refine Wc ?_ | refine W2c ?_ ?_ | refine Wg ?_ | refine W2 ?_ ?_ | exact Wdead | refine Wlive (fun hb => ?_) | intro _ _ _ _ _ _ _ _ | refine We ?_ | refine Wx ?_ | refine Wt ?_ | refine Wm ?_ | refine W2m ?_ ?_ | refine Wl ?_
          | fail)
        refine WPJ.draw 22 mixed (by kernel_rfl) (by kernel_rfl) (by kernel_rfl) (by decide) ?_
        refine MonoJ.normA ?_
        repeat' (first
          | (refine is_ucall ?_; first
            | refine st_callP (h := True_spec _ _ _ m s1 s2 s3 lv l _ _ _ (hm.ext extA) (hr.ext extA) hci hci0 hcix hcib) (k := ?_)
            | refine st_callP (h := True_spec _ _ _ m s1 s2 s3 lv l _ _ _ (hm.ext extA) (hr.ext extA) hck hck0 hckx hckb) (k := ?_)
            | fail)
          | (refine is_umcall ?_; first
            | refine mj_callP (h := True_spec _ _ _ m s1 s2 s3 lv l _ _ _ (hm.ext extA) (hr.ext extA) hci hci0 hcix hcib) (k := ?_)
            | refine mj_callP (h := True_spec _ _ _ m s1 s2 s3 lv l _ _ _ (hm.ext extA) (hr.ext extA) hck hck0 hckx hckb) (k := ?_)
            | fail)
          | refine W1 ?_ | refine Wc ?_ | refine W2c ?_ ?_ | refine Wg ?_ | refine W2 ?_ ?_ | exact Wdead | refine Wlive (fun hb => ?_) | intro _ _ _ _ _ _ _ _ | refine We ?_ | refine Wx ?_ | refine Wt ?_ | refine Wm ?_ | refine W2m ?_ ?_ | refine Wl ?_
          | fail)
        exact ⟨(), hlt2, (by repeat' (first | exact Weak.nil | refine Weak.wild ?_ | refine Weak.same ?_ | refine Weak.intEq (by first | omega | (simp; done) | (push_cast; omega)) ?_)), rfl, extA, getA, by rw [hstep, hy]; rfl⟩
      | true =>
        rw [hti, if_pos rfl] at hbi
        cases htk : b.testBit k with
        | false =>
          rw [htk, if_neg (by simp)] at hbk
          rw [hti, htk] at hstep
          repeat' (first
            | (refine is_ucall ?_; first
              | refine st_callP (h := True_spec _ _ _ m s1 s2 s3 lv l _ _ _ (hm.ext extA) (hr.ext extA) hci hci0 hcix hcib) (k := ?_)
              | refine st_callP (h := True_spec _ _ _ m s1 s2 s3 lv l _ _ _ (hm.ext extA) (hr.ext extA) hck hck0 hckx hckb) (k := ?_)
              | fail)
            | (refine is_umcall ?_; first
              | refine mj_callP (h := True_spec _ _ _ m s1 s2 s3 lv l _ _ _ (hm.ext extA) (hr.ext extA) hci hci0 hcix hcib) (k := ?_)
              | refine mj_callP (h := True_spec _ _ _ m s1 s2 s3 lv l _ _ _ (hm.ext extA) (hr.ext extA) hck hck0 hckx hckb) (k := ?_)
              | fail)
            | refine W1 ?_ | refine Wc ?_ | refine W2c ?_ ?_ | refine Wg ?_ | refine W2 ?_ ?_ | exact Wdead | refine Wlive (fun hb => ?_) | intro _ _ _ _ _ _ _ _ | refine We ?_ | refine Wx ?_ | refine Wt ?_ | refine Wm ?_ | refine W2m ?_ ?_ | refine Wl ?_
            | fail)
          refine WPJ.draw 22 mixed (by kernel_rfl) (by kernel_rfl) (by kernel_rfl) (by decide) ?_
          refine MonoJ.normA ?_
          repeat' (first
            | (refine is_ucall ?_; first
              | refine st_callP (h := True_spec _ _ _ m s1 s2 s3 lv l _ _ _ (hm.ext extA) (hr.ext extA) hci hci0 hcix hcib) (k := ?_)
              | refine st_callP (h := True_spec _ _ _ m s1 s2 s3 lv l _ _ _ (hm.ext extA) (hr.ext extA) hck hck0 hckx hckb) (k := ?_)
              | fail)
            | (refine is_umcall ?_; first
              | refine mj_callP (h := True_spec _ _ _ m s1 s2 s3 lv l _ _ _ (hm.ext extA) (hr.ext extA) hci hci0 hcix hcib) (k := ?_)
              | refine mj_callP (h := True_spec _ _ _ m s1 s2 s3 lv l _ _ _ (hm.ext extA) (hr.ext extA) hck hck0 hckx hckb) (k := ?_)
              | fail)
            | refine W1 ?_ | refine Wc ?_ | refine W2c ?_ ?_ | refine Wg ?_ | refine W2 ?_ ?_ | exact Wdead | refine Wlive (fun hb => ?_) | intro _ _ _ _ _ _ _ _ | refine We ?_ | refine Wx ?_ | refine Wt ?_ | refine Wm ?_ | refine W2m ?_ ?_ | refine Wl ?_
            | fail)
          exact ⟨(), hlt2, (by repeat' (first | exact Weak.nil | refine Weak.wild ?_ | refine Weak.same ?_ | refine Weak.intEq (by first | omega | (simp; done) | (push_cast; omega)) ?_)), rfl, extA, getA, by rw [hstep, hy]; rfl⟩
        | true =>
          rw [htk, if_pos rfl] at hbk
          rw [hti, htk] at hstep
          repeat' (first
            | (refine is_ucall ?_; first
              | refine st_callP (h := True_spec _ _ _ m s1 s2 s3 lv l _ _ _ (hm.ext extA) (hr.ext extA) hci hci0 hcix hcib) (k := ?_)
              | refine st_callP (h := True_spec _ _ _ m s1 s2 s3 lv l _ _ _ (hm.ext extA) (hr.ext extA) hck hck0 hckx hckb) (k := ?_)
              | fail)
            | (refine is_umcall ?_; first
              | refine mj_callP (h := True_spec _ _ _ m s1 s2 s3 lv l _ _ _ (hm.ext extA) (hr.ext extA) hci hci0 hcix hcib) (k := ?_)
              | refine mj_callP (h := True_spec _ _ _ m s1 s2 s3 lv l _ _ _ (hm.ext extA) (hr.ext extA) hck hck0 hckx hckb) (k := ?_)
              | fail)
            | refine W1 ?_ | refine Wc ?_ | refine W2c ?_ ?_ | refine Wg ?_ | refine W2 ?_ ?_ | exact Wdead | refine Wlive (fun hb => ?_) | intro _ _ _ _ _ _ _ _ | refine We ?_ | refine Wx ?_ | refine Wt ?_ | refine Wm ?_ | refine W2m ?_ ?_ | refine Wl ?_
            | fail)
          refine WPJ.draw 22 mixed (by kernel_rfl) (by kernel_rfl) (by kernel_rfl) (by decide) ?_
          refine MonoJ.normA ?_
          repeat' (first
            | (refine is_ucall ?_; first
              | refine st_callP (h := True_spec _ _ _ m s1 s2 s3 lv l _ _ _ (hm.ext extA) (hr.ext extA) hci hci0 hcix hcib) (k := ?_)
              | refine st_callP (h := True_spec _ _ _ m s1 s2 s3 lv l _ _ _ (hm.ext extA) (hr.ext extA) hck hck0 hckx hckb) (k := ?_)
              | fail)
            | (refine is_umcall ?_; first
              | refine mj_callP (h := True_spec _ _ _ m s1 s2 s3 lv l _ _ _ (hm.ext extA) (hr.ext extA) hci hci0 hcix hcib) (k := ?_)
              | refine mj_callP (h := True_spec _ _ _ m s1 s2 s3 lv l _ _ _ (hm.ext extA) (hr.ext extA) hck hck0 hckx hckb) (k := ?_)
              | fail)
            | refine W1 ?_ | refine Wc ?_ | refine W2c ?_ ?_ | refine Wg ?_ | refine W2 ?_ ?_ | exact Wdead | refine Wlive (fun hb => ?_) | intro _ _ _ _ _ _ _ _ | refine We ?_ | refine Wx ?_ | refine Wt ?_ | refine Wm ?_ | refine W2m ?_ ?_ | refine Wl ?_
            | fail)
          · have hfk : riseBK m l b i i = false := List.all_eq_false.2 ⟨k, List.mem_range.2 hlt2, by rw [hckd, hcid, hckt, hcit, hti, htk]; simp; omega⟩
            have hfs : riseB m l b = false := List.all_eq_false.2 ⟨i, List.mem_range.2 hlt, by rw [hfk]; simp⟩
            exact ⟨by rw [hfs], rfl, rfl⟩
          · exact ⟨(), hlt2, (by repeat' (first | exact Weak.nil | refine Weak.wild ?_ | refine Weak.same ?_ | refine Weak.intEq (by first | omega | (simp; done) | (push_cast; omega)) ?_)), rfl, extA, getA, by rw [hstep, hy, hckt, hcit, decide_eq_true (by omega)]; rfl⟩
    · skip
      repeat' (first
        | (refine is_ucall ?_; first
          | refine st_callP (h := True_spec _ _ _ m s1 s2 s3 lv l _ _ _ (hm.ext extA) (hr.ext extA) hci hci0 hcix hcib) (k := ?_)
          | refine st_callP (h := True_spec _ _ _ m s1 s2 s3 lv l _ _ _ (hm.ext extA) (hr.ext extA) hck hck0 hckx hckb) (k := ?_)
          | fail)
        | (refine is_umcall ?_; first
          | refine mj_callP (h := True_spec _ _ _ m s1 s2 s3 lv l _ _ _ (hm.ext extA) (hr.ext extA) hci hci0 hcix hcib) (k := ?_)
          | refine mj_callP (h := True_spec _ _ _ m s1 s2 s3 lv l _ _ _ (hm.ext extA) (hr.ext extA) hck hck0 hckx hckb) (k := ?_)
          | fail)
        | refine W1 ?_ | refine Wc ?_ | refine W2c ?_ ?_ | refine Wg ?_ | refine W2 ?_ ?_ | exact Wdead | refine Wlive (fun hb => ?_) | intro _ _ _ _ _ _ _ _ | refine We ?_ | refine Wx ?_ | refine Wt ?_ | refine Wm ?_ | refine W2m ?_ ?_ | refine Wl ?_
        | fail)
      obtain rfl : k = i := by omega
      have hs : riseBI m l b (k + 1) = (riseBI m l b k && riseBK m l b k k) := range_all_succ _ _
      exact ⟨(), hlt, (by repeat' (first | exact Weak.nil | refine Weak.wild ?_ | refine Weak.same ?_ | refine Weak.intEq (by first | omega | (simp; done) | (push_cast; omega)) ?_)), rfl, he, hb0, by rw [hs, hx, hy]; rfl⟩
  · skip
    repeat' (first
      | (refine is_ucall ?_; first
        | refine st_callP (h := True_spec _ _ _ m s1 s2 s3 lv l _ _ _ (hm.ext extA) (hr.ext extA) hci hci0 hcix hcib) (k := ?_)
        | refine st_callP (h := True_spec _ _ _ m s1 s2 s3 lv l _ _ _ (hm.ext extA) (hr.ext extA) hck hck0 hckx hckb) (k := ?_)
        | fail)
      | (refine is_umcall ?_; first
        | refine mj_callP (h := True_spec _ _ _ m s1 s2 s3 lv l _ _ _ (hm.ext extA) (hr.ext extA) hci hci0 hcix hcib) (k := ?_)
        | refine mj_callP (h := True_spec _ _ _ m s1 s2 s3 lv l _ _ _ (hm.ext extA) (hr.ext extA) hck hck0 hckx hckb) (k := ?_)
        | fail)
      | refine W1 ?_ | refine Wc ?_ | refine W2c ?_ ?_ | refine Wg ?_ | refine W2 ?_ ?_ | exact Wdead | refine Wlive (fun hb => ?_) | intro _ _ _ _ _ _ _ _ | refine We ?_ | refine Wx ?_ | refine Wt ?_ | refine Wm ?_ | refine W2m ?_ ?_ | refine Wl ?_
      | fail)
    obtain rfl : i = m.clips.length := by omega
    show Value.bool true = Value.bool (riseBI m l b m.clips.length) ∧ _ ∧ _
    rw [hx]
    exact ⟨rfl, rfl, rfl⟩
theorem Rising_bE (m : HouseM) (s1 s2 s3 lv : Value) (l : List Int) (b : Nat) (r : Bool) (hr1 : riseB m l b = r) (hm : HouseIs H m s1 s2 s3) (hr : RdS H lv 1 (encI l)) (hn : l.length ≤ 1000000) (hb3 : m.clips.length ≤ 30)
    (hcl : ∀ c ∈ m.clips, 0 ≤ c.clock ∧ c.clock.toNat < l.length ∧ -1000000 ≤ c.minute ∧ c.minute ≤ 1000000) (hlb : ∀ x ∈ l, -1000000 ≤ x ∧ x ≤ 1000000) :
    CallJ Try.prog E 87 [hv m s1 s2 s3, lv, .int .i64 b] (fun v H' g' => v = .bool r ∧ H' = H ∧ g' = g) H g := by
  rw [← hr1]; exact Rising_b E g H m s1 s2 s3 lv l b hm hr hn hb3 hcl hlb
theorem Can_spec (m : HouseM) (s1 s2 s3 : Value) (b : Nat) (hm : HouseIs H m s1 s2 s3) (hG : Good m) : CallJ Try.prog E 115 [hv m s1 s2 s3, .int .i64 b] (fun v H' g' => v = .bool (hasS (subM m b)) ∧ H' = H ∧ g' = g) H g := by
  have hok := hm.cells
  have hnl := hG.n1
  have hb3 : m.clips.length ≤ 30 := by have := hG.n3; omega
  have hcl : ∀ r ∈ m.clocks, isClockS r = true := fun r hr => by have := hG.clock r hr; simp [isClockS]; omega
  have hp1 := (prodS_bd m.clocks hcl).1
  have hG2 := sub_good hG b
  obtain ⟨N, hN⟩ : ∃ N : Nat, (N : Int) = min 3000 (prodS m.clocks) := ⟨(min 3000 (prodS m.clocks)).toNat, by omega⟩
  have hN2 : N ≤ 3000 := by omega
  have hNL : refL (subM m b) = refN (subM m b) N := by unfold refL; show refN _ (min 3000 (prodS m.clocks)).toNat = _; rw [← hN]; simp
  refine CallJ.tidy ?_
  unfold hv
  refine CallJ.enter Try.func115 rfl (by simp only [Try.ntmps115, List.length_cons, List.length_nil, Nat.zero_add, Nat.reduceAdd, Nat.reduceSub, List.replicate_succ, List.replicate_zero, List.cons_append, List.nil_append]; rfl) ?_
  repeat' (first
    | (refine is_ucall ?_; first
      | refine st_callP (h := Rising_bE _ _ _ m s1 s2 s3 _ _ b _ hrb (hm.ext extA) (sl_rd (enc := enc1) (w := 1) (fun _ => rfl) _ _) hxn hb3 hbd.1 hbd.2) (k := ?_)
      | refine st_callP (h := Many_spec _ _ _ m s1 s2 s3 (hm.ext extA) hcl) (k := ?_)
      | refine st_callL (h := Nth_spec _ _ _ m s1 s2 s3 _ (by omega) (by omega) (hm.ext extA) hcl) (k := ?_)
      | fail)
    | (refine is_umcall ?_; first
      | refine mj_callL (h := Nth_spec _ _ _ m s1 s2 s3 _ (by omega) (by omega) (hm.ext extA) hcl) (k := ?_)
      | refine mj_callP (h := Rising_bE _ _ _ m s1 s2 s3 _ _ b _ hrb (hm.ext extA) (sl_rd (enc := enc1) (w := 1) (fun _ => rfl) _ _) hxn hb3 hbd.1 hbd.2) (k := ?_)
      | refine mj_callP (h := Many_spec _ _ _ m s1 s2 s3 (hm.ext extA) hcl) (k := ?_)
      | fail)
    | refine W1 ?_ | refine Wc ?_ | refine W2c ?_ ?_ | refine Wg ?_ | refine W2 ?_ ?_ | exact Wdead | refine Wlive (fun hb => ?_) | intro _ _ _ _ _ _ _ _ | refine We ?_ | refine Wx ?_ | refine Wt ?_ | refine Wm ?_ | refine W2m ?_ ?_ | refine Wl ?_
    | fail)
  refine WPJ.loopT N [6, 7, 8, 9, 10, 11, 12, 13, 14, 15, 16, 17] (fun j (_ : Unit) => [(5, .int .i64 j)])
    (fun j _ H1 g1 => g1 = g ∧ Ext H H1 ∧ H1[H.length]? = some (.row [.int .i64 m.hour, .int .i64 m.grace, s1, s2, s3] 1 true) ∧ refN (subM m b) j = []) 0 () (Nat.zero_le _)
    (by intro p hp; simp at hp; rcases hp with rfl; rfl) ⟨rfl, extA, getA, rfl⟩ ?_
  rintro j _ H1 g1 hj ⟨rfl, he, hb0, hx⟩ hl0
  simp only [updT, maskT, List.set_cons_zero, List.set_cons_succ]
  rcases Nat.lt_or_ge j N with hlt | hge
  · have hE := nth_isE hG j
    have hbd := isE_bd hG hE
    have hxn : (nthL m.clocks j).length ≤ 1000000 := by rw [nthL_len]; omega
    have hstep := refN_step (subM m b) j
    have hre := riseB_eq m (nthL m.clocks j) b
    have hbd : (∀ c ∈ m.clips, 0 ≤ c.clock ∧ c.clock.toNat < (nthL m.clocks j).length ∧ -1000000 ≤ c.minute ∧ c.minute ≤ 1000000) ∧ (∀ x ∈ nthL m.clocks j, -1000000 ≤ x ∧ x ≤ 1000000) := hbd
    obtain ⟨r, hrb⟩ : ∃ r, riseB m (nthL m.clocks j) b = r := ⟨_, rfl⟩
    rw [hrb] at hre
    have hstep2 : refN (subM m b) (j + 1) = if r = true then refN (subM m b) j ++ [nthR (subM m b) j] else refN (subM m b) j := by rw [hstep, hre]; rfl
    cases r with
    | true =>
      have hh : hasS (subM m b) = true := by
        cases h : hasS (subM m b) with
        | true => rfl
        | false =>
          have h2 := (has_nth hG2).1 h
          have h3 : nthR (subM m b) j ∈ refL (subM m b) := by
            rw [mem_ref hG2]
            exact ⟨nth_isE hG2 j, hre.symm⟩
          rw [h2] at h3; cases h3
      rw [hh]
      repeat' (first
        | (refine is_ucall ?_; first
          | refine st_callP (h := Rising_bE _ _ _ m s1 s2 s3 _ _ b _ hrb (hm.ext extA) (sl_rd (enc := enc1) (w := 1) (fun _ => rfl) _ _) hxn hb3 hbd.1 hbd.2) (k := ?_)
          | refine st_callP (h := Many_spec _ _ _ m s1 s2 s3 (hm.ext extA) hcl) (k := ?_)
          | refine st_callL (h := Nth_spec _ _ _ m s1 s2 s3 _ (by omega) (by omega) (hm.ext extA) hcl) (k := ?_)
          | fail)
        | (refine is_umcall ?_; first
          | refine mj_callL (h := Nth_spec _ _ _ m s1 s2 s3 _ (by omega) (by omega) (hm.ext extA) hcl) (k := ?_)
          | refine mj_callP (h := Rising_bE _ _ _ m s1 s2 s3 _ _ b _ hrb (hm.ext extA) (sl_rd (enc := enc1) (w := 1) (fun _ => rfl) _ _) hxn hb3 hbd.1 hbd.2) (k := ?_)
          | refine mj_callP (h := Many_spec _ _ _ m s1 s2 s3 (hm.ext extA) hcl) (k := ?_)
          | fail)
        | refine W1 ?_ | refine Wc ?_ | refine W2c ?_ ?_ | refine Wg ?_ | refine W2 ?_ ?_ | exact Wdead | refine Wlive (fun hb => ?_) | intro _ _ _ _ _ _ _ _ | refine We ?_ | refine Wx ?_ | refine Wt ?_ | refine Wm ?_ | refine W2m ?_ ?_ | refine Wl ?_
        | fail)
      refine WPJ.draw 6 mixed (by kernel_rfl) (by kernel_rfl) (by kernel_rfl) (by decide) ?_
      refine MonoJ.normA ?_
      repeat' (first
        | (refine is_ucall ?_; first
          | refine st_callP (h := Rising_bE _ _ _ m s1 s2 s3 _ _ b _ hrb (hm.ext extA) (sl_rd (enc := enc1) (w := 1) (fun _ => rfl) _ _) hxn hb3 hbd.1 hbd.2) (k := ?_)
          | refine st_callP (h := Many_spec _ _ _ m s1 s2 s3 (hm.ext extA) hcl) (k := ?_)
          | refine st_callL (h := Nth_spec _ _ _ m s1 s2 s3 _ (by omega) (by omega) (hm.ext extA) hcl) (k := ?_)
          | fail)
        | (refine is_umcall ?_; first
          | refine mj_callL (h := Nth_spec _ _ _ m s1 s2 s3 _ (by omega) (by omega) (hm.ext extA) hcl) (k := ?_)
          | refine mj_callP (h := Rising_bE _ _ _ m s1 s2 s3 _ _ b _ hrb (hm.ext extA) (sl_rd (enc := enc1) (w := 1) (fun _ => rfl) _ _) hxn hb3 hbd.1 hbd.2) (k := ?_)
          | refine mj_callP (h := Many_spec _ _ _ m s1 s2 s3 (hm.ext extA) hcl) (k := ?_)
          | fail)
        | refine W1 ?_ | refine Wc ?_ | refine W2c ?_ ?_ | refine Wg ?_ | refine W2 ?_ ?_ | exact Wdead | refine Wlive (fun hb => ?_) | intro _ _ _ _ _ _ _ _ | refine We ?_ | refine Wx ?_ | refine Wt ?_ | refine Wm ?_ | refine W2m ?_ ?_ | refine Wl ?_
        | fail)
      exact ⟨rfl, rfl, rfl⟩
    | false =>
      repeat' (first
        | (refine is_ucall ?_; first
          | refine st_callP (h := Rising_bE _ _ _ m s1 s2 s3 _ _ b _ hrb (hm.ext extA) (sl_rd (enc := enc1) (w := 1) (fun _ => rfl) _ _) hxn hb3 hbd.1 hbd.2) (k := ?_)
          | refine st_callP (h := Many_spec _ _ _ m s1 s2 s3 (hm.ext extA) hcl) (k := ?_)
          | refine st_callL (h := Nth_spec _ _ _ m s1 s2 s3 _ (by omega) (by omega) (hm.ext extA) hcl) (k := ?_)
          | fail)
        | (refine is_umcall ?_; first
          | refine mj_callL (h := Nth_spec _ _ _ m s1 s2 s3 _ (by omega) (by omega) (hm.ext extA) hcl) (k := ?_)
          | refine mj_callP (h := Rising_bE _ _ _ m s1 s2 s3 _ _ b _ hrb (hm.ext extA) (sl_rd (enc := enc1) (w := 1) (fun _ => rfl) _ _) hxn hb3 hbd.1 hbd.2) (k := ?_)
          | refine mj_callP (h := Many_spec _ _ _ m s1 s2 s3 (hm.ext extA) hcl) (k := ?_)
          | fail)
        | refine W1 ?_ | refine Wc ?_ | refine W2c ?_ ?_ | refine Wg ?_ | refine W2 ?_ ?_ | exact Wdead | refine Wlive (fun hb => ?_) | intro _ _ _ _ _ _ _ _ | refine We ?_ | refine Wx ?_ | refine Wt ?_ | refine Wm ?_ | refine W2m ?_ ?_ | refine Wl ?_
        | fail)
      refine WPJ.draw 6 mixed (by kernel_rfl) (by kernel_rfl) (by kernel_rfl) (by decide) ?_
      refine MonoJ.normA ?_
      repeat' (first
        | (refine is_ucall ?_; first
          | refine st_callP (h := Rising_bE _ _ _ m s1 s2 s3 _ _ b _ hrb (hm.ext extA) (sl_rd (enc := enc1) (w := 1) (fun _ => rfl) _ _) hxn hb3 hbd.1 hbd.2) (k := ?_)
          | refine st_callP (h := Many_spec _ _ _ m s1 s2 s3 (hm.ext extA) hcl) (k := ?_)
          | refine st_callL (h := Nth_spec _ _ _ m s1 s2 s3 _ (by omega) (by omega) (hm.ext extA) hcl) (k := ?_)
          | fail)
        | (refine is_umcall ?_; first
          | refine mj_callL (h := Nth_spec _ _ _ m s1 s2 s3 _ (by omega) (by omega) (hm.ext extA) hcl) (k := ?_)
          | refine mj_callP (h := Rising_bE _ _ _ m s1 s2 s3 _ _ b _ hrb (hm.ext extA) (sl_rd (enc := enc1) (w := 1) (fun _ => rfl) _ _) hxn hb3 hbd.1 hbd.2) (k := ?_)
          | refine mj_callP (h := Many_spec _ _ _ m s1 s2 s3 (hm.ext extA) hcl) (k := ?_)
          | fail)
        | refine W1 ?_ | refine Wc ?_ | refine W2c ?_ ?_ | refine Wg ?_ | refine W2 ?_ ?_ | exact Wdead | refine Wlive (fun hb => ?_) | intro _ _ _ _ _ _ _ _ | refine We ?_ | refine Wx ?_ | refine Wt ?_ | refine Wm ?_ | refine W2m ?_ ?_ | refine Wl ?_
        | fail)
      exact ⟨(), hlt, (by repeat' (first | exact Weak.nil | refine Weak.wild ?_ | refine Weak.same ?_ | refine Weak.intEq (by first | omega | (simp; done) | (push_cast; omega)) ?_)), rfl, extA, getA, by rw [hstep2, hx]; rfl⟩
  · obtain rfl : j = N := by omega
    have hh : hasS (subM m b) = false := (has_nth hG2).2 (by rw [hNL, hx])
    rw [hh]
    repeat' (first
      | (refine is_ucall ?_; first
        | refine st_callP (h := Rising_bE _ _ _ m s1 s2 s3 _ _ b _ hrb (hm.ext extA) (sl_rd (enc := enc1) (w := 1) (fun _ => rfl) _ _) hxn hb3 hbd.1 hbd.2) (k := ?_)
        | refine st_callP (h := Many_spec _ _ _ m s1 s2 s3 (hm.ext extA) hcl) (k := ?_)
        | refine st_callL (h := Nth_spec _ _ _ m s1 s2 s3 _ (by omega) (by omega) (hm.ext extA) hcl) (k := ?_)
        | fail)
      | (refine is_umcall ?_; first
        | refine mj_callL (h := Nth_spec _ _ _ m s1 s2 s3 _ (by omega) (by omega) (hm.ext extA) hcl) (k := ?_)
        | refine mj_callP (h := Rising_bE _ _ _ m s1 s2 s3 _ _ b _ hrb (hm.ext extA) (sl_rd (enc := enc1) (w := 1) (fun _ => rfl) _ _) hxn hb3 hbd.1 hbd.2) (k := ?_)
        | refine mj_callP (h := Many_spec _ _ _ m s1 s2 s3 (hm.ext extA) hcl) (k := ?_)
        | fail)
      | refine W1 ?_ | refine Wc ?_ | refine W2c ?_ ?_ | refine Wg ?_ | refine W2 ?_ ?_ | exact Wdead | refine Wlive (fun hb => ?_) | intro _ _ _ _ _ _ _ _ | refine We ?_ | refine Wx ?_ | refine Wt ?_ | refine Wm ?_ | refine W2m ?_ ?_ | refine Wl ?_
      | fail)
    exact ⟨rfl, rfl, rfl⟩
end
end Go.Proofs.Ytehobnpoeodhkaa
