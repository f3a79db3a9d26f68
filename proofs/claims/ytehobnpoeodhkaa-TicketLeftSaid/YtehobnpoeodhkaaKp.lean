import Derived.Test.YtehobnpoeodhkaaKw
namespace Go.Proofs.Ytehobnpoeodhkaa
open Go Go.Abs Go.Proofs
set_option maxHeartbeats 1600000
attribute [local irreducible] CallJ OpsJ WPJ CallV MonoJ SpecJ

section
variable {γ : Type} (E : Env γ) (g : γ) (H : AHeap)
theorem Is_spec (n : Int) (r : Int × Int) : CallJ Try.prog E 88 [.int .i64 n, .agg ⟨encR r⟩] (fun v H' g' => v = .bool (decide (r.1 ≤ n) && decide (n ≤ r.2)) ∧ H' = H ∧ g' = g) H g := by
  refine CallJ.tidy ?_
  unfold encR
  refine CallJ.enter Try.func88 rfl (by simp only [Try.ntmps88, List.length_cons, List.length_nil, Nat.zero_add, Nat.reduceAdd, Nat.reduceSub, List.replicate_succ, List.replicate_zero, List.cons_append, List.nil_append]; rfl) ?_
  repeat' (first
    | (refine is_ucall ?_; first
      | refine st_callP (h := In_spec _ _ _ _ _ _) (k := ?_)
      | fail)
    | (refine is_umcall ?_; first
      | refine mj_callP (h := In_spec _ _ _ _ _ _) (k := ?_)
      | fail)
    | refine W1 ?_ | refine Wc ?_ | refine W2c ?_ ?_ | refine Wg ?_ | refine W2 ?_ ?_ | exact Wdead | refine Wlive (fun hb => ?_) | intro _ _ _ _ _ _ _ _ | refine We ?_ | refine Wx ?_ | refine Wt ?_ | refine Wm ?_ | refine W2m ?_ ?_ | refine Wl ?_
    | fail)
  exact ⟨rfl, rfl, rfl⟩
theorem AreErrors_spec (m : HouseM) (s1 s2 s3 lv : Value) (l : List Int) (hm : HouseIs H m s1 s2 s3) (hr : RdS H lv 1 (encI l)) (hn : l.length ≤ 1000000) :
    CallJ Try.prog E 32 [hv m s1 s2 s3, lv] (fun v H' g' => v = .bool (isE m l) ∧ H' = H ∧ g' = g) H g := by
  have hok := hm.cells
  have hr1 := hm.clocks
  have hn1 := hm.n1
  refine CallJ.tidy ?_
  unfold hv
  refine CallJ.enter Try.func32 rfl (by simp only [Try.ntmps32, List.length_cons, List.length_nil, Nat.zero_add, Nat.reduceAdd, Nat.reduceSub, List.replicate_succ, List.replicate_zero, List.cons_append, List.nil_append]; rfl) ?_
  repeat' (first
    | (refine is_ucall ?_; first
      | refine st_callP (h := Is_spec _ _ _ _ _) (k := ?_)
      | fail)
    | (refine is_umcall ?_; first
      | refine mj_callP (h := Is_spec _ _ _ _ _) (k := ?_)
      | fail)
    | refine W1 ?_ | refine Wc ?_ | refine W2c ?_ ?_ | refine Wg ?_ | refine W2 ?_ ?_ | exact Wdead | refine Wlive (fun hb => ?_) | intro _ _ _ _ _ _ _ _ | refine We ?_ | refine Wx ?_ | refine Wt ?_ | refine Wm ?_ | refine W2m ?_ ?_ | refine Wl ?_
    | fail)
  · refine ⟨?_, rfl, rfl⟩
    have : l.length ≠ m.clocks.length := by simp at *; omega
    simp [isE, this]
  · refine WPJ.loopT l.length [12, 13, 14, 15, 16, 17, 18, 19, 20, 21, 22, 23, 24, 25, 26, 27, 28] (fun j (_ : Unit) => [(5, .int .i64 j)])
      (fun j _ H1 g1 => g1 = g ∧ Ext H H1 ∧ H1[H.length]? = some (.row [.int .i64 m.hour, .int .i64 m.grace, s1, s2, s3] 1 true) ∧ ((m.clocks.zip l).take j).all (fun x => inR x.1 x.2) = true) 0 () (Nat.zero_le _) (by intro p hp; simp at hp; rcases hp with rfl; rfl) ⟨rfl, extA, getA, by simp⟩ ?_
    rintro j _ H1 g1 hj ⟨rfl, he, hb0, hx⟩ hl0
    have hlen : l.length = m.clocks.length := by simp at *; omega
    simp only [updT, maskT, List.set_cons_zero, List.set_cons_succ]
    rcases Nat.lt_or_ge j l.length with hlt | hge
    · have hltb : j < m.clocks.length := by omega
      have hea : (encI l)[(j : Int).toNat]? = some [.int .i64 l[j]] := by simp [hlt]
      have heb : (m.clocks.map encR)[(j : Int).toNat]? = some (encR m.clocks[j]) := by simp [hltb]
      have hz : (m.clocks.zip l)[j]? = some (m.clocks[j], l[j]) := by simp [List.getElem?_zip_eq_some, hlt, hltb]
      have hst := all_step (fun x : (Int × Int) × Int => inR x.1 x.2) hz
      have hmem : (m.clocks[j], l[j]) ∈ m.clocks.zip l := List.mem_of_getElem? hz
      generalize m.clocks[j] = r at *
      generalize l[j] = q at *
      repeat' (first
        | (refine is_ucall ?_; first
          | refine st_callP (h := Is_spec _ _ _ _ _) (k := ?_)
          | fail)
        | (refine is_umcall ?_; first
          | refine mj_callP (h := Is_spec _ _ _ _ _) (k := ?_)
          | fail)
        | refine W1 ?_ | refine Wc ?_ | refine W2c ?_ ?_ | refine Wg ?_ | refine W2 ?_ ?_ | exact Wdead | refine Wlive (fun hb => ?_) | intro _ _ _ _ _ _ _ _ | refine We ?_ | refine Wx ?_ | refine Wt ?_ | refine Wm ?_ | refine W2m ?_ ?_ | refine Wl ?_
        | fail)
      refine WPJ.draw 9 mixed (by kernel_rfl) (by kernel_rfl) (by kernel_rfl) (by decide) ?_
      refine MonoJ.normA ?_
      repeat' (first
        | (refine is_ucall ?_; first
          | refine st_callP (h := Is_spec _ _ _ _ _) (k := ?_)
          | fail)
        | (refine is_umcall ?_; first
          | refine mj_callP (h := Is_spec _ _ _ _ _) (k := ?_)
          | fail)
        | refine W1 ?_ | refine Wc ?_ | refine W2c ?_ ?_ | refine Wg ?_ | refine W2 ?_ ?_ | exact Wdead | refine Wlive (fun hb => ?_) | intro _ _ _ _ _ _ _ _ | refine We ?_ | refine Wx ?_ | refine Wt ?_ | refine Wm ?_ | refine W2m ?_ ?_ | refine Wl ?_
        | fail)
      · refine ⟨?_, rfl, rfl⟩
        have hf : inR r q = false := by unfold inR; rw [Bool.and_eq_false_iff, decide_eq_false_iff_not, decide_eq_false_iff_not]; omega
        have hf2 : ((m.clocks.zip l).all fun x => inR x.1 x.2) = false := List.all_eq_false.2 ⟨_, hmem, by simp [hf]⟩
        simp [isE, hf2]
      · refine ⟨(), hlt, (by repeat' (first | exact Weak.nil | refine Weak.wild ?_ | refine Weak.same ?_ | refine Weak.intEq (by first | omega | (simp; done) | (push_cast; omega)) ?_)), rfl, extA, getA, ?_⟩
        have hf : inR r q = true := by unfold inR; rw [Bool.and_eq_true, decide_eq_true_eq, decide_eq_true_eq]; omega
        rw [hst, hx]
        simp [hf]
    · skip
      repeat' (first
        | (refine is_ucall ?_; first
          | refine st_callP (h := Is_spec _ _ _ _ _) (k := ?_)
          | fail)
        | (refine is_umcall ?_; first
          | refine mj_callP (h := Is_spec _ _ _ _ _) (k := ?_)
          | fail)
        | refine W1 ?_ | refine Wc ?_ | refine W2c ?_ ?_ | refine Wg ?_ | refine W2 ?_ ?_ | exact Wdead | refine Wlive (fun hb => ?_) | intro _ _ _ _ _ _ _ _ | refine We ?_ | refine Wx ?_ | refine Wt ?_ | refine Wm ?_ | refine W2m ?_ ?_ | refine Wl ?_
        | fail)
      refine ⟨?_, rfl, rfl⟩
      rw [List.take_of_length_le (by simp; omega)] at hx
      simp [isE, hlen, hx]
/-- the true minute of a clip, read from a list -/
theorem True_spec (m : HouseM) (s1 s2 s3 lv : Value) (l : List Int) (i : Nat) (c : ClipM) (x : Int) (hm : HouseIs H m s1 s2 s3) (hr : RdS H lv 1 (encI l)) (hc : m.clips[i]? = some c) (h0 : 0 ≤ c.clock) (hx : l[c.clock.toNat]? = some x)
    (hb : -1000000 ≤ c.minute ∧ c.minute ≤ 1000000 ∧ -1000000 ≤ x ∧ x ≤ 1000000) :
    CallJ Try.prog E 33 [hv m s1 s2 s3, lv, .int .i64 i] (fun v H' g' => v = .int .i64 (c.minute - x) ∧ H' = H ∧ g' = g) H g := by
  have hok := hm.cells
  have hr3 := hm.clips
  have hil := (List.getElem?_eq_some_iff.1 hc).1
  have hn3 := hm.n3
  have hcl := (List.getElem?_eq_some_iff.1 hx).1
  have hel : (m.clips.map encC)[(i : Int).toNat]? = some (encC c) := by simp [hc]
  have hel2 : (encI l)[c.clock.toNat]? = some [.int .i64 x] := by simp [hx]
  refine CallJ.tidy ?_
  unfold hv
  refine CallJ.enter Try.func33 rfl (by simp only [Try.ntmps33, List.length_cons, List.length_nil, Nat.zero_add, Nat.reduceAdd, Nat.reduceSub, List.replicate_succ, List.replicate_zero, List.cons_append, List.nil_append]; rfl) ?_
  repeat' (first
    | (refine is_ucall ?_; first
      | refine st_callP (h := Is_spec _ _ _ _ _) (k := ?_)
      | fail)
    | (refine is_umcall ?_; first
      | refine mj_callP (h := Is_spec _ _ _ _ _) (k := ?_)
      | fail)
    | refine W1 ?_ | refine Wc ?_ | refine W2c ?_ ?_ | refine Wg ?_ | refine W2 ?_ ?_ | exact Wdead | refine Wlive (fun hb => ?_) | intro _ _ _ _ _ _ _ _ | refine We ?_ | refine Wx ?_ | refine Wt ?_ | refine Wm ?_ | refine W2m ?_ ?_ | refine Wl ?_
    | fail)
  refine WPJ.draw 7 mixed (by kernel_rfl) (by kernel_rfl) (by kernel_rfl) (by decide) ?_
  refine MonoJ.normA ?_
  repeat' (first
    | (refine is_ucall ?_; first
      | refine st_callP (h := Is_spec _ _ _ _ _) (k := ?_)
      | fail)
    | (refine is_umcall ?_; first
      | refine mj_callP (h := Is_spec _ _ _ _ _) (k := ?_)
      | fail)
    | refine W1 ?_ | refine Wc ?_ | refine W2c ?_ ?_ | refine Wg ?_ | refine W2 ?_ ?_ | exact Wdead | refine Wlive (fun hb => ?_) | intro _ _ _ _ _ _ _ _ | refine We ?_ | refine Wx ?_ | refine Wt ?_ | refine Wm ?_ | refine W2m ?_ ?_ | refine Wl ?_
    | fail)
  exact ⟨rfl, rfl, rfl⟩
theorem Full_spec (m : HouseM) (s1 s2 s3 : Value) (hm : HouseIs H m s1 s2 s3) (hb : m.clips.length ≤ 30) : CallJ Try.prog E 74 [hv m s1 s2 s3] (fun v H' g' => v = .int .i64 ((2 ^ m.clips.length - 1 : Nat) : Int) ∧ H' = H ∧ g' = g) H g := by
  have hok := hm.cells
  have hr3 := hm.clips
  obtain ⟨n, hnn⟩ : ∃ n, n = m.clips.length := ⟨_, rfl⟩
  obtain ⟨p, hp⟩ : ∃ p, p = 2 ^ n := ⟨_, rfl⟩
  have hp1 : 1 ≤ p ∧ p ≤ 2 ^ 30 := by rw [hp]; exact ⟨Nat.two_pow_pos n, Nat.pow_le_pow_right (by decide) (by omega)⟩
  have ep := shl_eq (a := 1) (j := n) hp (by rw [Nat.one_mul]) (by omega) (by omega)
  have ep' : IntKind.i64.wrap (1 * 2 ^ (min ((n : Int)).toNat IntKind.i64.bits)) = (p : Int) := ep
  refine CallJ.tidy ?_
  rw [← hnn, ← hp]
  unfold hv
  refine CallJ.enter Try.func74 rfl (by simp only [Try.ntmps74, List.length_cons, List.length_nil, Nat.zero_add, Nat.reduceSub, List.replicate_succ, List.replicate_zero, List.cons_append, List.nil_append]; rfl) ?_
  repeat' (first
    | (refine is_ucall ?_; first
      | refine st_callP (h := Is_spec _ _ _ _ _) (k := ?_)
      | fail)
    | (refine is_umcall ?_; first
      | refine mj_callP (h := Is_spec _ _ _ _ _) (k := ?_)
      | fail)
    | refine W1 ?_ | refine Wc ?_ | refine W2c ?_ ?_ | refine Wg ?_ | refine W2 ?_ ?_ | exact Wdead | refine Wlive (fun hb => ?_) | intro _ _ _ _ _ _ _ _ | refine We ?_ | refine Wx ?_ | refine Wt ?_ | refine Wm ?_ | refine W2m ?_ ?_ | refine Wl ?_
    | fail)
  rw [← hnn, wrap_u64 (n := (n : Int)) (by omega) (by omega)]
  refine OpsJ.normA ?_
  refine st_shl rfl rfl (by omega) ?_
  rw [ep']
  refine OpsJ.normA ?_
  repeat' (first
    | (refine is_ucall ?_; first
      | refine st_callP (h := Is_spec _ _ _ _ _) (k := ?_)
      | fail)
    | (refine is_umcall ?_; first
      | refine mj_callP (h := Is_spec _ _ _ _ _) (k := ?_)
      | fail)
    | refine W1 ?_ | refine Wc ?_ | refine W2c ?_ ?_ | refine Wg ?_ | refine W2 ?_ ?_ | exact Wdead | refine Wlive (fun hb => ?_) | intro _ _ _ _ _ _ _ _ | refine We ?_ | refine Wx ?_ | refine Wt ?_ | refine Wm ?_ | refine W2m ?_ ?_ | refine Wl ?_
    | fail)
  refine ⟨?_, rfl, rfl⟩
  have : (p : Int) - 1 = ((p - 1 : Nat) : Int) := by omega
  rw [this]
/-- no true minute of a clip is smaller than one before it -/
def riseK (m : HouseM) (l : List Int) (i k : Nat) : Bool := (List.range k).all fun k => decide (trueM l (m.clips.getD k ⟨0, 0, 0⟩) ≤ trueM l (m.clips.getD i ⟨0, 0, 0⟩))
def riseI (m : HouseM) (l : List Int) (i : Nat) : Bool := (List.range i).all fun i => riseK m l i i
def riseS (m : HouseM) (l : List Int) : Bool := riseI m l m.clips.length
theorem bit_one {n j : Nat} (hj : j < n) (h : n ≤ 30) : ((((2 ^ n - 1 : Nat) : Int)).fdiv (2 ^ min (IntKind.u64.wrap (j : Int)).toNat IntKind.i64.bits)).tmod 2 = 1 := by
  have hmin : min (j : Int).toNat IntKind.i64.bits = j := by simp [IntKind.bits]; omega
  rw [wrap_u64 (by omega) (by omega), hmin, Int.tmod_eq_emod_of_nonneg (bits_nn n j), bits_at n j, if_pos hj]
theorem Rising_spec (m : HouseM) (s1 s2 s3 lv : Value) (l : List Int) (hm : HouseIs H m s1 s2 s3) (hr : RdS H lv 1 (encI l)) (_hn : l.length ≤ 1000000) (hb3 : m.clips.length ≤ 30)
    (hcl : ∀ c ∈ m.clips, 0 ≤ c.clock ∧ c.clock.toNat < l.length ∧ -1000000 ≤ c.minute ∧ c.minute ≤ 1000000) (hlb : ∀ x ∈ l, -1000000 ≤ x ∧ x ≤ 1000000) :
    CallJ Try.prog E 87 [hv m s1 s2 s3, lv, .int .i64 ((2 ^ m.clips.length - 1 : Nat) : Int)] (fun v H' g' => v = .bool (riseS m l) ∧ H' = H ∧ g' = g) H g := by
  have hok := hm.cells
  have hr3 := hm.clips
  have hat : ∀ i < m.clips.length, ∃ c x, m.clips[i]? = some c ∧ m.clips.getD i ⟨0, 0, 0⟩ = c ∧ 0 ≤ c.clock ∧ l[c.clock.toNat]? = some x ∧ trueM l c = c.minute - x ∧ (-1000000 ≤ c.minute ∧ c.minute ≤ 1000000 ∧ -1000000 ≤ x ∧ x ≤ 1000000) := by
    intro i hi
    have h1 := hcl _ (List.getElem_mem hi)
    have h2 := hlb _ (List.getElem_mem h1.2.1)
    refine ⟨m.clips[i], l[m.clips[i].clock.toNat]'h1.2.1, by simp [hi], by simp [List.getD, hi], h1.1, by simp [h1.2.1], ?_, by omega⟩
    unfold trueM
    simp [List.getD, h1.2.1]
  refine CallJ.tidy ?_
  unfold hv
  refine CallJ.enter Try.func87 rfl (by simp only [Try.ntmps87, List.length_cons, List.length_nil, Nat.zero_add, Nat.reduceAdd, Nat.reduceSub, List.replicate_succ, List.replicate_zero, List.cons_append, List.nil_append]; rfl) ?_
  repeat' (first
    | (refine is_ucall ?_; first
      | refine st_callP (h := True_spec _ _ _ m s1 s2 s3 lv l _ _ _ (hm.ext extA) (hr.ext extA) hci hci0 hcix hcib) (k := ?_)
      | refine st_callP (h := True_spec _ _ _ m s1 s2 s3 lv l _ _ _ (hm.ext extA) (hr.ext extA) hck hck0 hckx hckb) (k := ?_)
      | fail)
    | (refine is_umcall ?_; first
      | refine mj_callP (h := True_spec _ _ _ m s1 s2 s3 lv l _ _ _ (hm.ext extA) (hr.ext extA) hci hci0 hcix hcib) (k := ?_)
      | refine mj_callP (h := True_spec _ _ _ m s1 s2 s3 lv l _ _ _ (hm.ext extA) (hr.ext extA) hck hck0 hckx hckb) (k := ?_)
      | fail)
    | refine W1 ?_ | refine Wc ?_ | refine W2c ?_ ?_ | refine Wg ?_ | refine W2 ?_ ?_ | exact Wdead | refine Wlive (fun hb => ?_) | intro _ _ _ _ _ _ _ _ | refine We ?_ | refine Wx ?_ | refine Wt ?_ | refine Wm ?_ | refine W2m ?_ ?_ | refine Wl ?_
    | fail)
  refine WPJ.loopT m.clips.length [9, 10, 11, 12, 13, 14, 15, 16, 17, 18, 19, 20, 21, 22, 23, 24, 25, 26, 27, 28, 29, 30, 31, 32, 33, 34, 35, 36, 37, 38, 39, 40, 41, 42, 43, 44, 45, 8] (fun i (_ : Unit) => [(7, .int .i64 i)])
    (fun i _ H1 g1 => g1 = g ∧ Ext H H1 ∧ H1[H.length]? = some (.row [.int .i64 m.hour, .int .i64 m.grace, s1, s2, s3] 1 true) ∧ riseI m l i = true) 0 () (Nat.zero_le _) (by intro p hp; simp at hp; rcases hp with rfl; rfl) ⟨rfl, extA, getA, by simp [riseI]⟩ ?_
  rintro i _ H1 g1 hi ⟨rfl, he, hb0, hx⟩ hl0
  simp only [updT, maskT, List.set_cons_zero, List.set_cons_succ]
  rcases Nat.lt_or_ge i m.clips.length with hlt | hge
  · obtain ⟨ci, xi, hci, hcid, hci0, hcix, hcit, hcib⟩ := hat i hlt
    have hwi : IntKind.u64.wrap (i : Int) = i := wrap_u64 (by omega) (by omega)
    have hbi := bit_one hlt hb3
    repeat' (first
      | (refine is_ucall ?_; first
        | refine st_callP (h := True_spec _ _ _ m s1 s2 s3 lv l _ _ _ (hm.ext extA) (hr.ext extA) hci hci0 hcix hcib) (k := ?_)
        | refine st_callP (h := True_spec _ _ _ m s1 s2 s3 lv l _ _ _ (hm.ext extA) (hr.ext extA) hck hck0 hckx hckb) (k := ?_)
        | fail)
      | (refine is_umcall ?_; first
        | refine mj_callP (h := True_spec _ _ _ m s1 s2 s3 lv l _ _ _ (hm.ext extA) (hr.ext extA) hci hci0 hcix hcib) (k := ?_)
        | refine mj_callP (h := True_spec _ _ _ m s1 s2 s3 lv l _ _ _ (hm.ext extA) (hr.ext extA) hck hck0 hckx hckb) (k := ?_)
        | fail)
      | refine W1 ?_ | refine Wc ?_ | refine W2c ?_ ?_ | refine Wg ?_ | refine W2 ?_ ?_ | exact Wdead | refine Wlive (fun hb => ?_) | intro _ _ _ _ _ _ _ _ | refine We ?_ | refine Wx ?_ | refine Wt ?_ | refine Wm ?_ | refine W2m ?_ ?_ | refine Wl ?_
      | fail)
    refine WPJ.loopT i [16, 17, 18, 19, 20, 21, 22, 23, 24, 25, 26, 27, 28, 29, 30, 31, 32, 33, 34, 35, 36, 37, 38, 39, 40, 41, 42, 43, 44, 45] (fun k (_ : Unit) => [(8, .int .i64 k)])
      (fun k _ H1 g2 => g2 = g1 ∧ Ext H H1 ∧ H1[H.length]? = some (.row [.int .i64 m.hour, .int .i64 m.grace, s1, s2, s3] 1 true) ∧ riseK m l i k = true) 0 () (Nat.zero_le _) (by intro p hp; simp at hp; rcases hp with rfl; rfl) ⟨rfl, he, hb0, by simp [riseK]⟩ ?_
    clear hb0 he hl0
    rintro k _ H1 g1 hk ⟨rfl, he, hb0, hy⟩ hl0
    simp only [updT, maskT, List.set_cons_zero, List.set_cons_succ]
    rcases Nat.lt_or_ge k i with hlt2 | hge2
    · obtain ⟨ck, xk, hck, hckd, hck0, hckx, hckt, hckb⟩ := hat k (by omega)
      have hwk : IntKind.u64.wrap (k : Int) = k := wrap_u64 (by omega) (by omega)
      have hbk := bit_one (n := m.clips.length) (j := k) (by omega) hb3
      have hstep : riseK m l i (k + 1) = (riseK m l i k && decide (trueM l ck ≤ trueM l ci)) := by
        unfold riseK; rw [range_all_succ, hckd, hcid]
      repeat' (first
        | (refine is_ucall ?_; first
          | refine st_callP (h := True_spec _ _ _ m s1 s2 s3 lv l _ _ _ (hm.ext extA) (hr.ext extA) hci hci0 hcix hcib) (k := ?_)
          | refine st_callP (h := True_spec _ _ _ m s1 s2 s3 lv l _ _ _ (hm.ext extA) (hr.ext extA) hck hck0 hckx hckb) (k := ?_)
          | fail)
        | (refine is_umcall ?_; first
          | refine mj_callP (h := True_spec _ _ _ m s1 s2 s3 lv l _ _ _ (hm.ext extA) (hr.ext extA) hci hci0 hcix hcib) (k := ?_)
          | refine mj_callP (h := True_spec _ _ _ m s1 s2 s3 lv l _ _ _ (hm.ext extA) (hr.ext extA) hck hck0 hckx hckb) (k := ?_)
          | fail)
        | refine W1 ?_ | refine Wc ?_ | refine W2c ?_ ?_ | refine Wg ?_ | refine W2 ?_ ?_ | exact Wdead | refine Wlive (fun hb => ?_) | intro _ _ _ _ _ _ _ _ | refine We ?_ | refine Wx ?_ | refine Wt ?_ | refine Wm ?_ | refine W2m ?_ ?_ | refine Wl ?_
        | fail)
      refine WPJ.draw 22 mixed (by kernel_rfl) (by kernel_rfl) (by kernel_rfl) (by decide) ?_
      refine MonoJ.normA ?_
      repeat' (first
        | (refine is_ucall ?_; first
          | refine st_callP (h := True_spec _ _ _ m s1 s2 s3 lv l _ _ _ (hm.ext extA) (hr.ext extA) hci hci0 hcix hcib) (k := ?_)
          | refine st_callP (h := True_spec _ _ _ m s1 s2 s3 lv l _ _ _ (hm.ext extA) (hr.ext extA) hck hck0 hckx hckb) (k := ?_)
          | fail)
        | (refine is_umcall ?_; first
          | refine mj_callP (h := True_spec _ _ _ m s1 s2 s3 lv l _ _ _ (hm.ext extA) (hr.ext extA) hci hci0 hcix hcib) (k := ?_)
          | refine mj_callP (h := True_spec _ _ _ m s1 s2 s3 lv l _ _ _ (hm.ext extA) (hr.ext extA) hck hck0 hckx hckb) (k := ?_)
          | fail)
        | refine W1 ?_ | refine Wc ?_ | refine W2c ?_ ?_ | refine Wg ?_ | refine W2 ?_ ?_ | exact Wdead | refine Wlive (fun hb => ?_) | intro _ _ _ _ _ _ _ _ | refine We ?_ | refine Wx ?_ | refine Wt ?_ | refine Wm ?_ | refine W2m ?_ ?_ | refine Wl ?_
        | fail)
      · have hfk : riseK m l i i = false := List.all_eq_false.2 ⟨k, List.mem_range.2 hlt2, by rw [hckd, hcid, hckt, hcit]; simp; omega⟩
        have hfs : riseS m l = false := List.all_eq_false.2 ⟨i, List.mem_range.2 hlt, by rw [hfk]; simp⟩
        exact ⟨by rw [hfs], rfl, rfl⟩
      · exact ⟨(), hlt2, (by repeat' (first | exact Weak.nil | refine Weak.wild ?_ | refine Weak.same ?_ | refine Weak.intEq (by first | omega | (simp; done) | (push_cast; omega)) ?_)), rfl, extA, getA, by rw [hstep, hy, hckt, hcit, decide_eq_true (by omega)]; rfl⟩
    · skip
      repeat' (first
        | (refine is_ucall ?_; first
          | refine st_callP (h := True_spec _ _ _ m s1 s2 s3 lv l _ _ _ (hm.ext extA) (hr.ext extA) hci hci0 hcix hcib) (k := ?_)
          | refine st_callP (h := True_spec _ _ _ m s1 s2 s3 lv l _ _ _ (hm.ext extA) (hr.ext extA) hck hck0 hckx hckb) (k := ?_)
          | fail)
        | (refine is_umcall ?_; first
          | refine mj_callP (h := True_spec _ _ _ m s1 s2 s3 lv l _ _ _ (hm.ext extA) (hr.ext extA) hci hci0 hcix hcib) (k := ?_)
          | refine mj_callP (h := True_spec _ _ _ m s1 s2 s3 lv l _ _ _ (hm.ext extA) (hr.ext extA) hck hck0 hckx hckb) (k := ?_)
          | fail)
        | refine W1 ?_ | refine Wc ?_ | refine W2c ?_ ?_ | refine Wg ?_ | refine W2 ?_ ?_ | exact Wdead | refine Wlive (fun hb => ?_) | intro _ _ _ _ _ _ _ _ | refine We ?_ | refine Wx ?_ | refine Wt ?_ | refine Wm ?_ | refine W2m ?_ ?_ | refine Wl ?_
        | fail)
      obtain rfl : k = i := by omega
      have hs : riseI m l (k + 1) = (riseI m l k && riseK m l k k) := range_all_succ _ _
      exact ⟨(), hlt, (by repeat' (first | exact Weak.nil | refine Weak.wild ?_ | refine Weak.same ?_ | refine Weak.intEq (by first | omega | (simp; done) | (push_cast; omega)) ?_)), rfl, he, hb0, by rw [hs, hx, hy]; rfl⟩
  · skip
    repeat' (first
      | (refine is_ucall ?_; first
        | refine st_callP (h := True_spec _ _ _ m s1 s2 s3 lv l _ _ _ (hm.ext extA) (hr.ext extA) hci hci0 hcix hcib) (k := ?_)
        | refine st_callP (h := True_spec _ _ _ m s1 s2 s3 lv l _ _ _ (hm.ext extA) (hr.ext extA) hck hck0 hckx hckb) (k := ?_)
        | fail)
      | (refine is_umcall ?_; first
        | refine mj_callP (h := True_spec _ _ _ m s1 s2 s3 lv l _ _ _ (hm.ext extA) (hr.ext extA) hci hci0 hcix hcib) (k := ?_)
        | refine mj_callP (h := True_spec _ _ _ m s1 s2 s3 lv l _ _ _ (hm.ext extA) (hr.ext extA) hck hck0 hckx hckb) (k := ?_)
        | fail)
      | refine W1 ?_ | refine Wc ?_ | refine W2c ?_ ?_ | refine Wg ?_ | refine W2 ?_ ?_ | exact Wdead | refine Wlive (fun hb => ?_) | intro _ _ _ _ _ _ _ _ | refine We ?_ | refine Wx ?_ | refine Wt ?_ | refine Wm ?_ | refine W2m ?_ ?_ | refine Wl ?_
      | fail)
    obtain rfl : i = m.clips.length := by omega
    show Value.bool true = Value.bool (riseI m l m.clips.length) ∧ _ ∧ _
    rw [hx]
    exact ⟨rfl, rfl, rfl⟩
theorem isE_bd {m : HouseM} {l : List Int} (hG : Good m) (h : isE m l = true) : (∀ c ∈ m.clips, 0 ≤ c.clock ∧ c.clock.toNat < l.length ∧ -1000000 ≤ c.minute ∧ c.minute ≤ 1000000) ∧ (∀ x ∈ l, -1000000 ≤ x ∧ x ≤ 1000000) := by
  simp only [isE, Bool.and_eq_true, decide_eq_true_eq, List.all_eq_true] at h
  refine ⟨fun c hc => by have := hG.clip c hc; omega, fun x hx => ?_⟩
  obtain ⟨i, hi, rfl⟩ := List.getElem_of_mem hx
  have h1 : (m.clocks[i]'(by omega), l[i]) ∈ m.clocks.zip l := List.mem_of_getElem? (i := i) (by simp [List.getElem?_zip_eq_some])
  have h2 := h.2 _ h1
  have h3 := hG.clock _ (List.getElem_mem (by omega : i < m.clocks.length))
  simp only [inR, Bool.and_eq_true, decide_eq_true_eq] at h2
  omega
theorem IsTruth_spec (m : HouseM) (s1 s2 s3 lv : Value) (l : List Int) (hm : HouseIs H m s1 s2 s3) (hr : RdS H lv 1 (encI l)) (hn : l.length ≤ 1000000) (hG : Good m) :
    CallJ Try.prog E 31 [hv m s1 s2 s3, lv] (fun v H' g' => v = .bool (isE m l && riseS m l) ∧ H' = H ∧ g' = g) H g := by
  have hok := hm.cells
  have hb3 : m.clips.length ≤ 30 := by have := hG.n3; omega
  refine CallJ.tidy ?_
  unfold hv
  refine CallJ.enter Try.func31 rfl (by simp only [Try.ntmps31, List.length_cons, List.length_nil, Nat.zero_add, Nat.reduceAdd, Nat.reduceSub, List.replicate_succ, List.replicate_zero, List.cons_append, List.nil_append]; rfl) ?_
  repeat' (first
    | (refine is_ucall ?_; first
      | refine st_callP (h := AreErrors_spec _ _ _ m s1 s2 s3 lv l (hm.ext extA) (hr.ext extA) hn) (k := ?_)
      | refine st_callP (h := Full_spec _ _ _ m s1 s2 s3 (hm.ext extA) hb3) (k := ?_)
      | refine st_callP (h := Rising_spec _ _ _ m s1 s2 s3 lv l (hm.ext extA) (hr.ext extA) hn hb3 (isE_bd hG (by assumption)).1 (isE_bd hG (by assumption)).2) (k := ?_)
      | fail)
    | (refine is_umcall ?_; first
      | refine mj_callP (h := AreErrors_spec _ _ _ m s1 s2 s3 lv l (hm.ext extA) (hr.ext extA) hn) (k := ?_)
      | refine mj_callP (h := Full_spec _ _ _ m s1 s2 s3 (hm.ext extA) hb3) (k := ?_)
      | refine mj_callP (h := Rising_spec _ _ _ m s1 s2 s3 lv l (hm.ext extA) (hr.ext extA) hn hb3 (isE_bd hG (by assumption)).1 (isE_bd hG (by assumption)).2) (k := ?_)
      | fail)
    | refine W1 ?_ | refine Wc ?_ | refine W2c ?_ ?_ | refine Wg ?_ | refine W2 ?_ ?_ | exact Wdead | refine Wlive (fun hb => ?_) | intro _ _ _ _ _ _ _ _ | refine We ?_ | refine Wx ?_ | refine Wt ?_ | refine Wm ?_ | refine W2m ?_ ?_ | refine Wl ?_
    | fail)
  refine WPJ.draw 8 mixed (by kernel_rfl) (by kernel_rfl) (by kernel_rfl) (by decide) ?_
  refine MonoJ.normA ?_
  repeat' (first
    | (refine is_ucall ?_; first
      | refine st_callP (h := AreErrors_spec _ _ _ m s1 s2 s3 lv l (hm.ext extA) (hr.ext extA) hn) (k := ?_)
      | refine st_callP (h := Full_spec _ _ _ m s1 s2 s3 (hm.ext extA) hb3) (k := ?_)
      | refine st_callP (h := Rising_spec _ _ _ m s1 s2 s3 lv l (hm.ext extA) (hr.ext extA) hn hb3 (isE_bd hG (by assumption)).1 (isE_bd hG (by assumption)).2) (k := ?_)
      | fail)
    | (refine is_umcall ?_; first
      | refine mj_callP (h := AreErrors_spec _ _ _ m s1 s2 s3 lv l (hm.ext extA) (hr.ext extA) hn) (k := ?_)
      | refine mj_callP (h := Full_spec _ _ _ m s1 s2 s3 (hm.ext extA) hb3) (k := ?_)
      | refine mj_callP (h := Rising_spec _ _ _ m s1 s2 s3 lv l (hm.ext extA) (hr.ext extA) hn hb3 (isE_bd hG (by assumption)).1 (isE_bd hG (by assumption)).2) (k := ?_)
      | fail)
    | refine W1 ?_ | refine Wc ?_ | refine W2c ?_ ?_ | refine Wg ?_ | refine W2 ?_ ?_ | exact Wdead | refine Wlive (fun hb => ?_) | intro _ _ _ _ _ _ _ _ | refine We ?_ | refine Wx ?_ | refine Wt ?_ | refine Wm ?_ | refine W2m ?_ ?_ | refine Wl ?_
    | fail)
  all_goals exact ⟨rfl, rfl, rfl⟩
end
/-! ### ProveTruth, and what the reference says -/
theorem trueM_errs {m : HouseM} {l : List Int} (hG : Good m) (h : isE m l = true) {c : ClipM} (hc : c ∈ m.clips) : trueM (errsOf m l) c = trueM l c := by
  have h1 := ((isE_bd hG h).1 c hc).2.1
  unfold trueM errsOf
  rw [if_pos h]
  simp [List.getD, List.getElem?_append_left h1]
theorem truth_iff (es : List Int) : ∀ (cs : List ClipM) (last : Int), isTruthS es last cs = true ↔ (∀ c ∈ cs, last ≤ trueM es c) ∧ cs.Pairwise (fun a b => trueM es a ≤ trueM es b)
  | [], last => by simp [isTruthS]
  | c :: l, last => by
    have ih := truth_iff es l (trueM es c)
    simp only [isTruthS, Bool.and_eq_true, decide_eq_true_eq, ih, List.pairwise_cons, List.mem_cons, forall_eq_or_imp]
    constructor
    · rintro ⟨h1, h2, h3⟩
      exact ⟨⟨h1, fun x hx => Int.le_trans h1 (h2 x hx)⟩, h2, h3⟩
    · rintro ⟨⟨h1, _⟩, h2, h3⟩
      exact ⟨h1, h2, h3⟩
theorem rise_iff (m : HouseM) (l : List Int) : riseS m l = true ↔ m.clips.Pairwise (fun a b => trueM l a ≤ trueM l b) := by
  unfold riseS riseI riseK
  rw [List.pairwise_iff_getElem]
  simp only [List.all_eq_true, List.mem_range, decide_eq_true_eq]
  constructor
  · intro h i j hi hj hij
    have := h j hj i hij
    simpa [List.getD, hi, hj] using this
  · intro h j hj i hij
    have := h i j (by omega) hj hij
    simpa [List.getD, hj, show i < m.clips.length by omega] using this
theorem mem_gen : ∀ (cs : List (Int × Int)) (l : List Int), l.length = cs.length → ((cs.zip l).all fun x => inR x.1 x.2) = true → l ∈ gen cs
  | [], [], _, _ => by simp [gen]
  | [], _ :: _, h, _ => by simp at h
  | _ :: _, [], h, _ => by simp at h
  | r :: cs, x :: l, h, h2 => by
    simp only [List.zip_cons_cons, List.all_cons, Bool.and_eq_true] at h2
    have ih := mem_gen cs l (by simpa using h) h2.2
    have h3 := h2.1
    simp only [inR, Bool.and_eq_true, decide_eq_true_eq] at h3
    refine List.mem_flatMap.2 ⟨x, ?_, List.mem_map.2 ⟨l, ih, rfl⟩⟩
    unfold rng
    exact List.mem_map.2 ⟨(x - r.1).toNat, List.mem_range.2 (by omega), by omega⟩
theorem prove_eq {m : HouseM} {l : List Int} (hS : checkS m = 0) : proveS m l = (isE m l && riseS m l) := by
  have hG := good_of hS
  unfold proveS
  rw [hS, decide_eq_true rfl, Bool.true_and]
  cases hE : isE m l with
  | false => rfl
  | true =>
    rw [Bool.true_and, Bool.true_and, Bool.eq_iff_iff, rise_iff]
    have hE' := hE
    simp only [isE, Bool.and_eq_true, decide_eq_true_eq] at hE'
    have hpw : m.clips.Pairwise (fun a b => trueM (errsOf m l) a ≤ trueM (errsOf m l) b) ↔ m.clips.Pairwise (fun a b => trueM l a ≤ trueM l b) :=
      List.Pairwise.iff_of_mem fun ha hb => by rw [trueM_errs hG hE ha, trueM_errs hG hE hb]
    rw [List.contains_iff_mem]
    unfold truthsL
    rw [List.mem_filter]
    unfold isT
    rw [truth_iff, hpw]
    have hmem : errsOf m l ∈ errs m := by
      unfold errsOf errs
      rw [if_pos hE]
      exact List.mem_map.2 ⟨l, mem_gen _ _ hE'.1 hE'.2, rfl⟩
    have hlo : ∀ c ∈ m.clips, (-9223372036854775808 : Int) ≤ trueM (errsOf m l) c := fun c hc => by
      have h1 := (isE_bd hG hE).1 c hc
      rw [trueM_errs hG hE hc]
      unfold trueM
      have h2 := (isE_bd hG hE).2 _ (List.getElem_mem h1.2.1)
      simp [List.getD, h1.2.1]
      omega
    exact ⟨fun h => h.2.2, fun h => ⟨hmem, hlo, h⟩⟩
end Go.Proofs.Ytehobnpoeodhkaa
