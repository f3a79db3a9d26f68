import Derived.Test.YtehobnpoeodhkaaKr
namespace Go.Proofs.Ytehobnpoeodhkaa
open Go Go.Abs Go.Proofs
set_option maxHeartbeats 1600000
attribute [local irreducible] CallJ OpsJ WPJ CallV MonoJ SpecJ

/-- a house that can be read, its rows ours or not -/
structure HouseV (H : AHeap) (m : HouseM) (s1 s2 s3 : Value) : Prop where
  clocks : RdS H s1 2 (m.clocks.map encR)
  tickets : RdS H s2 2 (m.tickets.map encR)
  clips : RdS H s3 3 (m.clips.map encC)
  ok : [s1, s2, s3].all cellOk = true
  n1 : m.clocks.length ≤ 1000000
  n2 : m.tickets.length ≤ 1000000
  n3 : m.clips.length ≤ 1000000
theorem HouseV.ext {H H' : AHeap} {m : HouseM} {s1 s2 s3 : Value} (h : HouseV H m s1 s2 s3) (he : Ext H H') : HouseV H' m s1 s2 s3 := ⟨h.clocks.ext he, h.tickets.ext he, h.clips.ext he, h.ok, h.n1, h.n2, h.n3⟩
theorem HouseV.cells {H : AHeap} {m : HouseM} {s1 s2 s3 : Value} (h : HouseV H m s1 s2 s3) : [Value.int .i64 m.hour, Value.int .i64 m.grace, s1, s2, s3].all cellOk = true := by have := h.ok; simp [cellOk] at this ⊢; exact this
theorem HouseIs.v {H : AHeap} {m : HouseM} {s1 s2 s3 : Value} (h : HouseIs H m s1 s2 s3) : HouseV H m s1 s2 s3 := ⟨h.clocks, h.tickets, h.clips, h.ok, h.n1, h.n2, h.n3⟩
section
variable {γ : Type} (E : Env γ) (g : γ) (H : AHeap)
theorem Many_v (m : HouseM) (s1 s2 s3 : Value) (hm : HouseV H m s1 s2 s3) (hc : ∀ r ∈ m.clocks, isClockS r = true) : CallJ Try.prog E 116 [hv m s1 s2 s3] (fun v H' g' => v = .int .i64 (min 3000 (prodS m.clocks)) ∧ H' = H ∧ g' = g) H g := by
  have hok := hm.cells
  have hr := hm.clocks
  have hn := hm.n1
  refine CallJ.tidy ?_
  unfold hv
  refine CallJ.enter Try.func116 rfl (by simp only [Try.ntmps116, List.length_cons, List.length_nil, Nat.zero_add, Nat.reduceSub, List.replicate_succ, List.replicate_zero, List.cons_append, List.nil_append]; rfl) ?_
  repeat' (first
    | (refine is_ucall ?_; first
      | refine st_callP (h := Size_spec _ _ _ r hs1 hs2) (k := ?_)
      | fail)
    | (refine is_umcall ?_; first
      | refine mj_callP (h := Size_spec _ _ _ r hs1 hs2) (k := ?_)
      | fail)
    | refine W1 ?_ | refine Wc ?_ | refine W2c ?_ ?_ | refine Wg ?_ | refine W2 ?_ ?_ | exact Wdead | refine Wlive (fun hb => ?_) | intro _ _ _ _ _ _ _ _ | refine We ?_ | refine Wx ?_ | refine Wt ?_ | refine Wm ?_ | refine W2m ?_ ?_ | refine Wl ?_
    | fail)
  refine WPJ.loopT m.clocks.length [5, 6, 7, 8, 9, 12, 13, 14, 15, 16, 17, 18, 19, 20, 10, 11] (fun j (x : Int) => [(4, .int .i64 j), (3, .int .i64 x)])
    (fun j x H1 g1 => g1 = g ∧ Ext H H1 ∧ H1[H.length]? = some (.row (hcells m s1 s2 s3) 1 true) ∧ x = min 3000 (prodS (m.clocks.take j))) 0 1 (Nat.zero_le _)
    (by intro p hp; simp at hp; rcases hp with rfl | rfl <;> rfl) ⟨rfl, extA, getA, by rw [List.take_zero]; rfl⟩ ?_
  rintro j x H1 g1 hj ⟨rfl, he, hb0, hx⟩ hl0
  simp only [updT, maskT, List.set_cons_zero, List.set_cons_succ]
  rcases Nat.lt_or_ge j m.clocks.length with hlt | hge
  · have hel : (m.clocks.map encR)[(j : Int).toNat]? = some (encR m.clocks[j]) := by simp [hlt]
    have hcr := hc _ (List.getElem_mem hlt)
    have hsucc : prodS (m.clocks.take (j + 1)) = prodS (m.clocks.take j) * (m.clocks[j].2 - m.clocks[j].1 + 1) := by rw [List.take_succ_eq_append_getElem hlt, prodS_snoc]
    have hp1 := (prodS_bd (m.clocks.take j) fun r hr => hc r (List.mem_of_mem_take hr)).1
    generalize m.clocks[j] = r at *
    simp only [isClockS, Bool.and_eq_true, decide_eq_true_eq] at hcr
    have hs1 : -1000000 ≤ r.1 ∧ r.1 ≤ 1000000 := by omega
    have hs2 : -1000000 ≤ r.2 ∧ r.2 ≤ 1000000 := by omega
    have hxb : 1 ≤ x ∧ x ≤ 3000 := by omega
    have hmul : 0 ≤ x * (r.2 - r.1 + 1) ∧ x * (r.2 - r.1 + 1) ≤ 183000 := by
      have h1 : 0 ≤ r.2 - r.1 + 1 := by omega
      have h2 : r.2 - r.1 + 1 ≤ 61 := by omega
      exact ⟨Int.mul_nonneg (by omega) h1, Int.le_trans (Int.mul_le_mul hxb.2 h2 h1 (by omega)) (by decide)⟩
    have hms := min_step hp1 (show 1 ≤ r.2 - r.1 + 1 by omega)
    repeat' (first
      | (refine is_ucall ?_; first
        | refine st_callP (h := Size_spec _ _ _ r hs1 hs2) (k := ?_)
        | fail)
      | (refine is_umcall ?_; first
        | refine mj_callP (h := Size_spec _ _ _ r hs1 hs2) (k := ?_)
        | fail)
      | refine W1 ?_ | refine Wc ?_ | refine W2c ?_ ?_ | refine Wg ?_ | refine W2 ?_ ?_ | exact Wdead | refine Wlive (fun hb => ?_) | intro _ _ _ _ _ _ _ _ | refine We ?_ | refine Wx ?_ | refine Wt ?_ | refine Wm ?_ | refine W2m ?_ ?_ | refine Wl ?_
      | fail)
    refine ⟨_, hlt, (by repeat' (first | exact Weak.nil | refine Weak.wild ?_ | refine Weak.same ?_ | refine Weak.intEq (by first | omega | (simp; done) | (push_cast; omega)) ?_)), rfl, extA, getA, ?_⟩
    rw [hsucc, ← hms, ← hx, min_if]
  · skip
    repeat' (first
      | (refine is_ucall ?_; first
        | refine st_callP (h := Size_spec _ _ _ r hs1 hs2) (k := ?_)
        | fail)
      | (refine is_umcall ?_; first
        | refine mj_callP (h := Size_spec _ _ _ r hs1 hs2) (k := ?_)
        | fail)
      | refine W1 ?_ | refine Wc ?_ | refine W2c ?_ ?_ | refine Wg ?_ | refine W2 ?_ ?_ | exact Wdead | refine Wlive (fun hb => ?_) | intro _ _ _ _ _ _ _ _ | refine We ?_ | refine Wx ?_ | refine Wt ?_ | refine Wm ?_ | refine W2m ?_ ?_ | refine Wl ?_
      | fail)
    obtain rfl : j = m.clocks.length := by omega
    rw [List.take_length] at hx
    exact ⟨by rw [hx], rfl, rfl⟩

theorem Nth_v (m : HouseM) (s1 s2 s3 : Value) (n : Int) (hn0 : 0 ≤ n) (hn1 : n ≤ 1000000) (hm : HouseV H m s1 s2 s3) (hcl : ∀ r ∈ m.clocks, isClockS r = true) : CallJ Try.prog E 117 [hv m s1 s2 s3, .int .i64 n] (fun v H' g' => v = slV H.length (nthL m.clocks n) ∧ H' = H ++ slH enc1 1 (nthL m.clocks n) ∧ g' = g) H g := by
  have hok := hm.cells
  have hr := hm.clocks
  have hnl := hm.n1
  refine CallJ.tidy ?_
  unfold hv
  refine CallJ.enter Try.func117 rfl (by simp only [Try.ntmps117, List.length_cons, List.length_nil, Nat.zero_add, Nat.reduceAdd, Nat.reduceSub, List.replicate_succ, List.replicate_zero, List.cons_append, List.nil_append]; rfl) ?_
  repeat' (first
    | (refine is_ucall ?_; first
      | refine st_callP (h := Size_spec _ _ _ r hs1 hs2) (k := ?_)
      | fail)
    | (refine is_umcall ?_; first
      | refine mj_callP (h := Size_spec _ _ _ r hs1 hs2) (k := ?_)
      | fail)
    | refine W1 ?_ | refine Wc ?_ | refine W2c ?_ ?_ | refine Wg ?_ | refine W2 ?_ ?_ | exact Wdead | refine Wlive (fun hb => ?_) | intro _ _ _ _ _ _ _ _ | refine We ?_ | refine Wx ?_ | refine Wt ?_ | refine Wm ?_ | refine W2m ?_ ?_ | refine Wl ?_
    | fail)
  refine WPJ.loopT m.clocks.length [7, 8, 9, 10, 11, 12, 13, 14, 15, 16, 17, 18, 19, 20, 21, 22, 23, 24, 25, 26, 27, 28, 29, 30, 31, 32, 33] (fun j (v : Value × Int) => [(6, .int .i64 j), (5, v.1), (1, .int .i64 v.2)])
    (fun j v H1 g1 => g1 = g ∧ Ext H H1 ∧ H1[H.length]? = some (.row (hcells m s1 s2 s3) 1 true) ∧ AppG enc1 1 H1 (H.length + 1) v.1 (nthL (m.clocks.take j) n) ∧ v.2 = restN (m.clocks.take j) n ∧ H.length + 1 ≤ H1.length) 0 (.slice none 0 0, n) (Nat.zero_le _)
    (by intro p hp; simp at hp; rcases hp with rfl | rfl | rfl <;> rfl) ⟨rfl, extA, getA, AppG.nil, rfl, by simp⟩ ?_
  rintro j ⟨v, x⟩ H1 g1 hj ⟨rfl, he, hb0, hA, hx, hlen⟩ hl0
  simp only at hA hx
  simp only [updT, maskT, List.set_cons_zero, List.set_cons_succ]
  rcases Nat.lt_or_ge j m.clocks.length with hlt | hge
  · have hel : (m.clocks.map encR)[(j : Int).toNat]? = some (encR m.clocks[j]) := by simp [hlt]
    have hcr := hcl _ (List.getElem_mem hlt)
    have htk : m.clocks.take (j + 1) = m.clocks.take j ++ [m.clocks[j]] := List.take_succ_eq_append_getElem hlt
    have hbd := restN_bd (m.clocks.take j) n (fun r hr => by have := hcl r (List.mem_of_mem_take hr); simp only [isClockS, Bool.and_eq_true, decide_eq_true_eq] at this; omega) hn0
    rw [← hx] at hbd
    have hsn := nthL_snoc m.clocks[j] (m.clocks.take j) n
    have hrs := restN_snoc m.clocks[j] (m.clocks.take j) n
    rw [← htk, ← hx] at hsn hrs
    generalize m.clocks[j] = r at *
    simp only [isClockS, Bool.and_eq_true, decide_eq_true_eq] at hcr
    have hs1 : -1000000 ≤ r.1 ∧ r.1 ≤ 1000000 := by omega
    have hs2 : -1000000 ≤ r.2 ∧ r.2 ≤ 1000000 := by omega
    have hsz : 0 < r.2 - r.1 + 1 := by omega
    have hm1 : 0 ≤ x % (r.2 - r.1 + 1) := Int.emod_nonneg _ (by omega)
    have hm2 : x % (r.2 - r.1 + 1) < r.2 - r.1 + 1 := Int.emod_lt_of_pos _ hsz
    have hmt : x % (r.2 - r.1 + 1) = x.tmod (r.2 - r.1 + 1) := (Int.tmod_eq_emod_of_nonneg hbd.1).symm
    have hdt : IntKind.i64.wrap (x.tdiv (r.2 - r.1 + 1)) = x / (r.2 - r.1 + 1) := by
      have h1 : 0 ≤ x / (r.2 - r.1 + 1) := Int.ediv_nonneg hbd.1 (by omega)
      have h2 : x / (r.2 - r.1 + 1) ≤ x := Int.ediv_le_self _ hbd.1
      rw [Int.tdiv_eq_ediv_of_nonneg hbd.1, wrap64_eq ⟨by omega, by omega⟩]
    rw [hmt] at hm1 hm2 hsn
    rw [← hdt] at hrs
    have hll : (nthL (m.clocks.take j) n).length ≤ 1000000 := by rw [nthL_len, List.length_take]; omega
    repeat' (first
      | (refine is_ucall ?_; first
        | refine st_callP (h := Size_spec _ _ _ r hs1 hs2) (k := ?_)
        | fail)
      | (refine is_umcall ?_; first
        | refine mj_callP (h := Size_spec _ _ _ r hs1 hs2) (k := ?_)
        | fail)
      | refine W1 ?_ | refine Wc ?_ | refine W2c ?_ ?_ | refine Wg ?_ | refine W2 ?_ ?_ | exact Wdead | refine Wlive (fun hb => ?_) | intro _ _ _ _ _ _ _ _ | refine We ?_ | refine Wx ?_ | refine Wt ?_ | refine Wm ?_ | refine W2m ?_ ?_ | refine Wl ?_
      | fail)
    rcases hA with ⟨rfl, hnil⟩ | ⟨i, rfl, hi, hni, hne⟩
    · rw [hnil, List.nil_append] at hsn
      refine WPJ.draw 16 mixed (by kernel_rfl) (by kernel_rfl) (by kernel_rfl) (by decide) ?_
      refine MonoJ.normA ?_
      repeat' (first
        | (refine is_ucall ?_; first
          | refine st_callP (h := Size_spec _ _ _ r hs1 hs2) (k := ?_)
          | fail)
        | (refine is_umcall ?_; first
          | refine mj_callP (h := Size_spec _ _ _ r hs1 hs2) (k := ?_)
          | fail)
        | refine W1 ?_ | refine Wc ?_ | refine W2c ?_ ?_ | refine Wg ?_ | refine W2 ?_ ?_ | exact Wdead | refine Wlive (fun hb => ?_) | intro _ _ _ _ _ _ _ _ | refine We ?_ | refine Wx ?_ | refine Wt ?_ | refine Wm ?_ | refine W2m ?_ ?_ | refine Wl ?_
        | fail)
      refine mj_appendNil (n' := 1) (news := enc1 (r.1 + x.tmod (r.2 - r.1 + 1))) rfl rfl rfl getA (by simp) rfl ⟨by decide, by decide, by decide⟩ ?_
      refine MonoJ.normA ?_
      repeat' (first
        | (refine is_ucall ?_; first
          | refine st_callP (h := Size_spec _ _ _ r hs1 hs2) (k := ?_)
          | fail)
        | (refine is_umcall ?_; first
          | refine mj_callP (h := Size_spec _ _ _ r hs1 hs2) (k := ?_)
          | fail)
        | refine W1 ?_ | refine Wc ?_ | refine W2c ?_ ?_ | refine Wg ?_ | refine W2 ?_ ?_ | exact Wdead | refine Wlive (fun hb => ?_) | intro _ _ _ _ _ _ _ _ | refine We ?_ | refine Wx ?_ | refine Wt ?_ | refine Wm ?_ | refine W2m ?_ ?_ | refine Wl ?_
        | fail)
      refine ⟨(.slice (some ⟨H1.length + 2, 0, none⟩) 1 1, _), hlt, (by repeat' (first | exact Weak.nil | refine Weak.wild ?_ | refine Weak.same ?_ | refine Weak.intEq (by first | omega | (simp; done) | (push_cast; omega)) ?_)), rfl, extA, getA, .inr ⟨H1.length + 2, ?_, ?_, ?_, by rw [hsn]; simp⟩, hrs.symm, ?_⟩
      · rw [hsn]; rfl
      · rw [hsn]; exact get_new rfl
      · omega
      · simp; omega
    · have hil := (List.getElem?_eq_some_iff.1 hi).1
      refine WPJ.drawS 16 9 i (.row ((nthL (m.clocks.take j) n).map enc1).flatten 1 true) .dead mixed (by kernel_rfl) (by kernel_rfl) (by kernel_rfl) (by decide) (by decide) rfl (by first | rfl | (simp [flatRow, flat1]; done) | assumption) (by first | exact .inl rfl | exact .inr (by first | omega | (simp; omega))) ?_
      refine SpecJ.normA ?_
      refine SpecJ.seg 9 (by kernel_rfl) (by decide) ?_
      repeat' (first
        | (refine is_ucall ?_; first
          | refine st_callP (h := Size_spec _ _ _ r hs1 hs2) (k := ?_)
          | fail)
        | (refine is_umcall ?_; first
          | refine mj_callP (h := Size_spec _ _ _ r hs1 hs2) (k := ?_)
          | fail)
        | refine W1 ?_ | refine Wc ?_ | refine W2c ?_ ?_ | refine Wg ?_ | refine W2 ?_ ?_ | exact Wdead | refine Wlive (fun hb => ?_) | intro _ _ _ _ _ _ _ _ | refine We ?_ | refine Wx ?_ | refine Wt ?_ | refine Wm ?_ | refine W2m ?_ ?_ | refine Wl ?_
        | fail)
      refine SpecJ.spec (n := 6) (.slice (some ⟨(H1 ++ [AObj.row (encR r) 1 true, AObj.row [.int .i64 (r.1 + x.tmod (r.2 - r.1 + 1))] 1 true]).length, 0, none⟩) ((nthL (m.clocks.take j) n).length + 1) ((nthL (m.clocks.take j) n).length + 1)) [.row (((nthL (m.clocks.take j) n).map enc1).flatten ++ enc1 (r.1 + x.tmod (r.2 - r.1 + 1))) 1 true] (get_old hi) rfl rfl ?_ ?_
      · have hfl := flatten_lenG (enc := enc1) (fun _ => rfl) (nthL (m.clocks.take j) n)
        have hm : maxLen = 9223372036854775807 := by decide
        have e : ((nthL (m.clocks.take j) n).map enc1).flatten ++ enc1 (r.1 + x.tmod (r.2 - r.1 + 1)) = (((nthL (m.clocks.take j) n).map enc1).flatten.take ((nthL (m.clocks.take j) n).length * 1)) ++ enc1 (r.1 + x.tmod (r.2 - r.1 + 1)) := congrArg (· ++ _) (List.take_of_length_le (Nat.le_of_eq hfl)).symm
        rw [e]
        refine runs_appendOwn (n' := 1) (m := 1) (cp := (nthL (m.clocks.take j) n).length) (i := H1.length + 1) (o := 0) (cap := 1) (cells := [.int .i64 (r.1 + x.tmod (r.2 - r.1 + 1))]) (es := 1) (own := true) TyC.ty TyC.ty ?_ ?_ (get_old hi) (Nat.le_of_eq hfl.symm) ?_ ?_ ?_ ?_ ?_ ?_ ?_
        · rfl
        · rfl
        · rfl
        · exact get_new rfl
        · simp
        · rfl
        · rfl
        · rw [hm]; omega
        · show _ * 8 ≤ _
          omega
      refine SpecJ.normA ?_
      refine sj_move rfl ?_
      refine SpecJ.normA ?_
      refine sj_loadN rfl rfl rfl getA (by omega) (by simp) rfl ?_
      refine SpecJ.normA ?_
      refine SpecJ.seg 4 (by kernel_rfl) (by decide) ?_
      repeat' (first
        | (refine is_ucall ?_; first
          | refine st_callP (h := Size_spec _ _ _ r hs1 hs2) (k := ?_)
          | fail)
        | (refine is_umcall ?_; first
          | refine mj_callP (h := Size_spec _ _ _ r hs1 hs2) (k := ?_)
          | fail)
        | refine W1 ?_ | refine Wc ?_ | refine W2c ?_ ?_ | refine Wg ?_ | refine W2 ?_ ?_ | exact Wdead | refine Wlive (fun hb => ?_) | intro _ _ _ _ _ _ _ _ | refine We ?_ | refine Wx ?_ | refine Wt ?_ | refine Wm ?_ | refine W2m ?_ ?_ | refine Wl ?_
        | fail)
      refine SpecJ.done ?_
      repeat' (first
        | (refine is_ucall ?_; first
          | refine st_callP (h := Size_spec _ _ _ r hs1 hs2) (k := ?_)
          | fail)
        | (refine is_umcall ?_; first
          | refine mj_callP (h := Size_spec _ _ _ r hs1 hs2) (k := ?_)
          | fail)
        | refine W1 ?_ | refine Wc ?_ | refine W2c ?_ ?_ | refine Wg ?_ | refine W2 ?_ ?_ | exact Wdead | refine Wlive (fun hb => ?_) | intro _ _ _ _ _ _ _ _ | refine We ?_ | refine Wx ?_ | refine Wt ?_ | refine Wm ?_ | refine W2m ?_ ?_ | refine Wl ?_
        | fail)
      refine ⟨(.slice (some ⟨H1.length + 2, 0, none⟩) ((nthL (m.clocks.take j) n).length + 1) ((nthL (m.clocks.take j) n).length + 1), _), hlt, (by repeat' (first | exact Weak.nil | refine Weak.wild ?_ | refine Weak.same ?_ | refine Weak.intEq (by first | omega | (simp; done) | (push_cast; omega)) ?_)), rfl, extA, getA, .inr ⟨H1.length + 2, ?_, ?_, ?_, by rw [hsn]; simp⟩, hrs.symm, ?_⟩
      · rw [hsn]; simp
      · rw [hsn, List.getElem?_append_right (by simp)]
        simp [enc1]
      · omega
      · simp; omega
  · skip
    repeat' (first
      | (refine is_ucall ?_; first
        | refine st_callP (h := Size_spec _ _ _ r hs1 hs2) (k := ?_)
        | fail)
      | (refine is_umcall ?_; first
        | refine mj_callP (h := Size_spec _ _ _ r hs1 hs2) (k := ?_)
        | fail)
      | refine W1 ?_ | refine Wc ?_ | refine W2c ?_ ?_ | refine Wg ?_ | refine W2 ?_ ?_ | exact Wdead | refine Wlive (fun hb => ?_) | intro _ _ _ _ _ _ _ _ | refine We ?_ | refine Wx ?_ | refine Wt ?_ | refine Wm ?_ | refine W2m ?_ ?_ | refine Wl ?_
      | fail)
    obtain rfl : j = m.clocks.length := by omega
    rw [List.take_length] at hA
    exact hA.tidy (by omega) he (fun _ => rfl) ⟨rfl, rfl, rfl⟩
theorem Nth_wv (m : HouseM) (s1 s2 s3 : Value) (n : Nat) (hn1 : n ≤ 1000000) (hm : HouseV H m s1 s2 s3) (hcl : ∀ r ∈ m.clocks, isClockS r = true) : CallJ Try.prog E 117 [hv m s1 s2 s3, .int .i64 n] (fun v H' g' => (Inn H' (.slice none 0 0) v (nthR m n) ∧ (∀ i a b, i < H.length → v ≠ .slice (some ⟨i, 0, none⟩) a b) ∧ Ext H H') ∧ g' = g) H g :=
  (Nth_v E g H m s1 s2 s3 n (by omega) (by omega) hm hcl).mono (by
    rintro v H' g' ⟨rfl, rfl, rfl⟩
    refine ⟨⟨?_, ?_, ⟨_, rfl⟩⟩, rfl⟩
    · unfold nthR
      cases h : nthL m.clocks n with
      | nil => exact .inl ⟨rfl, rfl⟩
      | cons a l =>
        refine .inr ⟨H.length, rfl, ?_, fun a b e => by cases e⟩
        unfold slH
        rw [enc1_flat]
        exact List.getElem?_concat_length
    · intro i a b hi e
      unfold slV at e
      split at e
      · cases e
      · cases e; omega)
/-- the true minute of a clip, read from a list -/
theorem True_v (m : HouseM) (s1 s2 s3 lv : Value) (l : List Int) (i : Nat) (c : ClipM) (x : Int) (hm : HouseV H m s1 s2 s3) (hr : RdS H lv 1 (encI l)) (hc : m.clips[i]? = some c) (h0 : 0 ≤ c.clock) (hx : l[c.clock.toNat]? = some x)
    (hb : -1000000 ≤ c.minute ∧ c.minute ≤ 1000000 ∧ -1000000 ≤ x ∧ x ≤ 1000000) :
    CallJ Try.prog E 33 [hv m s1 s2 s3, lv, .int .i64 i] (fun v H' g' => v = .int .i64 (c.minute - x) ∧ H' = H ∧ g' = g) H g := by
  have hok := hm.cells
  have hr3 := hm.clips
  have hil := (List.getElem?_eq_some_iff.1 hc).1
  have hn3 := hm.n3
  have hcl := (List.getElem?_eq_some_iff.1 hx).1
  have hel : (m.clips.map encC)[(i : Int).toNat]? = some (encC c) := by simp [hc]
  have hel2 : (encI l)[c.clock.toNat]? = some [.int .i64 x] := by simp [hx]
  refine CallJ.tidy ?_
  unfold hv
  refine CallJ.enter Try.func33 rfl (by simp only [Try.ntmps33, List.length_cons, List.length_nil, Nat.zero_add, Nat.reduceAdd, Nat.reduceSub, List.replicate_succ, List.replicate_zero, List.cons_append, List.nil_append]; rfl) ?_
  repeat' (first
    | refine W1 ?_ | refine Wc ?_ | refine W2c ?_ ?_ | refine Wg ?_ | refine W2 ?_ ?_ | exact Wdead | refine Wlive (fun hb => ?_) | intro _ _ _ _ _ _ _ _ | refine We ?_ | refine Wx ?_ | refine Wt ?_ | refine Wm ?_ | refine W2m ?_ ?_ | refine Wl ?_
    | fail)
  refine WPJ.draw 7 mixed (by kernel_rfl) (by kernel_rfl) (by kernel_rfl) (by decide) ?_
  refine MonoJ.normA ?_
  repeat' (first
    | refine W1 ?_ | refine Wc ?_ | refine W2c ?_ ?_ | refine Wg ?_ | refine W2 ?_ ?_ | exact Wdead | refine Wlive (fun hb => ?_) | intro _ _ _ _ _ _ _ _ | refine We ?_ | refine Wx ?_ | refine Wt ?_ | refine Wm ?_ | refine W2m ?_ ?_ | refine Wl ?_
    | fail)
  exact ⟨rfl, rfl, rfl⟩
theorem Full_v (m : HouseM) (s1 s2 s3 : Value) (hm : HouseV H m s1 s2 s3) (hb : m.clips.length ≤ 30) : CallJ Try.prog E 74 [hv m s1 s2 s3] (fun v H' g' => v = .int .i64 ((2 ^ m.clips.length - 1 : Nat) : Int) ∧ H' = H ∧ g' = g) H g := by
  have hok := hm.cells
  have hr3 := hm.clips
  obtain ⟨n, hnn⟩ : ∃ n, n = m.clips.length := ⟨_, rfl⟩
  obtain ⟨p, hp⟩ : ∃ p, p = 2 ^ n := ⟨_, rfl⟩
  have hp1 : 1 ≤ p ∧ p ≤ 2 ^ 30 := by rw [hp]; exact ⟨Nat.two_pow_pos n, Nat.pow_le_pow_right (by decide) (by omega)⟩
  have ep := shl_eq (a := 1) (j := n) hp (by rw [Nat.one_mul]) (by omega) (by omega)
  have ep' : IntKind.i64.wrap (1 * 2 ^ (min ((n : Int)).toNat IntKind.i64.bits)) = (p : Int) := ep
  refine CallJ.tidy ?_
  rw [← hnn, ← hp]
  unfold hv
  refine CallJ.enter Try.func74 rfl (by simp only [Try.ntmps74, List.length_cons, List.length_nil, Nat.zero_add, Nat.reduceSub, List.replicate_succ, List.replicate_zero, List.cons_append, List.nil_append]; rfl) ?_
  repeat' (first
    | refine W1 ?_ | refine Wc ?_ | refine W2c ?_ ?_ | refine Wg ?_ | refine W2 ?_ ?_ | exact Wdead | refine Wlive (fun hb => ?_) | intro _ _ _ _ _ _ _ _ | refine We ?_ | refine Wx ?_ | refine Wt ?_ | refine Wm ?_ | refine W2m ?_ ?_ | refine Wl ?_
    | fail)
  rw [← hnn, wrap_u64 (n := (n : Int)) (by omega) (by omega)]
  refine OpsJ.normA ?_
  refine st_shl rfl rfl (by omega) ?_
  rw [ep']
  refine OpsJ.normA ?_
  repeat' (first
    | refine W1 ?_ | refine Wc ?_ | refine W2c ?_ ?_ | refine Wg ?_ | refine W2 ?_ ?_ | exact Wdead | refine Wlive (fun hb => ?_) | intro _ _ _ _ _ _ _ _ | refine We ?_ | refine Wx ?_ | refine Wt ?_ | refine Wm ?_ | refine W2m ?_ ?_ | refine Wl ?_
    | fail)
  refine ⟨?_, rfl, rfl⟩
  have : (p : Int) - 1 = ((p - 1 : Nat) : Int) := by omega
  rw [this]
theorem Rising_v (m : HouseM) (s1 s2 s3 lv : Value) (l : List Int) (hm : HouseV H m s1 s2 s3) (hr : RdS H lv 1 (encI l)) (_hn : l.length ≤ 1000000) (hb3 : m.clips.length ≤ 30)
    (hcl : ∀ c ∈ m.clips, 0 ≤ c.clock ∧ c.clock.toNat < l.length ∧ -1000000 ≤ c.minute ∧ c.minute ≤ 1000000) (hlb : ∀ x ∈ l, -1000000 ≤ x ∧ x ≤ 1000000) :
    CallJ Try.prog E 87 [hv m s1 s2 s3, lv, .int .i64 ((2 ^ m.clips.length - 1 : Nat) : Int)] (fun v H' g' => v = .bool (riseS m l) ∧ H' = H ∧ g' = g) H g := by
  have hok := hm.cells
  have hr3 := hm.clips
  have hat : ∀ i < m.clips.length, ∃ c x, m.clips[i]? = some c ∧ m.clips.getD i ⟨0, 0, 0⟩ = c ∧ 0 ≤ c.clock ∧ l[c.clock.toNat]? = some x ∧ trueM l c = c.minute - x ∧ (-1000000 ≤ c.minute ∧ c.minute ≤ 1000000 ∧ -1000000 ≤ x ∧ x ≤ 1000000) := by
    intro i hi
    have h1 := hcl _ (List.getElem_mem hi)
    have h2 := hlb _ (List.getElem_mem h1.2.1)
    refine ⟨m.clips[i], l[m.clips[i].clock.toNat]'h1.2.1, by simp [hi], by simp [List.getD, hi], h1.1, by simp [h1.2.1], ?_, by omega⟩
    unfold trueM
    simp [List.getD, h1.2.1]
  refine CallJ.tidy ?_
  unfold hv
  refine CallJ.enter Try.func87 rfl (by simp only [Try.ntmps87, List.length_cons, List.length_nil, Nat.zero_add, Nat.reduceAdd, Nat.reduceSub, List.replicate_succ, List.replicate_zero, List.cons_append, List.nil_append]; rfl) ?_
  repeat' (first
    | (refine is_ucall ?_; first
      | refine st_callP (h := True_v _ _ _ m s1 s2 s3 lv l _ _ _ (hm.ext extA) (hr.ext extA) hci hci0 hcix hcib) (k := ?_)
      | refine st_callP (h := True_v _ _ _ m s1 s2 s3 lv l _ _ _ (hm.ext extA) (hr.ext extA) hck hck0 hckx hckb) (k := ?_)
      | fail)
    | (refine is_umcall ?_; first
      | refine mj_callP (h := True_v _ _ _ m s1 s2 s3 lv l _ _ _ (hm.ext extA) (hr.ext extA) hci hci0 hcix hcib) (k := ?_)
      | refine mj_callP (h := True_v _ _ _ m s1 s2 s3 lv l _ _ _ (hm.ext extA) (hr.ext extA) hck hck0 hckx hckb) (k := ?_)
      | fail)
    | refine W1 ?_ | refine Wc ?_ | refine W2c ?_ ?_ | refine Wg ?_ | refine W2 ?_ ?_ | exact Wdead | refine Wlive (fun hb => ?_) | intro _ _ _ _ _ _ _ _ | refine We ?_ | refine Wx ?_ | refine Wt ?_ | refine Wm ?_ | refine W2m ?_ ?_ | refine Wl ?_
    | fail)
  refine WPJ.loopT m.clips.length [9, 10, 11, 12, 13, 14, 15, 16, 17, 18, 19, 20, 21, 22, 23, 24, 25, 26, 27, 28, 29, 30, 31, 32, 33, 34, 35, 36, 37, 38, 39, 40, 41, 42, 43, 44, 45, 8] (fun i (_ : Unit) => [(7, .int .i64 i)])
    (fun i _ H1 g1 => g1 = g ∧ Ext H H1 ∧ H1[H.length]? = some (.row [.int .i64 m.hour, .int .i64 m.grace, s1, s2, s3] 1 true) ∧ riseI m l i = true) 0 () (Nat.zero_le _) (by intro p hp; simp at hp; rcases hp with rfl; rfl) ⟨rfl, extA, getA, by simp [riseI]⟩ ?_
  rintro i _ H1 g1 hi ⟨rfl, he, hb0, hx⟩ hl0
  simp only [updT, maskT, List.set_cons_zero, List.set_cons_succ]
  rcases Nat.lt_or_ge i m.clips.length with hlt | hge
  · obtain ⟨ci, xi, hci, hcid, hci0, hcix, hcit, hcib⟩ := hat i hlt
    have hwi : IntKind.u64.wrap (i : Int) = i := wrap_u64 (by omega) (by omega)
    have hbi := bit_one hlt hb3
    repeat' (first
      | (refine is_ucall ?_; first
        | refine st_callP (h := True_v _ _ _ m s1 s2 s3 lv l _ _ _ (hm.ext extA) (hr.ext extA) hci hci0 hcix hcib) (k := ?_)
        | refine st_callP (h := True_v _ _ _ m s1 s2 s3 lv l _ _ _ (hm.ext extA) (hr.ext extA) hck hck0 hckx hckb) (k := ?_)
        | fail)
      | (refine is_umcall ?_; first
        | refine mj_callP (h := True_v _ _ _ m s1 s2 s3 lv l _ _ _ (hm.ext extA) (hr.ext extA) hci hci0 hcix hcib) (k := ?_)
        | refine mj_callP (h := True_v _ _ _ m s1 s2 s3 lv l _ _ _ (hm.ext extA) (hr.ext extA) hck hck0 hckx hckb) (k := ?_)
        | fail)
      | refine W1 ?_ | refine Wc ?_ | refine W2c ?_ ?_ | refine Wg ?_ | refine W2 ?_ ?_ | exact Wdead | refine Wlive (fun hb => ?_) | intro _ _ _ _ _ _ _ _ | refine We ?_ | refine Wx ?_ | refine Wt ?_ | refine Wm ?_ | refine W2m ?_ ?_ | refine Wl ?_
      | fail)
    refine WPJ.loopT i [16, 17, 18, 19, 20, 21, 22, 23, 24, 25, 26, 27, 28, 29, 30, 31, 32, 33, 34, 35, 36, 37, 38, 39, 40, 41, 42, 43, 44, 45] (fun k (_ : Unit) => [(8, .int .i64 k)])
      (fun k _ H1 g2 => g2 = g1 ∧ Ext H H1 ∧ H1[H.length]? = some (.row [.int .i64 m.hour, .int .i64 m.grace, s1, s2, s3] 1 true) ∧ riseK m l i k = true) 0 () (Nat.zero_le _) (by intro p hp; simp at hp; rcases hp with rfl; rfl) ⟨rfl, he, hb0, by simp [riseK]⟩ ?_
    clear hb0 he hl0
    rintro k _ H1 g1 hk ⟨rfl, he, hb0, hy⟩ hl0
    simp only [updT, maskT, List.set_cons_zero, List.set_cons_succ]
    rcases Nat.lt_or_ge k i with hlt2 | hge2
    · obtain ⟨ck, xk, hck, hckd, hck0, hckx, hckt, hckb⟩ := hat k (by omega)
      have hwk : IntKind.u64.wrap (k : Int) = k := wrap_u64 (by omega) (by omega)
      have hbk := bit_one (n := m.clips.length) (j := k) (by omega) hb3
      have hstep : riseK m l i (k + 1) = (riseK m l i k && decide (trueM l ck ≤ trueM l ci)) := by
        unfold riseK; rw [range_all_succ, hckd, hcid]
      repeat' (first
        | (refine is_ucall ?_; first
          | refine st_callP (h := True_v _ _ _ m s1 s2 s3 lv l _ _ _ (hm.ext extA) (hr.ext extA) hci hci0 hcix hcib) (k := ?_)
          | refine st_callP (h := True_v _ _ _ m s1 s2 s3 lv l _ _ _ (hm.ext extA) (hr.ext extA) hck hck0 hckx hckb) (k := ?_)
          | fail)
        | (refine is_umcall ?_; first
          | refine mj_callP (h := True_v _ _ _ m s1 s2 s3 lv l _ _ _ (hm.ext extA) (hr.ext extA) hci hci0 hcix hcib) (k := ?_)
          | refine mj_callP (h := True_v _ _ _ m s1 s2 s3 lv l _ _ _ (hm.ext extA) (hr.ext extA) hck hck0 hckx hckb) (k := ?_)
          | fail)
        | refine W1 ?_ | refine Wc ?_ | refine W2c ?_ ?_ | refine Wg ?_ | refine W2 ?_ ?_ | exact Wdead | refine Wlive (fun hb => ?_) | intro _ _ _ _ _ _ _ _ | refine We ?_ | refine Wx ?_ | refine Wt ?_ | refine Wm ?_ | refine W2m ?_ ?_ | refine Wl ?_
        | fail)
      refine WPJ.draw 22 mixed (by kernel_rfl) (by kernel_rfl) (by kernel_rfl) (by decide) ?_
      refine MonoJ.normA ?_
      repeat' (first
        | (refine is_ucall ?_; first
          | refine st_callP (h := True_v _ _ _ m s1 s2 s3 lv l _ _ _ (hm.ext extA) (hr.ext extA) hci hci0 hcix hcib) (k := ?_)
          | refine st_callP (h := True_v _ _ _ m s1 s2 s3 lv l _ _ _ (hm.ext extA) (hr.ext extA) hck hck0 hckx hckb) (k := ?_)
          | fail)
        | (refine is_umcall ?_; first
          | refine mj_callP (h := True_v _ _ _ m s1 s2 s3 lv l _ _ _ (hm.ext extA) (hr.ext extA) hci hci0 hcix hcib) (k := ?_)
          | refine mj_callP (h := True_v _ _ _ m s1 s2 s3 lv l _ _ _ (hm.ext extA) (hr.ext extA) hck hck0 hckx hckb) (k := ?_)
          | fail)
        | refine W1 ?_ | refine Wc ?_ | refine W2c ?_ ?_ | refine Wg ?_ | refine W2 ?_ ?_ | exact Wdead | refine Wlive (fun hb => ?_) | intro _ _ _ _ _ _ _ _ | refine We ?_ | refine Wx ?_ | refine Wt ?_ | refine Wm ?_ | refine W2m ?_ ?_ | refine Wl ?_
        | fail)
      · have hfk : riseK m l i i = false := List.all_eq_false.2 ⟨k, List.mem_range.2 hlt2, by rw [hckd, hcid, hckt, hcit]; simp; omega⟩
        have hfs : riseS m l = false := List.all_eq_false.2 ⟨i, List.mem_range.2 hlt, by rw [hfk]; simp⟩
        exact ⟨by rw [hfs], rfl, rfl⟩
      · exact ⟨(), hlt2, (by repeat' (first | exact Weak.nil | refine Weak.wild ?_ | refine Weak.same ?_ | refine Weak.intEq (by first | omega | (simp; done) | (push_cast; omega)) ?_)), rfl, extA, getA, by rw [hstep, hy, hckt, hcit, decide_eq_true (by omega)]; rfl⟩
    · skip
      repeat' (first
        | (refine is_ucall ?_; first
          | refine st_callP (h := True_v _ _ _ m s1 s2 s3 lv l _ _ _ (hm.ext extA) (hr.ext extA) hci hci0 hcix hcib) (k := ?_)
          | refine st_callP (h := True_v _ _ _ m s1 s2 s3 lv l _ _ _ (hm.ext extA) (hr.ext extA) hck hck0 hckx hckb) (k := ?_)
          | fail)
        | (refine is_umcall ?_; first
          | refine mj_callP (h := True_v _ _ _ m s1 s2 s3 lv l _ _ _ (hm.ext extA) (hr.ext extA) hci hci0 hcix hcib) (k := ?_)
          | refine mj_callP (h := True_v _ _ _ m s1 s2 s3 lv l _ _ _ (hm.ext extA) (hr.ext extA) hck hck0 hckx hckb) (k := ?_)
          | fail)
        | refine W1 ?_ | refine Wc ?_ | refine W2c ?_ ?_ | refine Wg ?_ | refine W2 ?_ ?_ | exact Wdead | refine Wlive (fun hb => ?_) | intro _ _ _ _ _ _ _ _ | refine We ?_ | refine Wx ?_ | refine Wt ?_ | refine Wm ?_ | refine W2m ?_ ?_ | refine Wl ?_
        | fail)
      obtain rfl : k = i := by omega
      have hs : riseI m l (k + 1) = (riseI m l k && riseK m l k k) := range_all_succ _ _
      exact ⟨(), hlt, (by repeat' (first | exact Weak.nil | refine Weak.wild ?_ | refine Weak.same ?_ | refine Weak.intEq (by first | omega | (simp; done) | (push_cast; omega)) ?_)), rfl, he, hb0, by rw [hs, hx, hy]; rfl⟩
  · skip
    repeat' (first
      | (refine is_ucall ?_; first
        | refine st_callP (h := True_v _ _ _ m s1 s2 s3 lv l _ _ _ (hm.ext extA) (hr.ext extA) hci hci0 hcix hcib) (k := ?_)
        | refine st_callP (h := True_v _ _ _ m s1 s2 s3 lv l _ _ _ (hm.ext extA) (hr.ext extA) hck hck0 hckx hckb) (k := ?_)
        | fail)
      | (refine is_umcall ?_; first
        | refine mj_callP (h := True_v _ _ _ m s1 s2 s3 lv l _ _ _ (hm.ext extA) (hr.ext extA) hci hci0 hcix hcib) (k := ?_)
        | refine mj_callP (h := True_v _ _ _ m s1 s2 s3 lv l _ _ _ (hm.ext extA) (hr.ext extA) hck hck0 hckx hckb) (k := ?_)
        | fail)
      | refine W1 ?_ | refine Wc ?_ | refine W2c ?_ ?_ | refine Wg ?_ | refine W2 ?_ ?_ | exact Wdead | refine Wlive (fun hb => ?_) | intro _ _ _ _ _ _ _ _ | refine We ?_ | refine Wx ?_ | refine Wt ?_ | refine Wm ?_ | refine W2m ?_ ?_ | refine Wl ?_
      | fail)
    obtain rfl : i = m.clips.length := by omega
    show Value.bool true = Value.bool (riseI m l m.clips.length) ∧ _ ∧ _
    rw [hx]
    exact ⟨rfl, rfl, rfl⟩
theorem Truths_v (m : HouseM) (s1 s2 s3 : Value) (hm : HouseV H m s1 s2 s3) (hG : Good m) : CallJ Try.prog E 70 [hv m s1 s2 s3] (fun v H' g' => (LL H' v (refL m) ∧ Ext H H') ∧ g' = g) H g := by
  have hok := hm.cells
  have hnl := hG.n1
  have hb3 : m.clips.length ≤ 30 := by have := hG.n3; omega
  have hcl : ∀ r ∈ m.clocks, isClockS r = true := fun r hr => by have := hG.clock r hr; simp [isClockS]; omega
  have hp1 := (prodS_bd m.clocks hcl).1
  obtain ⟨N, hN⟩ : ∃ N : Nat, (N : Int) = min 3000 (prodS m.clocks) := ⟨(min 3000 (prodS m.clocks)).toNat, by omega⟩
  have hN2 : N ≤ 3000 := by omega
  have hNL : refL m = refN m N := by unfold refL; rw [← hN]; simp
  rw [hNL]
  unfold hv
  refine CallJ.enter Try.func70 rfl (by simp only [Try.ntmps70, List.length_cons, List.length_nil, Nat.zero_add, Nat.reduceSub, List.replicate_succ, List.replicate_zero, List.cons_append, List.nil_append]; rfl) ?_
  repeat' (first
    | (refine is_ucall ?_; first
      | refine st_callP (h := Full_v _ _ _ m s1 s2 s3 (hm.ext extA) hb3) (k := ?_)
      | refine st_callP (h := Rising_v _ _ _ m s1 s2 s3 x _ (hm.ext extA) (hrx.ext extA) hxn hb3 hbd.1 hbd.2) (k := ?_)
      | refine st_callP (h := Many_v _ _ _ m s1 s2 s3 (hm.ext extA) hcl) (k := ?_)
      | fail)
    | (refine is_umcall ?_; first
      | refine mj_callP (h := Full_v _ _ _ m s1 s2 s3 (hm.ext extA) hb3) (k := ?_)
      | refine mj_callP (h := Rising_v _ _ _ m s1 s2 s3 x _ (hm.ext extA) (hrx.ext extA) hxn hb3 hbd.1 hbd.2) (k := ?_)
      | refine mj_callP (h := Many_v _ _ _ m s1 s2 s3 (hm.ext extA) hcl) (k := ?_)
      | fail)
    | refine W1 ?_ | refine Wc ?_ | refine W2c ?_ ?_ | refine Wg ?_ | refine W2 ?_ ?_ | exact Wdead | refine Wlive (fun hb => ?_) | intro _ _ _ _ _ _ _ _ | refine We ?_ | refine Wx ?_ | refine Wt ?_ | refine Wm ?_ | refine W2m ?_ ?_ | refine Wl ?_
    | fail)
  refine WPJ.loopT N [5, 6, 7, 8, 9, 10, 11, 12, 13, 14, 15, 16, 17, 18, 19, 20, 21, 22, 23] (fun j (v : Value × List Value) => [(4, .int .i64 j), (3, v.1)])
    (fun j v H1 g1 => g1 = g ∧ Ext H H1 ∧ H1[H.length]? = some (.row (hcells m s1 s2 s3) 1 true) ∧ AppG encV 1 H1 (H.length + 1) v.1 v.2 ∧ v.2.length = (refN m j).length ∧ (∀ (k : Nat) (x : Value) (l : List Int), v.2[k]? = some x → (refN m j)[k]? = some l → Inn H1 v.1 x l) ∧ H.length + 1 ≤ H1.length) 0 (.slice none 0 0, []) (Nat.zero_le _)
    (by intro p hp; simp at hp; rcases hp with rfl | rfl <;> rfl) ⟨rfl, extA, getA, AppG.nil, rfl, fun k x l h => by simp at h, by simp⟩ ?_
  rintro j ⟨v, vs⟩ H1 g1 hj ⟨rfl, he, hb0, hA, hvl, hI, hlen⟩ hl0
  simp only at hA hvl hI
  simp only [updT, maskT, List.set_cons_zero, List.set_cons_succ]
  have hvn : vs.length ≤ 1000000 := by have := refN_len m j; omega
  repeat' (first
    | (refine is_ucall ?_; first
      | refine st_callP (h := Full_v _ _ _ m s1 s2 s3 (hm.ext extA) hb3) (k := ?_)
      | refine st_callP (h := Rising_v _ _ _ m s1 s2 s3 x _ (hm.ext extA) (hrx.ext extA) hxn hb3 hbd.1 hbd.2) (k := ?_)
      | refine st_callP (h := Many_v _ _ _ m s1 s2 s3 (hm.ext extA) hcl) (k := ?_)
      | fail)
    | (refine is_umcall ?_; first
      | refine mj_callP (h := Full_v _ _ _ m s1 s2 s3 (hm.ext extA) hb3) (k := ?_)
      | refine mj_callP (h := Rising_v _ _ _ m s1 s2 s3 x _ (hm.ext extA) (hrx.ext extA) hxn hb3 hbd.1 hbd.2) (k := ?_)
      | refine mj_callP (h := Many_v _ _ _ m s1 s2 s3 (hm.ext extA) hcl) (k := ?_)
      | fail)
    | refine W1 ?_ | refine Wc ?_ | refine W2c ?_ ?_ | refine Wg ?_ | refine W2 ?_ ?_ | exact Wdead | refine Wlive (fun hb => ?_) | intro _ _ _ _ _ _ _ _ | refine We ?_ | refine Wx ?_ | refine Wt ?_ | refine Wm ?_ | refine W2m ?_ ?_ | refine Wl ?_
    | fail)
  · have hlt : j < N := by omega
    refine st_call rfl (Nth_wv E _ _ m s1 s2 s3 j (by omega) (hm.ext he) hcl) ?_
    rintro x H2 g2 ⟨⟨hx, hxl, e2⟩, rfl⟩
    have hb2 := e2.get hb0
    have he2 := he.trans e2
    have hl2 := e2.len
    have hrx := hx.rd
    have hxn : (nthR m j).length ≤ 1000000 := by unfold nthR; rw [nthL_len]; omega
    have hbd := isE_bd hG (nth_isE hG j)
    have hA2 : AppG encV 1 H2 (H.length + 1) v vs := hA.keep fun i o _ h => e2.get h
    have hstep := refN_step m j
    have hvx : Inn H2 v x (nthR m j) := by
      rcases hx with h | ⟨i, h1, h2, _⟩
      · exact .inl h
      · refine .inr ⟨i, h1, h2, AppG_ne hA (.inr ?_)⟩
        exact Nat.le_of_not_lt fun hi => hxl i _ _ hi h1
    have hck := hvx.cell
    refine OpsJ.normA ?_
    repeat' (first
      | (refine is_ucall ?_; first
        | refine st_callP (h := Full_v _ _ _ m s1 s2 s3 (hm.ext extA) hb3) (k := ?_)
        | refine st_callP (h := Rising_v _ _ _ m s1 s2 s3 x _ (hm.ext extA) (hrx.ext extA) hxn hb3 hbd.1 hbd.2) (k := ?_)
        | refine st_callP (h := Many_v _ _ _ m s1 s2 s3 (hm.ext extA) hcl) (k := ?_)
        | fail)
      | (refine is_umcall ?_; first
        | refine mj_callP (h := Full_v _ _ _ m s1 s2 s3 (hm.ext extA) hb3) (k := ?_)
        | refine mj_callP (h := Rising_v _ _ _ m s1 s2 s3 x _ (hm.ext extA) (hrx.ext extA) hxn hb3 hbd.1 hbd.2) (k := ?_)
        | refine mj_callP (h := Many_v _ _ _ m s1 s2 s3 (hm.ext extA) hcl) (k := ?_)
        | fail)
      | refine W1 ?_ | refine Wc ?_ | refine W2c ?_ ?_ | refine Wg ?_ | refine W2 ?_ ?_ | exact Wdead | refine Wlive (fun hb => ?_) | intro _ _ _ _ _ _ _ _ | refine We ?_ | refine Wx ?_ | refine Wt ?_ | refine Wm ?_ | refine W2m ?_ ?_ | refine Wl ?_
      | fail)
    refine WPJ.draw 5 mixed (by kernel_rfl) (by kernel_rfl) (by kernel_rfl) (by decide) ?_
    refine MonoJ.normA ?_
    repeat' (first
      | (refine is_ucall ?_; first
        | refine st_callP (h := Full_v _ _ _ m s1 s2 s3 (hm.ext extA) hb3) (k := ?_)
        | refine st_callP (h := Rising_v _ _ _ m s1 s2 s3 x _ (hm.ext extA) (hrx.ext extA) hxn hb3 hbd.1 hbd.2) (k := ?_)
        | refine st_callP (h := Many_v _ _ _ m s1 s2 s3 (hm.ext extA) hcl) (k := ?_)
        | fail)
      | (refine is_umcall ?_; first
        | refine mj_callP (h := Full_v _ _ _ m s1 s2 s3 (hm.ext extA) hb3) (k := ?_)
        | refine mj_callP (h := Rising_v _ _ _ m s1 s2 s3 x _ (hm.ext extA) (hrx.ext extA) hxn hb3 hbd.1 hbd.2) (k := ?_)
        | refine mj_callP (h := Many_v _ _ _ m s1 s2 s3 (hm.ext extA) hcl) (k := ?_)
        | fail)
      | refine W1 ?_ | refine Wc ?_ | refine W2c ?_ ?_ | refine Wg ?_ | refine W2 ?_ ?_ | exact Wdead | refine Wlive (fun hb => ?_) | intro _ _ _ _ _ _ _ _ | refine We ?_ | refine Wx ?_ | refine Wt ?_ | refine Wm ?_ | refine W2m ?_ ?_ | refine Wl ?_
      | fail)
    · rw [if_pos (by assumption)] at hstep
      have hcl1 : cellsL x = [x] := by rcases hx with ⟨rfl, _⟩ | ⟨i, rfl, _⟩ <;> rfl
      repeat' (first
        | (refine is_ucall ?_; first
          | refine st_callP (h := Full_v _ _ _ m s1 s2 s3 (hm.ext extA) hb3) (k := ?_)
          | refine st_callP (h := Rising_v _ _ _ m s1 s2 s3 x _ (hm.ext extA) (hrx.ext extA) hxn hb3 hbd.1 hbd.2) (k := ?_)
          | refine st_callP (h := Many_v _ _ _ m s1 s2 s3 (hm.ext extA) hcl) (k := ?_)
          | fail)
        | (refine is_umcall ?_; first
          | refine mj_callP (h := Full_v _ _ _ m s1 s2 s3 (hm.ext extA) hb3) (k := ?_)
          | refine mj_callP (h := Rising_v _ _ _ m s1 s2 s3 x _ (hm.ext extA) (hrx.ext extA) hxn hb3 hbd.1 hbd.2) (k := ?_)
          | refine mj_callP (h := Many_v _ _ _ m s1 s2 s3 (hm.ext extA) hcl) (k := ?_)
          | fail)
        | refine W1 ?_ | refine Wc ?_ | refine W2c ?_ ?_ | refine Wg ?_ | refine W2 ?_ ?_ | exact Wdead | refine Wlive (fun hb => ?_) | intro _ _ _ _ _ _ _ _ | refine We ?_ | refine Wx ?_ | refine Wt ?_ | refine Wm ?_ | refine W2m ?_ ?_ | refine Wl ?_
        | fail)
      refine st_buildSlice (cs := [x]) (n' := 1) (by decide) ?_ ?_
      · exact fillA_cons rfl (by show (cellsL x).all cellOk = true; rw [hcl1]; simp [hck]) (by show (cellsL x).length = 1; rw [hcl1]; rfl) (by decide) (by show fillA _ (splice _ _ (cellsL x)) _ = _; rw [hcl1]; rfl)
      refine OpsJ.normA ?_
      refine st_appK (enc := encV) (a := x) (hA2.app _) rfl (fun _ => rfl) rfl rfl getA (by simp) rfl (by simp [hck]) (by simp; omega) hvn (by decide) ?_
      intro H3 hA3 hE hK hL
      have hb3' := hK H.length _ (AppG_ne hA (.inl (by omega))) (get_old hb2)
      simp only [List.length_append, List.length_cons, List.length_nil] at hL hA3
      refine OpsJ.normA ?_
      repeat' (first
        | (refine is_ucall ?_; first
          | refine st_callP (h := Full_v _ _ _ m s1 s2 s3 (hm.ext extA) hb3) (k := ?_)
          | refine st_callP (h := Rising_v _ _ _ m s1 s2 s3 x _ (hm.ext extA) (hrx.ext extA) hxn hb3 hbd.1 hbd.2) (k := ?_)
          | refine st_callP (h := Many_v _ _ _ m s1 s2 s3 (hm.ext extA) hcl) (k := ?_)
          | fail)
        | (refine is_umcall ?_; first
          | refine mj_callP (h := Full_v _ _ _ m s1 s2 s3 (hm.ext extA) hb3) (k := ?_)
          | refine mj_callP (h := Rising_v _ _ _ m s1 s2 s3 x _ (hm.ext extA) (hrx.ext extA) hxn hb3 hbd.1 hbd.2) (k := ?_)
          | refine mj_callP (h := Many_v _ _ _ m s1 s2 s3 (hm.ext extA) hcl) (k := ?_)
          | fail)
        | refine W1 ?_ | refine Wc ?_ | refine W2c ?_ ?_ | refine Wg ?_ | refine W2 ?_ ?_ | exact Wdead | refine Wlive (fun hb => ?_) | intro _ _ _ _ _ _ _ _ | refine We ?_ | refine Wx ?_ | refine Wt ?_ | refine Wm ?_ | refine W2m ?_ ?_ | refine Wl ?_
        | fail)
      refine ⟨(.slice (some ⟨H2.length + 1, 0, none⟩) (vs.length + 1) (vs.length + 1), vs ++ [x]), hlt, (by repeat' (first | exact Weak.nil | refine Weak.wild ?_ | refine Weak.same ?_ | refine Weak.intEq (by first | omega | (simp; done) | (push_cast; omega)) ?_)), rfl, hE H (he2.app _) (by omega), hb3', hA3, by rw [hstep]; simp [hvl], ?_, by omega⟩
      intro k y l h1 h2
      rw [hstep] at h2
      have hv2 : ∀ j, j < (H2 ++ [AObj.row [x] 1 true]).length → ∀ a b, Value.slice (some ⟨H2.length + 1, 0, none⟩) (vs.length + 1) (vs.length + 1) ≠ .slice (some ⟨j, 0, none⟩) a b := by
        intro j hj a b e
        cases e
        simp at hj
      rcases Nat.lt_trichotomy k vs.length with hk | hk | hk
      · have h1' : vs[k]? = some y := by rw [List.getElem?_append_left hk] at h1; exact h1
        have h2' : (refN m j)[k]? = some l := by rw [List.getElem?_append_left (by omega)] at h2; exact h2
        have h3 : Inn (H2 ++ [AObj.row [x] 1 true]) v y l := (hI k y l h1' h2').ext (e2.app _)
        exact h3.keep hK hv2
      · subst hk
        have h1' : x = y := by simpa using h1
        have h2' : nthR m j = l := by rw [hvl] at h2; simpa using h2
        subst h1' h2'
        have h3 : Inn (H2 ++ [AObj.row [x] 1 true]) v x (nthR m j) := hvx.ext (Ext.app (Ext.refl _) _)
        exact h3.keep hK hv2
      · rw [List.getElem?_eq_none (by simp; omega)] at h1
        cases h1
    · rw [if_neg (by simp [*])] at hstep
      exact ⟨(v, vs), hlt, (by repeat' (first | exact Weak.nil | refine Weak.wild ?_ | refine Weak.same ?_ | refine Weak.intEq (by first | omega | (simp; done) | (push_cast; omega)) ?_)), rfl, he2, hb2, hA2, by rw [hstep]; exact hvl, by rw [hstep]; exact fun k x l h1 h2 => (hI k x l h1 h2).ext e2, by omega⟩
  · obtain rfl : j = N := by omega
    exact ⟨⟨⟨vs, hA.rd (fun _ => rfl), hvl, fun k x l h1 h2 => (hI k x l h1 h2).rd⟩, he⟩, rfl⟩
end
end Go.Proofs.Ytehobnpoeodhkaa
