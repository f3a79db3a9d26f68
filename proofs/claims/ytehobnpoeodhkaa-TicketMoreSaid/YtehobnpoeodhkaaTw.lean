import Derived.Test.YtehobnpoeodhkaaTv
namespace Go.Proofs.Ytehobnpoeodhkaa
open Go Go.Abs Go.Proofs
set_option maxHeartbeats 1600000
attribute [local irreducible] CallJ OpsJ WPJ CallV MonoJ SpecJ

section
variable {γ : Type} (E : Env γ) (g : γ) (H : AHeap)
theorem Thin_y (m : HouseM) (s1 s2 s3 : Value) (hm : HouseY H m s1 s2 s3) : CallJ Try.prog E 23 [hv m s1 s2 s3] (fun v H' g' => v = .bool (thinS m) ∧ H' = H ∧ g' = g) H g := by
  have hok := hm.cells
  have hr1 := hm.clocks
  have hr2 := hm.tickets
  have hr3 := hm.clips
  refine CallJ.tidy ?_
  unfold hv thinS
  refine CallJ.enter Try.func23 rfl (by simp only [Try.ntmps23, List.length_cons, List.length_nil, Nat.zero_add, Nat.reduceSub, List.replicate_succ, List.replicate_zero, List.cons_append, List.nil_append]; rfl) ?_
  repeat' (first
    | refine W1 ?_ | refine Wc ?_ | refine W2c ?_ ?_ | refine Wg ?_ | refine W2 ?_ ?_ | exact Wdead | refine Wlive (fun hb => ?_) | intro _ _ _ _ _ _ _ _ | refine We ?_ | refine Wx ?_ | refine Wt ?_ | refine Wm ?_ | refine W2m ?_ ?_ | refine Wl ?_
    | fail)
  all_goals (refine ⟨?_, rfl, rfl⟩; show Value.bool _ = _; congr 1; all_goals first | rfl | (rw [Bool.eq_iff_iff]; simp only [Bool.and_eq_true, decide_eq_true_eq, Bool.false_eq_true, true_iff, false_iff]; omega))
theorem Many_y (m : HouseM) (s1 s2 s3 : Value) (hm : HouseY H m s1 s2 s3) (hc : ∀ r ∈ m.clocks, isClockS r = true) : CallJ Try.prog E 116 [hv m s1 s2 s3] (fun v H' g' => v = .int .i64 (min 3000 (prodS m.clocks)) ∧ H' = H ∧ g' = g) H g := by
  have hok := hm.cells
  have hr := hm.clocks
  have hn := hm.n1
  refine CallJ.tidy ?_
  unfold hv
  refine CallJ.enter Try.func116 rfl (by simp only [Try.ntmps116, List.length_cons, List.length_nil, Nat.zero_add, Nat.reduceSub, List.replicate_succ, List.replicate_zero, List.cons_append, List.nil_append]; rfl) ?_
  repeat' (first
    | (refine is_ucall ?_; first
      | refine st_callP (h := Size_spec _ _ _ r hs1 hs2) (k := ?_)
      | fail)
    | (refine is_umcall ?_; first
      | refine mj_callP (h := Size_spec _ _ _ r hs1 hs2) (k := ?_)
      | fail)
    | refine W1 ?_ | refine Wc ?_ | refine W2c ?_ ?_ | refine Wg ?_ | refine W2 ?_ ?_ | exact Wdead | refine Wlive (fun hb => ?_) | intro _ _ _ _ _ _ _ _ | refine We ?_ | refine Wx ?_ | refine Wt ?_ | refine Wm ?_ | refine W2m ?_ ?_ | refine Wl ?_
    | fail)
  refine WPJ.loopT m.clocks.length [5, 6, 7, 8, 9, 12, 13, 14, 15, 16, 17, 18, 19, 20, 10, 11] (fun j (x : Int) => [(4, .int .i64 j), (3, .int .i64 x)])
    (fun j x H1 g1 => g1 = g ∧ Ext H H1 ∧ H1[H.length]? = some (.row (hcells m s1 s2 s3) 1 true) ∧ x = min 3000 (prodS (m.clocks.take j))) 0 1 (Nat.zero_le _)
    (by intro p hp; simp at hp; rcases hp with rfl | rfl <;> rfl) ⟨rfl, extA, getA, by rw [List.take_zero]; rfl⟩ ?_
  rintro j x H1 g1 hj ⟨rfl, he, hb0, hx⟩ hl0
  simp only [updT, maskT, List.set_cons_zero, List.set_cons_succ]
  rcases Nat.lt_or_ge j m.clocks.length with hlt | hge
  · have hel : (m.clocks.map encR)[(j : Int).toNat]? = some (encR m.clocks[j]) := by simp [hlt]
    have hcr := hc _ (List.getElem_mem hlt)
    have hsucc : prodS (m.clocks.take (j + 1)) = prodS (m.clocks.take j) * (m.clocks[j].2 - m.clocks[j].1 + 1) := by rw [List.take_succ_eq_append_getElem hlt, prodS_snoc]
    have hp1 := (prodS_bd (m.clocks.take j) fun r hr => hc r (List.mem_of_mem_take hr)).1
    generalize m.clocks[j] = r at *
    simp only [isClockS, Bool.and_eq_true, decide_eq_true_eq] at hcr
    have hs1 : -1000000 ≤ r.1 ∧ r.1 ≤ 1000000 := by omega
    have hs2 : -1000000 ≤ r.2 ∧ r.2 ≤ 1000000 := by omega
    have hxb : 1 ≤ x ∧ x ≤ 3000 := by omega
    have hmul : 0 ≤ x * (r.2 - r.1 + 1) ∧ x * (r.2 - r.1 + 1) ≤ 183000 := by
      have h1 : 0 ≤ r.2 - r.1 + 1 := by omega
      have h2 : r.2 - r.1 + 1 ≤ 61 := by omega
      exact ⟨Int.mul_nonneg (by omega) h1, Int.le_trans (Int.mul_le_mul hxb.2 h2 h1 (by omega)) (by decide)⟩
    have hms := min_step hp1 (show 1 ≤ r.2 - r.1 + 1 by omega)
    repeat' (first
      | (refine is_ucall ?_; first
        | refine st_callP (h := Size_spec _ _ _ r hs1 hs2) (k := ?_)
        | fail)
      | (refine is_umcall ?_; first
        | refine mj_callP (h := Size_spec _ _ _ r hs1 hs2) (k := ?_)
        | fail)
      | refine W1 ?_ | refine Wc ?_ | refine W2c ?_ ?_ | refine Wg ?_ | refine W2 ?_ ?_ | exact Wdead | refine Wlive (fun hb => ?_) | intro _ _ _ _ _ _ _ _ | refine We ?_ | refine Wx ?_ | refine Wt ?_ | refine Wm ?_ | refine W2m ?_ ?_ | refine Wl ?_
      | fail)
    refine ⟨_, hlt, (by repeat' (first | exact Weak.nil | refine Weak.wild ?_ | refine Weak.same ?_ | refine Weak.intEq (by first | omega | (simp; done) | (push_cast; omega)) ?_)), rfl, extA, getA, ?_⟩
    rw [hsucc, ← hms, ← hx, min_if]
  · skip
    repeat' (first
      | (refine is_ucall ?_; first
        | refine st_callP (h := Size_spec _ _ _ r hs1 hs2) (k := ?_)
        | fail)
      | (refine is_umcall ?_; first
        | refine mj_callP (h := Size_spec _ _ _ r hs1 hs2) (k := ?_)
        | fail)
      | refine W1 ?_ | refine Wc ?_ | refine W2c ?_ ?_ | refine Wg ?_ | refine W2 ?_ ?_ | exact Wdead | refine Wlive (fun hb => ?_) | intro _ _ _ _ _ _ _ _ | refine We ?_ | refine Wx ?_ | refine Wt ?_ | refine Wm ?_ | refine W2m ?_ ?_ | refine Wl ?_
      | fail)
    obtain rfl : j = m.clocks.length := by omega
    rw [List.take_length] at hx
    exact ⟨by rw [hx], rfl, rfl⟩

theorem Of_y (m : HouseM) (s1 s2 s3 : Value) (t : Int) (hm : HouseY H m s1 s2 s3) : CallJ Try.prog E 108 [hv m s1 s2 s3, .int .i64 t] (fun v H' g' => v = slV H.length (ofS m t) ∧ H' = H ++ slH enc1 1 (ofS m t) ∧ g' = g) H g := by
  have hok := hm.cells
  have hr := hm.clips
  have hn := hm.n3
  refine CallJ.tidy ?_
  unfold hv
  refine CallJ.enter Try.func108 rfl (by simp only [Try.ntmps108, List.length_cons, List.length_nil, Nat.zero_add, Nat.reduceAdd, Nat.reduceSub, List.replicate_succ, List.replicate_zero, List.cons_append, List.nil_append]; rfl) ?_
  repeat' (first
    | refine W1 ?_ | refine Wc ?_ | refine W2c ?_ ?_ | refine Wg ?_ | refine W2 ?_ ?_ | exact Wdead | refine Wlive (fun hb => ?_) | intro _ _ _ _ _ _ _ _ | refine We ?_ | refine Wx ?_ | refine Wt ?_ | refine Wm ?_ | refine W2m ?_ ?_ | refine Wl ?_
    | fail)
  refine WPJ.loopT m.clips.length [7, 8, 9, 10, 11, 14, 15, 16, 17, 18, 19, 20, 21, 22, 23, 24, 25, 12, 13] (fun j (v : Value) => [(6, .int .i64 j), (5, v)])
    (fun j v H1 g1 => g1 = g ∧ Ext H H1 ∧ H1[H.length]? = some (.row (hcells m s1 s2 s3) 1 true) ∧ AppG enc1 1 H1 (H.length + 1) v (ofN m t j) ∧ H.length + 1 ≤ H1.length) 0 (.slice none 0 0) (Nat.zero_le _)
    (by intro p hp; simp at hp; rcases hp with rfl | rfl <;> rfl) ⟨rfl, extA, getA, AppG.nil, by simp⟩ ?_
  rintro j v H1 g1 hj ⟨rfl, he, hb0, hA, hlen⟩ hl0
  simp only [updT, maskT, List.set_cons_zero, List.set_cons_succ]
  rcases Nat.lt_or_ge j m.clips.length with hlt | hge
  · have hel : (m.clips.map encC)[(j : Int).toNat]? = some (encC m.clips[j]) := by simp [hlt]
    have hstep := ofN_step (t := t) hlt
    have hol := ofN_len m t j
    generalize m.clips[j] = c at *
    repeat' (first
      | refine W1 ?_ | refine Wc ?_ | refine W2c ?_ ?_ | refine Wg ?_ | refine W2 ?_ ?_ | exact Wdead | refine Wlive (fun hb => ?_) | intro _ _ _ _ _ _ _ _ | refine We ?_ | refine Wx ?_ | refine Wt ?_ | refine Wm ?_ | refine W2m ?_ ?_ | refine Wl ?_
      | fail)
    · refine st_appG (enc := enc1) (a := (j : Int)) (hA.app _) rfl (fun _ => rfl) rfl rfl getA (by simp) rfl rfl (by simp; omega) (by omega) (by decide) ?_
      intro v2 H2 hA2 hE hK hL
      refine OpsJ.normA ?_
      repeat' (first
        | refine W1 ?_ | refine Wc ?_ | refine W2c ?_ ?_ | refine Wg ?_ | refine W2 ?_ ?_ | exact Wdead | refine Wlive (fun hb => ?_) | intro _ _ _ _ _ _ _ _ | refine We ?_ | refine Wx ?_ | refine Wt ?_ | refine Wm ?_ | refine W2m ?_ ?_ | refine Wl ?_
        | fail)
      rw [if_pos (by assumption)] at hstep
      refine ⟨v2, hlt, (by repeat' (first | exact Weak.nil | refine Weak.wild ?_ | refine Weak.same ?_ | refine Weak.intEq (by first | omega | (simp; done) | (push_cast; omega)) ?_)), rfl, hE H extA (by omega), hK _ _ (by omega) getA, by rw [hstep]; exact hA2, by simp at hL; omega⟩
    · rw [if_neg (by assumption)] at hstep
      exact ⟨v, hlt, (by repeat' (first | exact Weak.nil | refine Weak.wild ?_ | refine Weak.same ?_ | refine Weak.intEq (by first | omega | (simp; done) | (push_cast; omega)) ?_)), rfl, extA, getA, by rw [hstep]; exact hA, hlen⟩
  · skip
    repeat' (first
      | refine W1 ?_ | refine Wc ?_ | refine W2c ?_ ?_ | refine Wg ?_ | refine W2 ?_ ?_ | exact Wdead | refine Wlive (fun hb => ?_) | intro _ _ _ _ _ _ _ _ | refine We ?_ | refine Wx ?_ | refine Wt ?_ | refine Wm ?_ | refine W2m ?_ ?_ | refine Wl ?_
      | fail)
    obtain rfl : j = m.clips.length := by omega
    exact hA.tidy (by omega) he (fun _ => rfl) ⟨rfl, rfl, rfl⟩
theorem Fault_y (m : HouseM) (s1 s2 s3 : Value) (hm : HouseY H m s1 s2 s3) : CallJ Try.prog E 83 [hv m s1 s2 s3] (fun v H' g' => v = .int .i64 (checkS m) ∧ H' = H ∧ g' = g) H g := by
  have hok := hm.cells
  have hr1 := hm.clocks
  have hr2 := hm.tickets
  have hr3 := hm.clips
  refine CallJ.tidy ?_
  unfold hv
  cases hL : isLongS m with
  | true =>
    have hL' := hL
    simp only [isLongS, Bool.or_eq_true, decide_eq_true_eq] at hL'
    rw [check3 hL]
    refine CallJ.enter Try.func83 rfl (by simp only [Try.ntmps83, List.length_cons, List.length_nil, Nat.zero_add, Nat.reduceSub, List.replicate_succ, List.replicate_zero, List.cons_append, List.nil_append]; rfl) ?_
    repeat' (first
      | (refine is_ucall ?_; first
        | refine st_callP (h := In_spec _ _ _ _ _ _) (k := ?_)
        | refine st_callP (h := Many_y _ _ _ m s1 s2 s3 (hm.ext extA) hall) (k := ?_)
        | refine st_callL (h := Of_y _ _ _ m s1 s2 s3 _ (hm.ext extA)) (k := ?_)
        | fail)
      | (refine is_umcall ?_; first
        | refine mj_callL (h := Of_y _ _ _ m s1 s2 s3 _ (hm.ext extA)) (k := ?_)
        | refine mj_callP (h := In_spec _ _ _ _ _ _) (k := ?_)
        | refine mj_callP (h := Many_y _ _ _ m s1 s2 s3 (hm.ext extA) hall) (k := ?_)
        | fail)
      | refine W1 ?_ | refine Wc ?_ | refine W2c ?_ ?_ | refine Wg ?_ | refine W2 ?_ ?_ | exact Wdead | refine Wlive (fun hb => ?_) | intro _ _ _ _ _ _ _ _ | refine We ?_ | refine Wx ?_ | refine Wt ?_ | refine Wm ?_ | refine W2m ?_ ?_ | refine Wl ?_
      | fail)
    all_goals first | exact ⟨rfl, rfl, rfl⟩ | (exfalso; omega)
  | false =>
    have hL' := hL
    simp only [isLongS, Bool.or_eq_false_iff, decide_eq_false_iff_not] at hL'
    refine CallJ.enter Try.func83 rfl (by simp only [Try.ntmps83, List.length_cons, List.length_nil, Nat.zero_add, Nat.reduceSub, List.replicate_succ, List.replicate_zero, List.cons_append, List.nil_append]; rfl) ?_
    repeat' (first
      | (refine is_ucall ?_; first
        | refine st_callP (h := In_spec _ _ _ _ _ _) (k := ?_)
        | refine st_callP (h := Many_y _ _ _ m s1 s2 s3 (hm.ext extA) hall) (k := ?_)
        | refine st_callL (h := Of_y _ _ _ m s1 s2 s3 _ (hm.ext extA)) (k := ?_)
        | fail)
      | (refine is_umcall ?_; first
        | refine mj_callL (h := Of_y _ _ _ m s1 s2 s3 _ (hm.ext extA)) (k := ?_)
        | refine mj_callP (h := In_spec _ _ _ _ _ _) (k := ?_)
        | refine mj_callP (h := Many_y _ _ _ m s1 s2 s3 (hm.ext extA) hall) (k := ?_)
        | fail)
      | refine W1 ?_ | refine Wc ?_ | refine W2c ?_ ?_ | refine Wg ?_ | refine W2 ?_ ?_ | exact Wdead | refine Wlive (fun hb => ?_) | intro _ _ _ _ _ _ _ _ | refine We ?_ | refine Wx ?_ | refine Wt ?_ | refine Wm ?_ | refine W2m ?_ ?_ | refine Wl ?_
      | fail)
    · exact ⟨by rw [check1 hL (bad_hour (by omega))], rfl, rfl⟩
    rotate_left
    · exact ⟨by rw [check1 hL (bad_hour (by omega))], rfl, rfl⟩
    have hhour : 1 ≤ m.hour ∧ m.hour ≤ 120 := by assumption
    have hgrace : 0 ≤ m.grace ∧ m.grace ≤ 60 := by assumption
    refine WPJ.loopT m.clocks.length [34, 35, 36, 37, 38, 41, 42, 43, 44, 45, 4, 46, 47, 48, 49, 50, 51, 52, 53, 54, 55, 56, 57, 58, 59, 60, 39, 40] (fun j (_ : Unit) => [(3, .int .i64 j)])
      (fun j _ H1 g1 => g1 = g ∧ Ext H H1 ∧ H1[H.length]? = some (.row (hcells m s1 s2 s3) 1 true) ∧ (m.clocks.take j).all isClockS = true ∧ H.length < H1.length) 0 () (Nat.zero_le _)
      (by intro p hp; simp at hp; rcases hp with rfl; rfl) ⟨rfl, extA, getA, by simp, by simp⟩ ?_
    rintro j _ H1 g1 hj ⟨rfl, he, hb0, hx, hlen⟩ hl0
    simp only [updT, maskT, List.set_cons_zero, List.set_cons_succ]
    rcases Nat.lt_or_ge j m.clocks.length with hlt | hge
    · have hel : (m.clocks.map encR)[(j : Int).toNat]? = some (encR m.clocks[j]) := by simp [hlt]
      have hbad := bad_clock hL hlt
      have hstep : (m.clocks.take (j + 1)).all isClockS = ((m.clocks.take j).all isClockS && isClockS m.clocks[j]) := by rw [List.take_succ_eq_append_getElem hlt, List.all_append]; simp
      generalize m.clocks[j] = r at *
      repeat' (first
        | (refine is_ucall ?_; first
          | refine st_callP (h := In_spec _ _ _ _ _ _) (k := ?_)
          | refine st_callP (h := Many_y _ _ _ m s1 s2 s3 (hm.ext extA) hall) (k := ?_)
          | refine st_callL (h := Of_y _ _ _ m s1 s2 s3 _ (hm.ext extA)) (k := ?_)
          | fail)
        | (refine is_umcall ?_; first
          | refine mj_callL (h := Of_y _ _ _ m s1 s2 s3 _ (hm.ext extA)) (k := ?_)
          | refine mj_callP (h := In_spec _ _ _ _ _ _) (k := ?_)
          | refine mj_callP (h := Many_y _ _ _ m s1 s2 s3 (hm.ext extA) hall) (k := ?_)
          | fail)
        | refine W1 ?_ | refine Wc ?_ | refine W2c ?_ ?_ | refine Wg ?_ | refine W2 ?_ ?_ | exact Wdead | refine Wlive (fun hb => ?_) | intro _ _ _ _ _ _ _ _ | refine We ?_ | refine Wx ?_ | refine Wt ?_ | refine Wm ?_ | refine W2m ?_ ?_ | refine Wl ?_
        | fail)
      all_goals first
        | (have hv := hbad (by simp only [isClockS, Bool.and_eq_false_iff, decide_eq_false_iff_not]; omega); exact ⟨by rw [check1 hL hv], rfl, rfl⟩)
        | (refine ⟨(), hlt, (by repeat' (first | exact Weak.nil | refine Weak.wild ?_ | refine Weak.same ?_ | refine Weak.intEq (by first | omega | (simp; done) | (push_cast; omega)) ?_)), rfl, extA, getA, ?_, by simp; omega⟩; rw [hstep, hx, Bool.true_and]; simp only [isClockS, Bool.and_eq_true, decide_eq_true_eq]; omega)
    have hclk : m.clocks.all isClockS = true := by rwa [List.take_of_length_le hge] at hx
    obtain rfl : j = m.clocks.length := by omega
    clear hx
    repeat' (first
      | (refine is_ucall ?_; first
        | refine st_callP (h := In_spec _ _ _ _ _ _) (k := ?_)
        | refine st_callP (h := Many_y _ _ _ m s1 s2 s3 (hm.ext extA) hall) (k := ?_)
        | refine st_callL (h := Of_y _ _ _ m s1 s2 s3 _ (hm.ext extA)) (k := ?_)
        | fail)
      | (refine is_umcall ?_; first
        | refine mj_callL (h := Of_y _ _ _ m s1 s2 s3 _ (hm.ext extA)) (k := ?_)
        | refine mj_callP (h := In_spec _ _ _ _ _ _) (k := ?_)
        | refine mj_callP (h := Many_y _ _ _ m s1 s2 s3 (hm.ext extA) hall) (k := ?_)
        | fail)
      | refine W1 ?_ | refine Wc ?_ | refine W2c ?_ ?_ | refine Wg ?_ | refine W2 ?_ ?_ | exact Wdead | refine Wlive (fun hb => ?_) | intro _ _ _ _ _ _ _ _ | refine We ?_ | refine Wx ?_ | refine Wt ?_ | refine Wm ?_ | refine W2m ?_ ?_ | refine Wl ?_
      | fail)
    refine WPJ.loopT m.clips.length [61, 62, 63, 64, 65, 68, 69, 70, 71, 72, 6, 73, 74, 75, 76, 77, 78, 79, 80, 81, 82, 83, 84, 85, 86, 87, 88, 89, 90, 91, 92, 93, 94, 95, 96, 66, 67] (fun j (_ : Unit) => [(5, .int .i64 j)])
      (fun j _ H1 g2 => g2 = g1 ∧ Ext H H1 ∧ H1[H.length]? = some (.row (hcells m s1 s2 s3) 1 true) ∧ (m.clips.take j).all (clipF m) = true ∧ H.length < H1.length) 0 () (Nat.zero_le _)
      (by intro p hp; simp at hp; rcases hp with rfl; rfl) ⟨rfl, extA, getA, by simp, by first | omega | (simp; omega)⟩ ?_
    rintro j _ H2 g2 hj2 ⟨rfl, he2, hb2, hx2, hlen2⟩ hl2
    simp only [updT, maskT, List.set_cons_zero, List.set_cons_succ]
    rcases Nat.lt_or_ge j m.clips.length with hlt | hge2
    · have hel : (m.clips.map encC)[(j : Int).toNat]? = some (encC m.clips[j]) := by simp [hlt]
      have hbad := bad_clip hL hlt
      have hstep : (m.clips.take (j + 1)).all (clipF m) = ((m.clips.take j).all (clipF m) && clipF m m.clips[j]) := by rw [List.take_succ_eq_append_getElem hlt, List.all_append]; simp
      generalize m.clips[j] = c at *
      repeat' (first
        | (refine is_ucall ?_; first
          | refine st_callP (h := In_spec _ _ _ _ _ _) (k := ?_)
          | refine st_callP (h := Many_y _ _ _ m s1 s2 s3 (hm.ext extA) hall) (k := ?_)
          | refine st_callL (h := Of_y _ _ _ m s1 s2 s3 _ (hm.ext extA)) (k := ?_)
          | fail)
        | (refine is_umcall ?_; first
          | refine mj_callL (h := Of_y _ _ _ m s1 s2 s3 _ (hm.ext extA)) (k := ?_)
          | refine mj_callP (h := In_spec _ _ _ _ _ _) (k := ?_)
          | refine mj_callP (h := Many_y _ _ _ m s1 s2 s3 (hm.ext extA) hall) (k := ?_)
          | fail)
        | refine W1 ?_ | refine Wc ?_ | refine W2c ?_ ?_ | refine Wg ?_ | refine W2 ?_ ?_ | exact Wdead | refine Wlive (fun hb => ?_) | intro _ _ _ _ _ _ _ _ | refine We ?_ | refine Wx ?_ | refine Wt ?_ | refine Wm ?_ | refine W2m ?_ ?_ | refine Wl ?_
        | fail)
      all_goals first
        | (have hv := hbad (by simp only [clipF, Bool.and_eq_false_iff, decide_eq_false_iff_not]; omega); exact ⟨by rw [check1 hL hv], rfl, rfl⟩)
        | (refine ⟨(), hlt, (by repeat' (first | exact Weak.nil | refine Weak.wild ?_ | refine Weak.same ?_ | refine Weak.intEq (by first | omega | (simp; done) | (push_cast; omega)) ?_)), rfl, extA, getA, ?_, by simp; omega⟩; rw [hstep, hx2, Bool.true_and]; simp only [clipF, Bool.and_eq_true, decide_eq_true_eq]; omega)
    have hclp : m.clips.all (clipF m) = true := by rwa [List.take_of_length_le hge2] at hx2
    obtain rfl : j = m.clips.length := by omega
    clear hx2
    repeat' (first
      | (refine is_ucall ?_; first
        | refine st_callP (h := In_spec _ _ _ _ _ _) (k := ?_)
        | refine st_callP (h := Many_y _ _ _ m s1 s2 s3 (hm.ext extA) hall) (k := ?_)
        | refine st_callL (h := Of_y _ _ _ m s1 s2 s3 _ (hm.ext extA)) (k := ?_)
        | fail)
      | (refine is_umcall ?_; first
        | refine mj_callL (h := Of_y _ _ _ m s1 s2 s3 _ (hm.ext extA)) (k := ?_)
        | refine mj_callP (h := In_spec _ _ _ _ _ _) (k := ?_)
        | refine mj_callP (h := Many_y _ _ _ m s1 s2 s3 (hm.ext extA) hall) (k := ?_)
        | fail)
      | refine W1 ?_ | refine Wc ?_ | refine W2c ?_ ?_ | refine Wg ?_ | refine W2 ?_ ?_ | exact Wdead | refine Wlive (fun hb => ?_) | intro _ _ _ _ _ _ _ _ | refine We ?_ | refine Wx ?_ | refine Wt ?_ | refine Wm ?_ | refine W2m ?_ ?_ | refine Wl ?_
      | fail)
    refine WPJ.loopT m.tickets.length [97, 98, 99, 100, 101, 104, 105, 106, 107, 108, 109, 110, 111, 112, 113, 114, 115, 116, 117, 118, 119, 120, 121, 122, 123, 124, 125, 126, 127, 128, 102, 103] (fun j (_ : Unit) => [(7, .int .i64 j)])
      (fun j _ H1 g3 => g3 = g2 ∧ Ext H H1 ∧ H1[H.length]? = some (.row (hcells m s1 s2 s3) 1 true) ∧ (List.range j).all (tickF m) = true ∧ H.length < H1.length) 0 () (Nat.zero_le _)
      (by intro p hp; simp at hp; rcases hp with rfl; rfl) ⟨rfl, extA, getA, by simp, by first | omega | (simp; omega)⟩ ?_
    rintro j _ H3 g3 hj3 ⟨rfl, he3, hb3, hx3, hlen3⟩ hl3
    simp only [updT, maskT, List.set_cons_zero, List.set_cons_succ]
    rcases Nat.lt_or_ge j m.tickets.length with hlt | hge3
    · have hel : (m.tickets.map encR)[(j : Int).toNat]? = some (encR m.tickets[j]) := by simp [hlt]
      have hbad := bad_tick hL hlt
      have hstep : (List.range (j + 1)).all (tickF m) = ((List.range j).all (tickF m) && tickF m j) := by rw [List.range_succ, List.all_append]; simp
      have htk : tickF m j = (decide (0 ≤ m.tickets[j].1) && decide (m.tickets[j].1 ≤ 8) && (decide (0 ≤ m.tickets[j].2) && decide (m.tickets[j].2 ≤ 9)) && decide (clipsOfS m j m.clips.length ≤ 2)) := by unfold tickF; rw [List.getElem?_eq_getElem hlt]
      have hcount := ofS_count m (j : Int)
      rw [htk] at hbad hstep
      generalize m.tickets[j] = r at *
      repeat' (first
        | (refine is_ucall ?_; first
          | refine st_callP (h := In_spec _ _ _ _ _ _) (k := ?_)
          | refine st_callP (h := Many_y _ _ _ m s1 s2 s3 (hm.ext extA) hall) (k := ?_)
          | refine st_callL (h := Of_y _ _ _ m s1 s2 s3 _ (hm.ext extA)) (k := ?_)
          | fail)
        | (refine is_umcall ?_; first
          | refine mj_callL (h := Of_y _ _ _ m s1 s2 s3 _ (hm.ext extA)) (k := ?_)
          | refine mj_callP (h := In_spec _ _ _ _ _ _) (k := ?_)
          | refine mj_callP (h := Many_y _ _ _ m s1 s2 s3 (hm.ext extA) hall) (k := ?_)
          | fail)
        | refine W1 ?_ | refine Wc ?_ | refine W2c ?_ ?_ | refine Wg ?_ | refine W2 ?_ ?_ | exact Wdead | refine Wlive (fun hb => ?_) | intro _ _ _ _ _ _ _ _ | refine We ?_ | refine Wx ?_ | refine Wt ?_ | refine Wm ?_ | refine W2m ?_ ?_ | refine Wl ?_
        | fail)
      all_goals first
        | (have hv := hbad (by simp only [Bool.and_eq_false_iff, decide_eq_false_iff_not]; omega); exact ⟨by rw [check1 hL hv], rfl, rfl⟩)
        | skip
      refine st_lenSl rfl ?_
      refine OpsJ.normA ?_
      repeat' (first
        | (refine is_ucall ?_; first
          | refine st_callP (h := In_spec _ _ _ _ _ _) (k := ?_)
          | refine st_callP (h := Many_y _ _ _ m s1 s2 s3 (hm.ext extA) hall) (k := ?_)
          | refine st_callL (h := Of_y _ _ _ m s1 s2 s3 _ (hm.ext extA)) (k := ?_)
          | fail)
        | (refine is_umcall ?_; first
          | refine mj_callL (h := Of_y _ _ _ m s1 s2 s3 _ (hm.ext extA)) (k := ?_)
          | refine mj_callP (h := In_spec _ _ _ _ _ _) (k := ?_)
          | refine mj_callP (h := Many_y _ _ _ m s1 s2 s3 (hm.ext extA) hall) (k := ?_)
          | fail)
        | refine W1 ?_ | refine Wc ?_ | refine W2c ?_ ?_ | refine Wg ?_ | refine W2 ?_ ?_ | exact Wdead | refine Wlive (fun hb => ?_) | intro _ _ _ _ _ _ _ _ | refine We ?_ | refine Wx ?_ | refine Wt ?_ | refine Wm ?_ | refine W2m ?_ ?_ | refine Wl ?_
        | fail)
      all_goals first
        | (have hv := hbad (by simp only [Bool.and_eq_false_iff, decide_eq_false_iff_not]; omega); exact ⟨by rw [check1 hL hv], rfl, rfl⟩)
        | (refine ⟨(), hlt, (by repeat' (first | exact Weak.nil | refine Weak.wild ?_ | refine Weak.same ?_ | refine Weak.intEq (by first | omega | (simp; done) | (push_cast; omega)) ?_)), rfl, extA, getA, ?_, by simp; omega⟩; rw [hstep, hx3, Bool.true_and]; simp only [Bool.and_eq_true, decide_eq_true_eq]; omega)
    have hval : isValidS m = true := by
      have h4 : j = m.tickets.length := by omega
      rw [check_eq m hL, hclk, hclp, ← h4, hx3]
      simp [hhour, hgrace]
    obtain rfl : j = m.tickets.length := by omega
    clear hx3
    have hall : ∀ r ∈ m.clocks, isClockS r = true := List.all_eq_true.1 hclk
    repeat' (first
      | (refine is_ucall ?_; first
        | refine st_callP (h := In_spec _ _ _ _ _ _) (k := ?_)
        | refine st_callP (h := Many_y _ _ _ m s1 s2 s3 (hm.ext extA) hall) (k := ?_)
        | refine st_callL (h := Of_y _ _ _ m s1 s2 s3 _ (hm.ext extA)) (k := ?_)
        | fail)
      | (refine is_umcall ?_; first
        | refine mj_callL (h := Of_y _ _ _ m s1 s2 s3 _ (hm.ext extA)) (k := ?_)
        | refine mj_callP (h := In_spec _ _ _ _ _ _) (k := ?_)
        | refine mj_callP (h := Many_y _ _ _ m s1 s2 s3 (hm.ext extA) hall) (k := ?_)
        | fail)
      | refine W1 ?_ | refine Wc ?_ | refine W2c ?_ ?_ | refine Wg ?_ | refine W2 ?_ ?_ | exact Wdead | refine Wlive (fun hb => ?_) | intro _ _ _ _ _ _ _ _ | refine We ?_ | refine Wx ?_ | refine Wt ?_ | refine Wm ?_ | refine W2m ?_ ?_ | refine Wl ?_
      | fail)
    all_goals refine ⟨?_, rfl, rfl⟩
    all_goals (simp only [checkS, hL, hval, Bool.false_eq_true, if_false, if_true])
    · rw [if_pos (by omega)]
    · rw [if_neg (by omega)]
theorem ready_y (m : HouseM) (s1 s2 s3 : Value) (hm : HouseY H m s1 s2 s3) : CallJ Try.prog E 61 [hv m s1 s2 s3] (fun v H' g' => v = .bool (thinS m && decide (checkS m = 0)) ∧ H' = H ∧ g' = g) H g := by
  have hok := hm.cells
  refine CallJ.tidy ?_
  unfold hv
  refine CallJ.enter Try.func61 rfl (by simp only [Try.ntmps61, List.length_cons, List.length_nil, Nat.zero_add, Nat.reduceSub, List.replicate_succ, List.replicate_zero, List.cons_append, List.nil_append]; rfl) ?_
  repeat' (first
    | (refine is_ucall ?_; first
      | refine st_callP (h := Fault_y _ _ _ m s1 s2 s3 (hm.ext extA)) (k := ?_)
      | refine st_callP (h := Thin_y _ _ _ m s1 s2 s3 (hm.ext extA)) (k := ?_)
      | fail)
    | (refine is_umcall ?_; first
      | refine mj_callP (h := Fault_y _ _ _ m s1 s2 s3 (hm.ext extA)) (k := ?_)
      | refine mj_callP (h := Thin_y _ _ _ m s1 s2 s3 (hm.ext extA)) (k := ?_)
      | fail)
    | refine W1 ?_ | refine Wc ?_ | refine W2c ?_ ?_ | refine Wg ?_ | refine W2 ?_ ?_ | exact Wdead | refine Wlive (fun hb => ?_) | intro _ _ _ _ _ _ _ _ | refine We ?_ | refine Wx ?_ | refine Wt ?_ | refine Wm ?_ | refine W2m ?_ ?_ | refine Wl ?_
    | fail)
  all_goals (refine ⟨?_, rfl, rfl⟩; first | rfl | (simp [*]; done) | (simp only [*]; simp; done))
end
end Go.Proofs.Ytehobnpoeodhkaa
