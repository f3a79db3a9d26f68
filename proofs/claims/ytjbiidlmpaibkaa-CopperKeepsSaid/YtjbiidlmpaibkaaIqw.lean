import Derived.Test.YtjbiidlmpaibkaaIpw
namespace Go.Proofs.Ytjbiidlmpaibkaa
open Go Go.Abs Go.Proofs
set_option maxHeartbeats 8000000
set_option maxRecDepth 20000
attribute [local irreducible] CallJ OpsJ WPJ CallV MonoJ SpecJ

section
variable {γ : Type} (E : Env γ) (g : γ) (H : AHeap)
theorem KeepsQ_spec (m : CopM) (s1 s2 s3 s4 : Value) (hS : checkT m = 0) (hm : CopIs H m s1 s2 s3 s4) : CallJ Try.prog E 35 [cv m s1 s2 s3 s4] (fun v H' g' => (∃ sv, v = .tuple #[sv, .int .i64 0] ∧ RdS H' sv 1 (encI (keepsL m)) ∧ Ext H H') ∧ g' = g) H g :=
  (Keeps_spec E g H m s1 s2 s3 s4 hm).mono (by
    rintro v H' g' ⟨h, rfl⟩
    unfold IntsA at h
    rw [if_pos hS] at h
    obtain ⟨rfl, rfl⟩ := h
    exact ⟨⟨_, rfl, rd_encE (own := true) List.getElem?_concat_length (List.take_of_length_le (by simp [encE])), ⟨_, rfl⟩⟩, rfl⟩)
theorem KeepsN_spec (m : CopM) (s1 s2 s3 s4 : Value) (hS : ¬ checkT m = 0) (hm : CopIs H m s1 s2 s3 s4) : CallJ Try.prog E 35 [cv m s1 s2 s3 s4] (fun v H' g' => v = .tuple #[.slice none 0 0, .int .i64 (checkT m)] ∧ H' = H ∧ g' = g) H g :=
  (Keeps_spec E g H m s1 s2 s3 s4 hm).mono (by
    rintro v H' g' ⟨h, rfl⟩
    unfold IntsA at h
    rw [if_neg hS] at h
    exact ⟨h.1, h.2, rfl⟩)
theorem keeps_law (m : CopM) (s1 s2 s3 s4 : Value) (hm : CopZ H m s1 s2 s3 s4) : CallJ Try.prog E 5 [cv m s1 s2 s3 s4] (fun v H' g' => v = .bool true ∧ H' = H ∧ g' = g) H g := by
  have hok := hm.cells
  refine CallJ.tidy ?_
  unfold cv
  refine CallJ.enter Try.func5 rfl (by simp only [Try.ntmps5, List.length_cons, List.length_nil, Nat.zero_add, Nat.reduceSub, List.replicate_succ, List.replicate_zero, List.cons_append, List.nil_append]; rfl) ?_
  repeat' (first
    | (refine is_ucall ?_; first
      | refine st_callP (h := awake_spec _ _ _) (k := ?_)
      | refine st_callP (h := ThinZ_spec _ _ _ m s1 s2 s3 s4 (hm.ext extA)) (k := ?_)
      | fail)
    | (refine is_umcall ?_; first
      | refine mj_callP (h := awake_spec _ _ _) (k := ?_)
      | refine mj_callP (h := ThinZ_spec _ _ _ m s1 s2 s3 s4 (hm.ext extA)) (k := ?_)
      | fail)
    | ((fail_if_success (first | refine is_ucall ?_ | refine is_umcall ?_)); first | refine W1 ?_ | refine Wc ?_ | refine W2c ?_ ?_ | refine Wg ?_ | refine W2 ?_ ?_ | exact Wdead | refine Wlive (fun hb => ?_) | intro _ _ _ _ _ _ _ _ | refine We ?_ | refine Wx ?_ | refine Wt ?_ | refine Wm ?_ | refine W2m ?_ ?_ | refine Wl ?_)
    | fail)
  · exact ⟨rfl, rfl, rfl⟩
  · have hr : thinS m = true := by assumption
    have hI := hm.is hr
    obtain ⟨k1, k2, k3, k4⟩ := thin_of hr
    refine st_call rfl (Copper_w E _ _ m s1 s2 s3 s4 ?_ (by omega) (by omega)) ?_
    · exact (hI.ext extA).y
    rintro _ H1 g1 ⟨⟨t1, t2, t3, t4, rfl, hm1, e1⟩, rfl⟩
    have hb1 : H1[H.length]? = some (.row (ccells m s1 s2 s3 s4) 1 true) := e1.get getA
    have x1 : Ext H H1 := Ext.trans extA e1
    clear e1
    refine OpsJ.normA ?_
    repeat' (first
      | (refine is_ucall ?_; first
        | refine st_callP (h := awake_spec _ _ _) (k := ?_)
        | refine st_callP (h := ThinZ_spec _ _ _ m s1 s2 s3 s4 (hm.ext extA)) (k := ?_)
        | fail)
      | (refine is_umcall ?_; first
        | refine mj_callP (h := awake_spec _ _ _) (k := ?_)
        | refine mj_callP (h := ThinZ_spec _ _ _ m s1 s2 s3 s4 (hm.ext extA)) (k := ?_)
        | fail)
      | ((fail_if_success (first | refine is_ucall ?_ | refine is_umcall ?_)); first | refine W1 ?_ | refine Wc ?_ | refine W2c ?_ ?_ | refine Wg ?_ | refine W2 ?_ ?_ | exact Wdead | refine Wlive (fun hb => ?_) | intro _ _ _ _ _ _ _ _ | refine We ?_ | refine Wx ?_ | refine Wt ?_ | refine Wm ?_ | refine W2m ?_ ?_ | refine Wl ?_)
      | fail)
    by_cases hz : checkT m = 0
    case neg =>
      refine st_callP (h := KeepsN_spec _ _ _ m t1 t2 t3 t4 hz (hm1.ext extA)) (k := ?_)
      clear hm1
      refine OpsJ.normA ?_
      repeat' (first
        | (refine is_ucall ?_; first
          | refine st_callP (h := awake_spec _ _ _) (k := ?_)
          | refine st_callP (h := ThinZ_spec _ _ _ m s1 s2 s3 s4 (hm.ext extA)) (k := ?_)
          | fail)
        | (refine is_umcall ?_; first
          | refine mj_callP (h := awake_spec _ _ _) (k := ?_)
          | refine mj_callP (h := ThinZ_spec _ _ _ m s1 s2 s3 s4 (hm.ext extA)) (k := ?_)
          | fail)
        | ((fail_if_success (first | refine is_ucall ?_ | refine is_umcall ?_)); first | refine W1 ?_ | refine Wc ?_ | refine W2c ?_ ?_ | refine Wg ?_ | refine W2 ?_ ?_ | exact Wdead | refine Wlive (fun hb => ?_) | intro _ _ _ _ _ _ _ _ | refine We ?_ | refine Wx ?_ | refine Wt ?_ | refine Wm ?_ | refine W2m ?_ ?_ | refine Wl ?_)
        | fail)
      refine st_call rfl (Copper_w E _ _ m s1 s2 s3 s4 ?_ (by omega) (by omega)) ?_
      · exact (hI.ext x1).y
      rintro _ H2 g2 ⟨⟨u1, u2, u3, u4, rfl, hm2, e2⟩, rfl⟩
      have hb2 := e2.get hb1
      have x2 : Ext H H2 := x1.trans e2
      clear e2 hb1 x1
      refine OpsJ.normA ?_
      repeat' (first
        | (refine is_ucall ?_; first
          | refine st_callP (h := awake_spec _ _ _) (k := ?_)
          | refine st_callP (h := ThinZ_spec _ _ _ m s1 s2 s3 s4 (hm.ext extA)) (k := ?_)
          | fail)
        | (refine is_umcall ?_; first
          | refine mj_callP (h := awake_spec _ _ _) (k := ?_)
          | refine mj_callP (h := ThinZ_spec _ _ _ m s1 s2 s3 s4 (hm.ext extA)) (k := ?_)
          | fail)
        | ((fail_if_success (first | refine is_ucall ?_ | refine is_umcall ?_)); first | refine W1 ?_ | refine Wc ?_ | refine W2c ?_ ?_ | refine Wg ?_ | refine W2 ?_ ?_ | exact Wdead | refine Wlive (fun hb => ?_) | intro _ _ _ _ _ _ _ _ | refine We ?_ | refine Wx ?_ | refine Wt ?_ | refine Wm ?_ | refine W2m ?_ ?_ | refine Wl ?_)
        | fail)
      have hL := Lacks_spec E g2 H2 m u1 u2 u3 u4 hm2
      rw [if_neg hz] at hL
      refine st_callP (h := hL) (k := ?_)
      clear hL hm2
      refine OpsJ.normA ?_
      repeat' (first
        | (refine is_ucall ?_; first
          | refine st_callP (h := awake_spec _ _ _) (k := ?_)
          | refine st_callP (h := ThinZ_spec _ _ _ m s1 s2 s3 s4 (hm.ext extA)) (k := ?_)
          | fail)
        | (refine is_umcall ?_; first
          | refine mj_callP (h := awake_spec _ _ _) (k := ?_)
          | refine mj_callP (h := ThinZ_spec _ _ _ m s1 s2 s3 s4 (hm.ext extA)) (k := ?_)
          | fail)
        | ((fail_if_success (first | refine is_ucall ?_ | refine is_umcall ?_)); first | refine W1 ?_ | refine Wc ?_ | refine W2c ?_ ?_ | refine Wg ?_ | refine W2 ?_ ?_ | exact Wdead | refine Wlive (fun hb => ?_) | intro _ _ _ _ _ _ _ _ | refine We ?_ | refine Wx ?_ | refine Wt ?_ | refine Wm ?_ | refine W2m ?_ ?_ | refine Wl ?_)
        | fail)
      refine st_call rfl (sure_spec E _ _ m s1 s2 s3 s4 (hI.ext x2).y) ?_
      rintro _ H3 g3 ⟨⟨⟨lv, rfl, hl⟩, e3⟩, rfl⟩
      have hb3 := e3.get hb2
      have x3 : Ext H H3 := x2.trans e3
      clear e3 hb2 x2
      refine OpsJ.normA ?_
      repeat' (first
        | (refine is_ucall ?_; first
          | refine st_callP (h := awake_spec _ _ _) (k := ?_)
          | refine st_callP (h := ThinZ_spec _ _ _ m s1 s2 s3 s4 (hm.ext extA)) (k := ?_)
          | fail)
        | (refine is_umcall ?_; first
          | refine mj_callP (h := awake_spec _ _ _) (k := ?_)
          | refine mj_callP (h := ThinZ_spec _ _ _ m s1 s2 s3 s4 (hm.ext extA)) (k := ?_)
          | fail)
        | ((fail_if_success (first | refine is_ucall ?_ | refine is_umcall ?_)); first | refine W1 ?_ | refine Wc ?_ | refine W2c ?_ ?_ | refine Wg ?_ | refine W2 ?_ ?_ | exact Wdead | refine Wlive (fun hb => ?_) | intro _ _ _ _ _ _ _ _ | refine We ?_ | refine Wx ?_ | refine Wt ?_ | refine Wm ?_ | refine W2m ?_ ?_ | refine Wl ?_)
        | fail)
      all_goals first | exact ⟨rfl, rfl, rfl⟩ | exact absurd trivial (by assumption) | exact absurd rfl (by assumption) | trace_state
    case pos =>
      have hz0 := checkT_zero hz
      have hG := good_of hz0
      obtain ⟨hn5, hnl⟩ := hrs_le hG.w
      have hkl : (keepsL m).length = hrs m := by simp [keepsL]
      have hM : (truR m (manyS m).toNat).length ≤ 3000 := by have := manyS_eq m; have := truR_len m (manyS m).toNat; omega
      refine st_call rfl (KeepsQ_spec E _ _ m t1 t2 t3 t4 hz (hm1.ext extA)) ?_
      rintro _ H2 g2 ⟨⟨sv, rfl, hsv, e2⟩, rfl⟩
      have hb2 := e2.get hb1
      have x2 : Ext H H2 := x1.trans e2
      clear e2 hb1 x1 hm1
      refine OpsJ.normA ?_
      repeat' (first
        | (refine is_ucall ?_; first
          | refine st_callP (h := awake_spec _ _ _) (k := ?_)
          | refine st_callP (h := ThinZ_spec _ _ _ m s1 s2 s3 s4 (hm.ext extA)) (k := ?_)
          | fail)
        | (refine is_umcall ?_; first
          | refine mj_callP (h := awake_spec _ _ _) (k := ?_)
          | refine mj_callP (h := ThinZ_spec _ _ _ m s1 s2 s3 s4 (hm.ext extA)) (k := ?_)
          | fail)
        | ((fail_if_success (first | refine is_ucall ?_ | refine is_umcall ?_)); first | refine W1 ?_ | refine Wc ?_ | refine W2c ?_ ?_ | refine Wg ?_ | refine W2 ?_ ?_ | exact Wdead | refine Wlive (fun hb => ?_) | intro _ _ _ _ _ _ _ _ | refine We ?_ | refine Wx ?_ | refine Wt ?_ | refine Wm ?_ | refine W2m ?_ ?_ | refine Wl ?_)
        | fail)
      refine st_call rfl (Copper_w E _ _ m s1 s2 s3 s4 ?_ (by omega) (by omega)) ?_
      · exact (hI.ext x2).y
      rintro _ H3 g3 ⟨⟨u1, u2, u3, u4, rfl, hm3, e3⟩, rfl⟩
      have hb3 := e3.get hb2
      have x3 : Ext H H3 := x2.trans e3
      replace hsv := hsv.ext e3
      clear e3 hb2 x2
      refine OpsJ.normA ?_
      repeat' (first
        | (refine is_ucall ?_; first
          | refine st_callP (h := awake_spec _ _ _) (k := ?_)
          | refine st_callP (h := ThinZ_spec _ _ _ m s1 s2 s3 s4 (hm.ext extA)) (k := ?_)
          | fail)
        | (refine is_umcall ?_; first
          | refine mj_callP (h := awake_spec _ _ _) (k := ?_)
          | refine mj_callP (h := ThinZ_spec _ _ _ m s1 s2 s3 s4 (hm.ext extA)) (k := ?_)
          | fail)
        | ((fail_if_success (first | refine is_ucall ?_ | refine is_umcall ?_)); first | refine W1 ?_ | refine Wc ?_ | refine W2c ?_ ?_ | refine Wg ?_ | refine W2 ?_ ?_ | exact Wdead | refine Wlive (fun hb => ?_) | intro _ _ _ _ _ _ _ _ | refine We ?_ | refine Wx ?_ | refine Wt ?_ | refine Wm ?_ | refine W2m ?_ ?_ | refine Wl ?_)
        | fail)
      obtain ⟨n0, f0, hL, hD⟩ : ∃ n0 f0 : Int, CallJ Try.prog E 36 [cv m u1 u2 u3 u4] (fun v H' g' => v = .tuple #[.int .i64 n0, .int .i64 f0] ∧ H' = H3 ∧ g' = g3) H3 g3 ∧ ((∃ j : Nat, lacksF m (hrs m) = some j ∧ n0 = j ∧ f0 = 0) ∨ (lacksF m (hrs m) = none ∧ n0 = 0 ∧ f0 = 7)) := by
        have hL := Lacks_spec E g3 H3 m u1 u2 u3 u4 hm3
        rw [if_pos hz] at hL
        cases hf : lacksF m (hrs m) with
        | some j => rw [hf] at hL; exact ⟨_, _, hL, .inl ⟨j, rfl, rfl, rfl⟩⟩
        | none => rw [hf] at hL; exact ⟨_, _, hL, .inr ⟨rfl, rfl, rfl⟩⟩
      refine st_callP (h := hL) (k := ?_)
      clear hL hm3
      refine OpsJ.normA ?_
      repeat' (first
        | (refine is_ucall ?_; first
          | refine st_callP (h := awake_spec _ _ _) (k := ?_)
          | refine st_callP (h := ThinZ_spec _ _ _ m s1 s2 s3 s4 (hm.ext extA)) (k := ?_)
          | fail)
        | (refine is_umcall ?_; first
          | refine mj_callP (h := awake_spec _ _ _) (k := ?_)
          | refine mj_callP (h := ThinZ_spec _ _ _ m s1 s2 s3 s4 (hm.ext extA)) (k := ?_)
          | fail)
        | ((fail_if_success (first | refine is_ucall ?_ | refine is_umcall ?_)); first | refine W1 ?_ | refine Wc ?_ | refine W2c ?_ ?_ | refine Wg ?_ | refine W2 ?_ ?_ | exact Wdead | refine Wlive (fun hb => ?_) | intro _ _ _ _ _ _ _ _ | refine We ?_ | refine Wx ?_ | refine Wt ?_ | refine Wm ?_ | refine W2m ?_ ?_ | refine Wl ?_)
        | fail)
      refine st_call rfl (sure_spec E _ _ m s1 s2 s3 s4 (hI.ext x3).y) ?_
      rintro _ H4 g4 ⟨⟨⟨lv, rfl, hl⟩, e4⟩, rfl⟩
      have hb4 := e4.get hb3
      have x4 : Ext H H4 := x3.trans e4
      replace hsv := hsv.ext e4
      replace hl := hl hz
      have hlc : cellOk lv = true := by obtain ⟨tv, hr, _⟩ := hl; obtain ⟨a, b, c, rfl⟩ := RdS.shape hr; rfl
      rw [hz]
      clear e4 hb3 x3
      refine OpsJ.normA ?_
      repeat' (first
        | (refine is_ucall ?_; first
          | refine st_callP (h := awake_spec _ _ _) (k := ?_)
          | refine st_callP (h := ThinZ_spec _ _ _ m s1 s2 s3 s4 (hm.ext extA)) (k := ?_)
          | fail)
        | (refine is_umcall ?_; first
          | refine mj_callP (h := awake_spec _ _ _) (k := ?_)
          | refine mj_callP (h := ThinZ_spec _ _ _ m s1 s2 s3 s4 (hm.ext extA)) (k := ?_)
          | fail)
        | ((fail_if_success (first | refine is_ucall ?_ | refine is_umcall ?_)); first | refine W1 ?_ | refine Wc ?_ | refine W2c ?_ ?_ | refine Wg ?_ | refine W2 ?_ ?_ | exact Wdead | refine Wlive (fun hb => ?_) | intro _ _ _ _ _ _ _ _ | refine We ?_ | refine Wx ?_ | refine Wt ?_ | refine Wm ?_ | refine W2m ?_ ?_ | refine Wl ?_)
        | fail)
      refine WPJ.loopT (hrs m) [64, 65, 66, 67, 70, 71, 72, 73, 74, 75, 76, 77, 78, 68, 69] (fun j (_ : Unit) => [(9, .int .i64 j)])
        (fun j _ H5 g5 => g5 = g4 ∧ H5 = H4) 0 () (Nat.zero_le _) (by intro p hp; simp at hp; rcases hp with rfl; rfl) ⟨rfl, rfl⟩ ?_
      rintro j _ H5 g5 hj ⟨rfl, rfl⟩ hl0
      simp only [updT, maskT, List.set_cons_zero, List.set_cons_succ]
      rcases Nat.lt_or_ge j (hrs m) with hlt | hge
      · have hel : (encI (keepsL m))[(j : Int).toNat]? = some [.int .i64 ((keepsL m).getD j 0)] := by
          have hjk : j < (keepsL m).length := by omega
          simp [hjk, List.getD]
        have hK : CallJ Try.prog trivE 37 [cv m s1 s2 s3 s4, lv, .int .i64 j] (fun v H2 g2 => v = .int .i64 ((keepsL m).getD j 0) ∧ H2 = H5 ∧ g2 = ()) H5 () := by
          rw [keepsL_at hlt, ← truR_verdict hG]
          exact KeepsR_spec trivE () H5 m s1 s2 s3 s4 lv _ (hI.ext x4).y hG hl (fun t ht => (truR_mem hG ht).2) hM j hlt
        generalize (keepsL m).getD j 0 = x at *
        repeat' (first
          | (refine is_ucall ?_; first
            | refine st_callP (h := awake_spec _ _ _) (k := ?_)
            | refine st_callP (h := ThinZ_spec _ _ _ m s1 s2 s3 s4 (hm.ext extA)) (k := ?_)
            | fail)
          | (refine is_umcall ?_; first
            | refine mj_callP (h := awake_spec _ _ _) (k := ?_)
            | refine mj_callP (h := ThinZ_spec _ _ _ m s1 s2 s3 s4 (hm.ext extA)) (k := ?_)
            | fail)
          | ((fail_if_success (first | refine is_ucall ?_ | refine is_umcall ?_)); first | refine W1 ?_ | refine Wc ?_ | refine W2c ?_ ?_ | refine Wg ?_ | refine W2 ?_ ?_ | exact Wdead | refine Wlive (fun hb => ?_) | intro _ _ _ _ _ _ _ _ | refine We ?_ | refine Wx ?_ | refine Wt ?_ | refine Wm ?_ | refine W2m ?_ ?_ | refine Wl ?_)
          | fail)
        refine WPJ.draw 9 mixed (by kernel_rfl) (by kernel_rfl) (by kernel_rfl) (by decide) ?_
        refine MonoJ.normA ?_
        repeat' (first
          | (refine is_ucall ?_; first
            | refine st_callP (h := awake_spec _ _ _) (k := ?_)
            | refine st_callP (h := ThinZ_spec _ _ _ m s1 s2 s3 s4 (hm.ext extA)) (k := ?_)
            | fail)
          | (refine is_umcall ?_; first
            | refine mj_callP (h := awake_spec _ _ _) (k := ?_)
            | refine mj_callP (h := ThinZ_spec _ _ _ m s1 s2 s3 s4 (hm.ext extA)) (k := ?_)
            | fail)
          | ((fail_if_success (first | refine is_ucall ?_ | refine is_umcall ?_)); first | refine W1 ?_ | refine Wc ?_ | refine W2c ?_ ?_ | refine Wg ?_ | refine W2 ?_ ?_ | exact Wdead | refine Wlive (fun hb => ?_) | intro _ _ _ _ _ _ _ _ | refine We ?_ | refine Wx ?_ | refine Wt ?_ | refine Wm ?_ | refine W2m ?_ ?_ | refine Wl ?_)
          | fail)
        refine mj_callP (h := hK) (k := ?_)
        clear hK
        refine MonoJ.normA ?_
        repeat' (first
          | (refine is_ucall ?_; first
            | refine st_callP (h := awake_spec _ _ _) (k := ?_)
            | refine st_callP (h := ThinZ_spec _ _ _ m s1 s2 s3 s4 (hm.ext extA)) (k := ?_)
            | fail)
          | (refine is_umcall ?_; first
            | refine mj_callP (h := awake_spec _ _ _) (k := ?_)
            | refine mj_callP (h := ThinZ_spec _ _ _ m s1 s2 s3 s4 (hm.ext extA)) (k := ?_)
            | fail)
          | ((fail_if_success (first | refine is_ucall ?_ | refine is_umcall ?_)); first | refine W1 ?_ | refine Wc ?_ | refine W2c ?_ ?_ | refine Wg ?_ | refine W2 ?_ ?_ | exact Wdead | refine Wlive (fun hb => ?_) | intro _ _ _ _ _ _ _ _ | refine We ?_ | refine Wx ?_ | refine Wt ?_ | refine Wm ?_ | refine W2m ?_ ?_ | refine Wl ?_)
          | fail)
        · exact absurd trivial (by assumption)
        · exact ⟨(), hlt, (by repeat' (first | exact Weak.nil | refine Weak.wild ?_ | refine Weak.same ?_ | refine Weak.intEq (by first | omega | (simp; done) | (push_cast; omega)) ?_)), rfl, rfl⟩
      · obtain rfl : j = hrs m := by omega
        repeat' (first
          | (refine is_ucall ?_; first
            | refine st_callP (h := awake_spec _ _ _) (k := ?_)
            | refine st_callP (h := ThinZ_spec _ _ _ m s1 s2 s3 s4 (hm.ext extA)) (k := ?_)
            | fail)
          | (refine is_umcall ?_; first
            | refine mj_callP (h := awake_spec _ _ _) (k := ?_)
            | refine mj_callP (h := ThinZ_spec _ _ _ m s1 s2 s3 s4 (hm.ext extA)) (k := ?_)
            | fail)
          | ((fail_if_success (first | refine is_ucall ?_ | refine is_umcall ?_)); first | refine W1 ?_ | refine Wc ?_ | refine W2c ?_ ?_ | refine Wg ?_ | refine W2 ?_ ?_ | exact Wdead | refine Wlive (fun hb => ?_) | intro _ _ _ _ _ _ _ _ | refine We ?_ | refine Wx ?_ | refine Wt ?_ | refine Wm ?_ | refine W2m ?_ ?_ | refine Wl ?_)
          | fail)
        refine st_callP (h := LacksR_spec _ _ _ m s1 s2 s3 s4 lv (hI.ext x4).y hG hl) (k := ?_)
        rcases hD with ⟨j, hf, rfl, rfl⟩ | ⟨hf, rfl, rfl⟩
        · rw [hf]
          refine OpsJ.normA ?_
          repeat' (first
            | (refine is_ucall ?_; first
              | refine st_callP (h := awake_spec _ _ _) (k := ?_)
              | refine st_callP (h := ThinZ_spec _ _ _ m s1 s2 s3 s4 (hm.ext extA)) (k := ?_)
              | fail)
            | (refine is_umcall ?_; first
              | refine mj_callP (h := awake_spec _ _ _) (k := ?_)
              | refine mj_callP (h := ThinZ_spec _ _ _ m s1 s2 s3 s4 (hm.ext extA)) (k := ?_)
              | fail)
            | ((fail_if_success (first | refine is_ucall ?_ | refine is_umcall ?_)); first | refine W1 ?_ | refine Wc ?_ | refine W2c ?_ ?_ | refine Wg ?_ | refine W2 ?_ ?_ | exact Wdead | refine Wlive (fun hb => ?_) | intro _ _ _ _ _ _ _ _ | refine We ?_ | refine Wx ?_ | refine Wt ?_ | refine Wm ?_ | refine W2m ?_ ?_ | refine Wl ?_)
            | fail)
          all_goals first | exact ⟨rfl, rfl, rfl⟩ | exact absurd trivial (by assumption) | exact absurd rfl (by assumption)
        · rw [hf]
          refine OpsJ.normA ?_
          repeat' (first
            | (refine is_ucall ?_; first
              | refine st_callP (h := awake_spec _ _ _) (k := ?_)
              | refine st_callP (h := ThinZ_spec _ _ _ m s1 s2 s3 s4 (hm.ext extA)) (k := ?_)
              | fail)
            | (refine is_umcall ?_; first
              | refine mj_callP (h := awake_spec _ _ _) (k := ?_)
              | refine mj_callP (h := ThinZ_spec _ _ _ m s1 s2 s3 s4 (hm.ext extA)) (k := ?_)
              | fail)
            | ((fail_if_success (first | refine is_ucall ?_ | refine is_umcall ?_)); first | refine W1 ?_ | refine Wc ?_ | refine W2c ?_ ?_ | refine Wg ?_ | refine W2 ?_ ?_ | exact Wdead | refine Wlive (fun hb => ?_) | intro _ _ _ _ _ _ _ _ | refine We ?_ | refine Wx ?_ | refine Wt ?_ | refine Wm ?_ | refine W2m ?_ ?_ | refine Wl ?_)
            | fail)
          all_goals first | exact ⟨rfl, rfl, rfl⟩ | exact absurd trivial (by assumption) | exact absurd rfl (by assumption)
end
end Go.Proofs.Ytjbiidlmpaibkaa
