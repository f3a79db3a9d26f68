import Derived.Test.YtjbiidlmpaibkaaIlw
import Derived.Test.YtjbiidlmpaibkaaU6
namespace Go.Proofs.Ytjbiidlmpaibkaa
open Go Go.Abs Go.Proofs
set_option maxHeartbeats 8000000
set_option maxRecDepth 20000
attribute [local irreducible] CallJ OpsJ WPJ CallV MonoJ SpecJ

section
variable {γ : Type} (E : Env γ) (g : γ) (H : AHeap)
theorem AllR (m : CopM) (s1 s2 s3 s4 : Value) (hm : CopY H m s1 s2 s3 s4) (hG : Good m) :
    CallJ Try.prog E 49 [cv m s1 s2 s3 s4] (fun v H' g' => (RdS H' v 1 (encI (natI (allN m (manyS m).toNat))) ∧ Ext H H') ∧ g' = g) H g :=
  (All_spec E g H m s1 s2 s3 s4 hm hG).mono (by
    rintro v H' g' ⟨rfl, rfl, rfl⟩
    exact ⟨⟨by rw [encI_eq]; exact sl_rd (enc := enc1) (w := 1) (fun _ => rfl) H _, ⟨_, rfl⟩⟩, rfl⟩)
theorem leaves_law (m : CopM) (s1 s2 s3 s4 : Value) (hm : CopZ H m s1 s2 s3 s4) : CallJ Try.prog E 7 [cv m s1 s2 s3 s4] (fun v H' g' => v = .bool true ∧ H' = H ∧ g' = g) H g := by
  have hok := hm.cells
  refine CallJ.tidy ?_
  unfold cv
  refine CallJ.enter Try.func7 rfl (by simp only [Try.ntmps7, List.length_cons, List.length_nil, Nat.zero_add, Nat.reduceSub, List.replicate_succ, List.replicate_zero, List.cons_append, List.nil_append]; rfl) ?_
  repeat' (first
    | (refine is_ucall ?_; first
      | refine st_callP (h := awake_spec _ _ _) (k := ?_)
      | refine st_callP (h := ThinZ_spec _ _ _ m s1 s2 s3 s4 (hm.ext extA)) (k := ?_)
      | fail)
    | (refine is_umcall ?_; first
      | refine mj_callP (h := awake_spec _ _ _) (k := ?_)
      | refine mj_callP (h := ThinZ_spec _ _ _ m s1 s2 s3 s4 (hm.ext extA)) (k := ?_)
      | fail)
    | ((fail_if_success (first | refine is_ucall ?_ | refine is_umcall ?_)); first | refine W1 ?_ | refine Wc ?_ | refine W2c ?_ ?_ | refine Wg ?_ | refine W2 ?_ ?_ | exact Wdead | refine Wlive (fun hb => ?_) | intro _ _ _ _ _ _ _ _ | refine We ?_ | refine Wx ?_ | refine Wt ?_ | refine Wm ?_ | refine W2m ?_ ?_ | refine Wl ?_)
    | fail)
  · exact ⟨rfl, rfl, rfl⟩
  · have hr : thinS m = true := by assumption
    have hI := hm.is hr
    obtain ⟨k1, k2, k3, k4⟩ := thin_of hr
    refine st_call rfl (Copper_w E _ _ m s1 s2 s3 s4 ?_ (by omega) (by omega)) ?_
    · exact (hI.ext extA).y
    rintro _ H1 g1 ⟨⟨t1, t2, t3, t4, rfl, hm1, e1⟩, rfl⟩
    have hb1 : H1[H.length]? = some (.row (ccells m s1 s2 s3 s4) 1 true) := e1.get getA
    have x1 : Ext H H1 := Ext.trans extA e1
    clear e1
    refine OpsJ.normA ?_
    repeat' (first
      | (refine is_ucall ?_; first
        | refine st_callP (h := awake_spec _ _ _) (k := ?_)
        | refine st_callP (h := ThinZ_spec _ _ _ m s1 s2 s3 s4 (hm.ext extA)) (k := ?_)
        | fail)
      | (refine is_umcall ?_; first
        | refine mj_callP (h := awake_spec _ _ _) (k := ?_)
        | refine mj_callP (h := ThinZ_spec _ _ _ m s1 s2 s3 s4 (hm.ext extA)) (k := ?_)
        | fail)
      | ((fail_if_success (first | refine is_ucall ?_ | refine is_umcall ?_)); first | refine W1 ?_ | refine Wc ?_ | refine W2c ?_ ?_ | refine Wg ?_ | refine W2 ?_ ?_ | exact Wdead | refine Wlive (fun hb => ?_) | intro _ _ _ _ _ _ _ _ | refine We ?_ | refine Wx ?_ | refine Wt ?_ | refine Wm ?_ | refine W2m ?_ ?_ | refine Wl ?_)
      | fail)
    refine st_callP (h := First_spec _ _ _ m t1 t2 t3 t4 (hm1.ext extA)) (k := ?_)
    clear hm1
    refine OpsJ.normA ?_
    repeat' (first
      | (refine is_ucall ?_; first
        | refine st_callP (h := awake_spec _ _ _) (k := ?_)
        | refine st_callP (h := ThinZ_spec _ _ _ m s1 s2 s3 s4 (hm.ext extA)) (k := ?_)
        | fail)
      | (refine is_umcall ?_; first
        | refine mj_callP (h := awake_spec _ _ _) (k := ?_)
        | refine mj_callP (h := ThinZ_spec _ _ _ m s1 s2 s3 s4 (hm.ext extA)) (k := ?_)
        | fail)
      | ((fail_if_success (first | refine is_ucall ?_ | refine is_umcall ?_)); first | refine W1 ?_ | refine Wc ?_ | refine W2c ?_ ?_ | refine Wg ?_ | refine W2 ?_ ?_ | exact Wdead | refine Wlive (fun hb => ?_) | intro _ _ _ _ _ _ _ _ | refine We ?_ | refine Wx ?_ | refine Wt ?_ | refine Wm ?_ | refine W2m ?_ ?_ | refine Wl ?_)
      | fail)
    refine st_call rfl (Copper_w E _ _ m s1 s2 s3 s4 ?_ (by omega) (by omega)) ?_
    · exact (hI.ext x1).y
    rintro _ H2 g2 ⟨⟨u1, u2, u3, u4, rfl, hm2, e2⟩, rfl⟩
    have hb2 := e2.get hb1
    have x2 : Ext H H2 := x1.trans e2
    clear e2 hb1 x1
    refine OpsJ.normA ?_
    repeat' (first
      | (refine is_ucall ?_; first
        | refine st_callP (h := awake_spec _ _ _) (k := ?_)
        | refine st_callP (h := ThinZ_spec _ _ _ m s1 s2 s3 s4 (hm.ext extA)) (k := ?_)
        | fail)
      | (refine is_umcall ?_; first
        | refine mj_callP (h := awake_spec _ _ _) (k := ?_)
        | refine mj_callP (h := ThinZ_spec _ _ _ m s1 s2 s3 s4 (hm.ext extA)) (k := ?_)
        | fail)
      | ((fail_if_success (first | refine is_ucall ?_ | refine is_umcall ?_)); first | refine W1 ?_ | refine Wc ?_ | refine W2c ?_ ?_ | refine Wg ?_ | refine W2 ?_ ?_ | exact Wdead | refine Wlive (fun hb => ?_) | intro _ _ _ _ _ _ _ _ | refine We ?_ | refine Wx ?_ | refine Wt ?_ | refine Wm ?_ | refine W2m ?_ ?_ | refine Wl ?_)
      | fail)
    by_cases hz : checkS m = 0
    case neg =>
      have hE : firstE m = checkS m := by unfold firstE; rw [if_neg hz]
      have hV : firstV m = 0 := by unfold firstV; rw [if_neg hz]
      rw [hE, hV]
      have hL : CallJ Try.prog E 48 [cv m u1 u2 u3 u4] (fun v H' g' => v = .tuple #[.slice none 0 0, .int .i64 (checkS m)] ∧ H' = H2 ∧ g' = g2) H2 g2 := (Leave_own E g2 H2 m u1 u2 u3 u4 hm2).mono (by
        rintro v H' g' ⟨h, rfl⟩
        unfold LeaveO at h
        rw [if_neg hz] at h
        exact ⟨h.1, h.2, rfl⟩)
      refine st_callP (h := hL) (k := ?_)
      clear hL hm2
      refine OpsJ.normA ?_
      repeat' (first
        | (refine is_ucall ?_; first
          | refine st_callP (h := awake_spec _ _ _) (k := ?_)
          | refine st_callP (h := ThinZ_spec _ _ _ m s1 s2 s3 s4 (hm.ext extA)) (k := ?_)
          | fail)
        | (refine is_umcall ?_; first
          | refine mj_callP (h := awake_spec _ _ _) (k := ?_)
          | refine mj_callP (h := ThinZ_spec _ _ _ m s1 s2 s3 s4 (hm.ext extA)) (k := ?_)
          | fail)
        | ((fail_if_success (first | refine is_ucall ?_ | refine is_umcall ?_)); first | refine W1 ?_ | refine Wc ?_ | refine W2c ?_ ?_ | refine Wg ?_ | refine W2 ?_ ?_ | exact Wdead | refine Wlive (fun hb => ?_) | intro _ _ _ _ _ _ _ _ | refine We ?_ | refine Wx ?_ | refine Wt ?_ | refine Wm ?_ | refine W2m ?_ ?_ | refine Wl ?_)
        | fail)
      refine st_callP (h := fault_spec _ _ _ m s1 s2 s3 s4 (hI.ext x2).y) (k := ?_)
      refine OpsJ.normA ?_
      repeat' (first
        | (refine is_ucall ?_; first
          | refine st_callP (h := awake_spec _ _ _) (k := ?_)
          | refine st_callP (h := ThinZ_spec _ _ _ m s1 s2 s3 s4 (hm.ext extA)) (k := ?_)
          | fail)
        | (refine is_umcall ?_; first
          | refine mj_callP (h := awake_spec _ _ _) (k := ?_)
          | refine mj_callP (h := ThinZ_spec _ _ _ m s1 s2 s3 s4 (hm.ext extA)) (k := ?_)
          | fail)
        | ((fail_if_success (first | refine is_ucall ?_ | refine is_umcall ?_)); first | refine W1 ?_ | refine Wc ?_ | refine W2c ?_ ?_ | refine Wg ?_ | refine W2 ?_ ?_ | exact Wdead | refine Wlive (fun hb => ?_) | intro _ _ _ _ _ _ _ _ | refine We ?_ | refine Wx ?_ | refine Wt ?_ | refine Wm ?_ | refine W2m ?_ ?_ | refine Wl ?_)
        | fail)
      all_goals first | exact ⟨rfl, rfl, rfl⟩ | exact absurd trivial (by assumption)
    case pos =>
      have hG := good_of hz
      have hN := hG.nr
      have hE : firstE m = if (firstA m).isSome then 0 else 7 := by unfold firstE; rw [if_pos hz]
      have hV : firstV m = (((firstA m).getD 0 : Nat) : Int) := by unfold firstV; rw [if_pos hz]
      have hll : (leaveS m).length ≤ 1000000 := by
        obtain ⟨_, ⟨s, hs, hss⟩, _⟩ := leave_least hG
        have := hss.length_le
        rw [hs, List.length_map]; simp at this; omega
      rw [hE, hV]
      refine st_call rfl (LeaveQ_spec E _ _ m u1 u2 u3 u4 hz hm2) ?_
      rintro _ H3 g3 ⟨⟨qv, rfl, hq, e3⟩, rfl⟩
      have x3 := x2.trans e3
      have hb3 := e3.get hb2
      clear e3 x2 hb2 hm2
      have hF := fault_spec E g3 H3 m s1 s2 s3 s4 (hI.ext x3).y
      rw [hz] at hF
      refine OpsJ.normA ?_
      repeat' (first
        | (refine is_ucall ?_; first
          | refine st_callP (h := awake_spec _ _ _) (k := ?_)
          | refine st_callP (h := ThinZ_spec _ _ _ m s1 s2 s3 s4 (hm.ext extA)) (k := ?_)
          | fail)
        | (refine is_umcall ?_; first
          | refine mj_callP (h := awake_spec _ _ _) (k := ?_)
          | refine mj_callP (h := ThinZ_spec _ _ _ m s1 s2 s3 s4 (hm.ext extA)) (k := ?_)
          | fail)
        | ((fail_if_success (first | refine is_ucall ?_ | refine is_umcall ?_)); first | refine W1 ?_ | refine Wc ?_ | refine W2c ?_ ?_ | refine Wg ?_ | refine W2 ?_ ?_ | exact Wdead | refine Wlive (fun hb => ?_) | intro _ _ _ _ _ _ _ _ | refine We ?_ | refine Wx ?_ | refine Wt ?_ | refine Wm ?_ | refine W2m ?_ ?_ | refine Wl ?_)
        | fail)
      refine st_callP (h := hF) (k := ?_)
      refine OpsJ.normA ?_
      repeat' (first
        | (refine is_ucall ?_; first
          | refine st_callP (h := awake_spec _ _ _) (k := ?_)
          | refine st_callP (h := ThinZ_spec _ _ _ m s1 s2 s3 s4 (hm.ext extA)) (k := ?_)
          | fail)
        | (refine is_umcall ?_; first
          | refine mj_callP (h := awake_spec _ _ _) (k := ?_)
          | refine mj_callP (h := ThinZ_spec _ _ _ m s1 s2 s3 s4 (hm.ext extA)) (k := ?_)
          | fail)
        | ((fail_if_success (first | refine is_ucall ?_ | refine is_umcall ?_)); first | refine W1 ?_ | refine Wc ?_ | refine W2c ?_ ?_ | refine Wg ?_ | refine W2 ?_ ?_ | exact Wdead | refine Wlive (fun hb => ?_) | intro _ _ _ _ _ _ _ _ | refine We ?_ | refine Wx ?_ | refine Wt ?_ | refine Wm ?_ | refine W2m ?_ ?_ | refine Wl ?_)
        | fail)
      refine st_call rfl (AllR E _ _ m s1 s2 s3 s4 (hI.ext x3).y hG) ?_
      rintro av H4 g4 ⟨⟨ha, e4⟩, rfl⟩
      have x4 := x3.trans e4
      have hb4 := e4.get hb3
      replace hq := hq.ext e4
      clear e4 x3 hb3 hF
      refine OpsJ.normA ?_
      repeat' (first
        | (refine is_ucall ?_; first
          | refine st_callP (h := awake_spec _ _ _) (k := ?_)
          | refine st_callP (h := ThinZ_spec _ _ _ m s1 s2 s3 s4 (hm.ext extA)) (k := ?_)
          | fail)
        | (refine is_umcall ?_; first
          | refine mj_callP (h := awake_spec _ _ _) (k := ?_)
          | refine mj_callP (h := ThinZ_spec _ _ _ m s1 s2 s3 s4 (hm.ext extA)) (k := ?_)
          | fail)
        | ((fail_if_success (first | refine is_ucall ?_ | refine is_umcall ?_)); first | refine W1 ?_ | refine Wc ?_ | refine W2c ?_ ?_ | refine Wg ?_ | refine W2 ?_ ?_ | exact Wdead | refine Wlive (fun hb => ?_) | intro _ _ _ _ _ _ _ _ | refine We ?_ | refine Wx ?_ | refine Wt ?_ | refine Wm ?_ | refine W2m ?_ ?_ | refine Wl ?_)
        | fail)
      refine st_call rfl (LeaveR_spec E _ _ m s1 s2 s3 s4 av (hI.ext x4).y hG ha) ?_
      rintro rv H5 g5 ⟨⟨hrv, e5⟩, rfl⟩
      have x5 := x4.trans e5
      have hb5 := e5.get hb4
      replace hq := hq.ext e5
      replace ha := ha.ext e5
      clear e5 x4 hb4
      refine OpsJ.normA ?_
      repeat' (first
        | (refine is_ucall ?_; first
          | refine st_callP (h := awake_spec _ _ _) (k := ?_)
          | refine st_callP (h := ThinZ_spec _ _ _ m s1 s2 s3 s4 (hm.ext extA)) (k := ?_)
          | fail)
        | (refine is_umcall ?_; first
          | refine mj_callP (h := awake_spec _ _ _) (k := ?_)
          | refine mj_callP (h := ThinZ_spec _ _ _ m s1 s2 s3 s4 (hm.ext extA)) (k := ?_)
          | fail)
        | ((fail_if_success (first | refine is_ucall ?_ | refine is_umcall ?_)); first | refine W1 ?_ | refine Wc ?_ | refine W2c ?_ ?_ | refine Wg ?_ | refine W2 ?_ ?_ | exact Wdead | refine Wlive (fun hb => ?_) | intro _ _ _ _ _ _ _ _ | refine We ?_ | refine Wx ?_ | refine Wt ?_ | refine Wm ?_ | refine W2m ?_ ?_ | refine Wl ?_)
        | fail)
      refine st_callP (h := same_spec _ _ _ qv rv _ _ hq hrv hll hll) (k := ?_)
      rw [decide_eq_true rfl]
      refine OpsJ.normA ?_
      repeat' (first
        | (refine is_ucall ?_; first
          | refine st_callP (h := awake_spec _ _ _) (k := ?_)
          | refine st_callP (h := ThinZ_spec _ _ _ m s1 s2 s3 s4 (hm.ext extA)) (k := ?_)
          | fail)
        | (refine is_umcall ?_; first
          | refine mj_callP (h := awake_spec _ _ _) (k := ?_)
          | refine mj_callP (h := ThinZ_spec _ _ _ m s1 s2 s3 s4 (hm.ext extA)) (k := ?_)
          | fail)
        | ((fail_if_success (first | refine is_ucall ?_ | refine is_umcall ?_)); first | refine W1 ?_ | refine Wc ?_ | refine W2c ?_ ?_ | refine Wg ?_ | refine W2 ?_ ?_ | exact Wdead | refine Wlive (fun hb => ?_) | intro _ _ _ _ _ _ _ _ | refine We ?_ | refine Wx ?_ | refine Wt ?_ | refine Wm ?_ | refine W2m ?_ ?_ | refine Wl ?_)
        | fail)
      refine st_callP (h := FirstR_spec _ _ _ m s1 s2 s3 s4 av (hI.ext x5).y hG ha) (k := ?_)
      cases hf : firstA m with
      | none =>
        refine OpsJ.normA ?_
        repeat' (first
          | (refine is_ucall ?_; first
            | refine st_callP (h := awake_spec _ _ _) (k := ?_)
            | refine st_callP (h := ThinZ_spec _ _ _ m s1 s2 s3 s4 (hm.ext extA)) (k := ?_)
            | fail)
          | (refine is_umcall ?_; first
            | refine mj_callP (h := awake_spec _ _ _) (k := ?_)
            | refine mj_callP (h := ThinZ_spec _ _ _ m s1 s2 s3 s4 (hm.ext extA)) (k := ?_)
            | fail)
          | ((fail_if_success (first | refine is_ucall ?_ | refine is_umcall ?_)); first | refine W1 ?_ | refine Wc ?_ | refine W2c ?_ ?_ | refine Wg ?_ | refine W2 ?_ ?_ | exact Wdead | refine Wlive (fun hb => ?_) | intro _ _ _ _ _ _ _ _ | refine We ?_ | refine Wx ?_ | refine Wt ?_ | refine Wm ?_ | refine W2m ?_ ?_ | refine Wl ?_)
          | fail)
        all_goals first | exact ⟨rfl, rfl, rfl⟩ | exact absurd trivial (by assumption) | exact absurd rfl (by assumption)
      | some j =>
        have hj := (first_some hG hf).1
        refine OpsJ.normA ?_
        repeat' (first
          | (refine is_ucall ?_; first
            | refine st_callP (h := awake_spec _ _ _) (k := ?_)
            | refine st_callP (h := ThinZ_spec _ _ _ m s1 s2 s3 s4 (hm.ext extA)) (k := ?_)
            | fail)
          | (refine is_umcall ?_; first
            | refine mj_callP (h := awake_spec _ _ _) (k := ?_)
            | refine mj_callP (h := ThinZ_spec _ _ _ m s1 s2 s3 s4 (hm.ext extA)) (k := ?_)
            | fail)
          | ((fail_if_success (first | refine is_ucall ?_ | refine is_umcall ?_)); first | refine W1 ?_ | refine Wc ?_ | refine W2c ?_ ?_ | refine Wg ?_ | refine W2 ?_ ?_ | exact Wdead | refine Wlive (fun hb => ?_) | intro _ _ _ _ _ _ _ _ | refine We ?_ | refine Wx ?_ | refine Wt ?_ | refine Wm ?_ | refine W2m ?_ ?_ | refine Wl ?_)
          | fail)
        all_goals first | exact ⟨rfl, rfl, rfl⟩ | exact absurd trivial (by assumption) | exact absurd rfl (by assumption)
end
end Go.Proofs.Ytjbiidlmpaibkaa
