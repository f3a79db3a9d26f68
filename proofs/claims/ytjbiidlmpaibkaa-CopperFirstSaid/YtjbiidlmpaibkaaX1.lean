import Derived.Test.YtjbiidlmpaibkaaV6
namespace Go.Proofs.Ytjbiidlmpaibkaa
open Go Go.Abs Go.Proofs
set_option maxHeartbeats 4000000
set_option maxRecDepth 20000
attribute [local irreducible] CallJ OpsJ WPJ CallV MonoJ SpecJ

section
variable {γ : Type} (E : Env γ) (g : γ) (H : AHeap)
theorem first_law (m : CopM) (s1 s2 s3 s4 : Value) (hm : CopZ H m s1 s2 s3 s4) : CallJ Try.prog E 17 [cv m s1 s2 s3 s4] (fun v H' g' => v = .bool true ∧ H' = H ∧ g' = g) H g := by
  have hok := hm.cells
  refine CallJ.tidy ?_
  unfold cv
  refine CallJ.enter Try.func17 rfl (by simp only [Try.ntmps17, List.length_cons, List.length_nil, Nat.zero_add, Nat.reduceSub, List.replicate_succ, List.replicate_zero, List.cons_append, List.nil_append]; rfl) ?_
  repeat' (first
    | (refine is_ucall ?_; first
      | refine st_callP (h := readyZ_spec _ _ _ m s1 s2 s3 s4 (hm.ext extA)) (k := ?_)
      | refine st_callP (h := awake_spec _ _ _) (k := ?_)
      | refine st_callP (h := In_spec _ _ _ _ _ _) (k := ?_)
      | fail)
    | (refine is_umcall ?_; first
      | refine mj_callP (h := readyZ_spec _ _ _ m s1 s2 s3 s4 (hm.ext extA)) (k := ?_)
      | refine mj_callP (h := awake_spec _ _ _) (k := ?_)
      | refine mj_callP (h := In_spec _ _ _ _ _ _) (k := ?_)
      | fail)
    | ((fail_if_success (first | refine is_ucall ?_ | refine is_umcall ?_)); first | refine W1 ?_ | refine Wc ?_ | refine W2c ?_ ?_ | refine Wg ?_ | refine W2 ?_ ?_ | exact Wdead | refine Wlive (fun hb => ?_) | intro _ _ _ _ _ _ _ _ | refine We ?_ | refine Wx ?_ | refine Wt ?_ | refine Wm ?_ | refine W2m ?_ ?_ | refine Wl ?_)
    | fail)
  · exact ⟨rfl, rfl, rfl⟩
  · have hr : thinS m = true ∧ checkS m = 0 := by assumption
    have hI := hm.is hr.1
    have hr4 := hI.reads
    have hG := good_of hr.2
    have hN := hG.nr
    obtain ⟨hn5, hnl⟩ := hrs_le hG.w
    have hll := hG.ll
    refine st_call rfl (Copper_w E _ _ m s1 s2 s3 s4 ?_ (by omega) (by omega)) ?_
    · exact (hI.ext extA).y
    rintro _ H1 g1 ⟨⟨t1, t2, t3, t4, rfl, hm1, e1⟩, rfl⟩
    have hbx : H1[H.length]? = some (.row (ccells m s1 s2 s3 s4) 1 true) := e1.get getA
    have x1 : Ext H H1 := Ext.trans extA e1
    clear e1
    refine OpsJ.normA ?_
    repeat' (first
      | (refine is_ucall ?_; first
        | refine st_callP (h := readyZ_spec _ _ _ m s1 s2 s3 s4 (hm.ext extA)) (k := ?_)
        | refine st_callP (h := awake_spec _ _ _) (k := ?_)
        | refine st_callP (h := In_spec _ _ _ _ _ _) (k := ?_)
        | fail)
      | (refine is_umcall ?_; first
        | refine mj_callP (h := readyZ_spec _ _ _ m s1 s2 s3 s4 (hm.ext extA)) (k := ?_)
        | refine mj_callP (h := awake_spec _ _ _) (k := ?_)
        | refine mj_callP (h := In_spec _ _ _ _ _ _) (k := ?_)
        | fail)
      | ((fail_if_success (first | refine is_ucall ?_ | refine is_umcall ?_)); first | refine W1 ?_ | refine Wc ?_ | refine W2c ?_ ?_ | refine Wg ?_ | refine W2 ?_ ?_ | exact Wdead | refine Wlive (fun hb => ?_) | intro _ _ _ _ _ _ _ _ | refine We ?_ | refine Wx ?_ | refine Wt ?_ | refine Wm ?_ | refine W2m ?_ ?_ | refine Wl ?_)
      | fail)
    cases hF : firstA m with
    | none =>
      have hT : checkT m = 0 := by rw [checkT_good hG, first_none hG hF]; rfl
      refine st_callP (h := FirstN_spec E _ _ m t1 t2 t3 t4 hr.2 hF (hm1.ext extA)) (k := ?_)
      refine OpsJ.normA ?_
      repeat' (first
        | (refine is_ucall ?_; first
          | refine st_callP (h := readyZ_spec _ _ _ m s1 s2 s3 s4 (hm.ext extA)) (k := ?_)
          | refine st_callP (h := awake_spec _ _ _) (k := ?_)
          | refine st_callP (h := In_spec _ _ _ _ _ _) (k := ?_)
          | fail)
        | (refine is_umcall ?_; first
          | refine mj_callP (h := readyZ_spec _ _ _ m s1 s2 s3 s4 (hm.ext extA)) (k := ?_)
          | refine mj_callP (h := awake_spec _ _ _) (k := ?_)
          | refine mj_callP (h := In_spec _ _ _ _ _ _) (k := ?_)
          | fail)
        | ((fail_if_success (first | refine is_ucall ?_ | refine is_umcall ?_)); first | refine W1 ?_ | refine Wc ?_ | refine W2c ?_ ?_ | refine Wg ?_ | refine W2 ?_ ?_ | exact Wdead | refine Wlive (fun hb => ?_) | intro _ _ _ _ _ _ _ _ | refine We ?_ | refine Wx ?_ | refine Wt ?_ | refine Wm ?_ | refine W2m ?_ ?_ | refine Wl ?_)
        | fail)
      refine st_call rfl (Copper_w E _ _ m s1 s2 s3 s4 ?_ (by omega) (by omega)) ?_
      · exact (hI.ext extA).y
      rintro _ H2 g2 ⟨⟨u1, u2, u3, u4, rfl, hm2, e1⟩, rfl⟩
      refine OpsJ.normA ?_
      repeat' (first
        | (refine is_ucall ?_; first
          | refine st_callP (h := readyZ_spec _ _ _ m s1 s2 s3 s4 (hm.ext extA)) (k := ?_)
          | refine st_callP (h := awake_spec _ _ _) (k := ?_)
          | refine st_callP (h := In_spec _ _ _ _ _ _) (k := ?_)
          | fail)
        | (refine is_umcall ?_; first
          | refine mj_callP (h := readyZ_spec _ _ _ m s1 s2 s3 s4 (hm.ext extA)) (k := ?_)
          | refine mj_callP (h := awake_spec _ _ _) (k := ?_)
          | refine mj_callP (h := In_spec _ _ _ _ _ _) (k := ?_)
          | fail)
        | ((fail_if_success (first | refine is_ucall ?_ | refine is_umcall ?_)); first | refine W1 ?_ | refine Wc ?_ | refine W2c ?_ ?_ | refine Wg ?_ | refine W2 ?_ ?_ | exact Wdead | refine Wlive (fun hb => ?_) | intro _ _ _ _ _ _ _ _ | refine We ?_ | refine Wx ?_ | refine Wt ?_ | refine Wm ?_ | refine W2m ?_ ?_ | refine Wl ?_)
        | fail)
      refine st_call rfl (KeepsE_spec E _ _ m u1 u2 u3 u4 0 hT (hm2.ext extA)) ?_
      rintro _ H3 g3 ⟨⟨sv, rfl, e2⟩, rfl⟩
      have x3 : Ext H H3 := Ext.trans (Ext.trans (Ext.trans x1 extA) e1) e2
      refine OpsJ.normA ?_
      repeat' (first
        | (refine is_ucall ?_; first
          | refine st_callP (h := readyZ_spec _ _ _ m s1 s2 s3 s4 (hm.ext extA)) (k := ?_)
          | refine st_callP (h := awake_spec _ _ _) (k := ?_)
          | refine st_callP (h := In_spec _ _ _ _ _ _) (k := ?_)
          | fail)
        | (refine is_umcall ?_; first
          | refine mj_callP (h := readyZ_spec _ _ _ m s1 s2 s3 s4 (hm.ext extA)) (k := ?_)
          | refine mj_callP (h := awake_spec _ _ _) (k := ?_)
          | refine mj_callP (h := In_spec _ _ _ _ _ _) (k := ?_)
          | fail)
        | ((fail_if_success (first | refine is_ucall ?_ | refine is_umcall ?_)); first | refine W1 ?_ | refine Wc ?_ | refine W2c ?_ ?_ | refine Wg ?_ | refine W2 ?_ ?_ | exact Wdead | refine Wlive (fun hb => ?_) | intro _ _ _ _ _ _ _ _ | refine We ?_ | refine Wx ?_ | refine Wt ?_ | refine Wm ?_ | refine W2m ?_ ?_ | refine Wl ?_)
        | fail)
      exact ⟨rfl, rfl, rfl⟩
    | some j =>
      obtain ⟨hjl, hF1, hF2⟩ := first_some hG hF
      refine st_callP (h := FirstS_spec E _ _ m t1 t2 t3 t4 j hr.2 hF (hm1.ext extA)) (k := ?_)
      have hin : inR 0 ((m.reads.length : Int) - 1) (j : Int) = true := by unfold inR; simp; omega
      have hTj : checkT (upto m j) = 0 := by rw [checkT_good (upto_good hG j), hF2]; rfl
      have hTk : checkT (upto m (j + 1)) = 11 := by rw [checkT_good (upto_good hG (j + 1)), hF1]; rfl
      have hpow : 2 ^ j ≤ 2 ^ 10 := Nat.pow_le_pow_right (by decide) (by omega)
      obtain ⟨p, hp⟩ : ∃ p, p = 2 ^ j := ⟨_, rfl⟩
      have hp1 : 1 ≤ p ∧ p ≤ 1024 := by rw [hp]; exact ⟨Nat.two_pow_pos j, hpow⟩
      obtain ⟨q, hq⟩ : ∃ q, q = 2 ^ (j + 1) := ⟨_, rfl⟩
      have hq1 : 1 ≤ q ∧ q ≤ 2048 := by rw [hq, Nat.pow_succ, ← hp]; omega
      have ep := shl_eq (a := 1) (j := j) hp (by rw [Nat.one_mul]) (by omega) (by omega)
      have eq := shl_eq (a := 2) (j := j) hq (by rw [Nat.pow_succ, Nat.mul_comm]) (by omega) (by omega)
      have ms1 : subM m (p - 1) = upto m j := by rw [hp]; exact subM_mask m j
      have ms2 : subM m (q - 1) = upto m (j + 1) := by rw [hq]; exact subM_mask m (j + 1)
      clear hpow
      refine OpsJ.normA ?_
      repeat' (first
        | (refine is_ucall ?_; first
          | refine st_callP (h := readyZ_spec _ _ _ m s1 s2 s3 s4 (hm.ext extA)) (k := ?_)
          | refine st_callP (h := awake_spec _ _ _) (k := ?_)
          | refine st_callP (h := In_spec _ _ _ _ _ _) (k := ?_)
          | fail)
        | (refine is_umcall ?_; first
          | refine mj_callP (h := readyZ_spec _ _ _ m s1 s2 s3 s4 (hm.ext extA)) (k := ?_)
          | refine mj_callP (h := awake_spec _ _ _) (k := ?_)
          | refine mj_callP (h := In_spec _ _ _ _ _ _) (k := ?_)
          | fail)
        | ((fail_if_success (first | refine is_ucall ?_ | refine is_umcall ?_)); first | refine W1 ?_ | refine Wc ?_ | refine W2c ?_ ?_ | refine Wg ?_ | refine W2 ?_ ?_ | exact Wdead | refine Wlive (fun hb => ?_) | intro _ _ _ _ _ _ _ _ | refine We ?_ | refine Wx ?_ | refine Wt ?_ | refine Wm ?_ | refine W2m ?_ ?_ | refine Wl ?_)
        | fail)
      · rw [hin] at hb; cases hb
      rw [wrap_u64 (n := (j : Int)) (by omega) (by omega)]
      refine OpsJ.normA ?_
      refine st_shl rfl rfl (by omega) ?_
      have ep' : IntKind.i64.wrap (1 * 2 ^ (min ((j : Int)).toNat IntKind.i64.bits)) = (p : Int) := ep
      rw [ep']
      refine OpsJ.normA ?_
      repeat' (first
        | (refine is_ucall ?_; first
          | refine st_callP (h := readyZ_spec _ _ _ m s1 s2 s3 s4 (hm.ext extA)) (k := ?_)
          | refine st_callP (h := awake_spec _ _ _) (k := ?_)
          | refine st_callP (h := In_spec _ _ _ _ _ _) (k := ?_)
          | fail)
        | (refine is_umcall ?_; first
          | refine mj_callP (h := readyZ_spec _ _ _ m s1 s2 s3 s4 (hm.ext extA)) (k := ?_)
          | refine mj_callP (h := awake_spec _ _ _) (k := ?_)
          | refine mj_callP (h := In_spec _ _ _ _ _ _) (k := ?_)
          | fail)
        | ((fail_if_success (first | refine is_ucall ?_ | refine is_umcall ?_)); first | refine W1 ?_ | refine Wc ?_ | refine W2c ?_ ?_ | refine Wg ?_ | refine W2 ?_ ?_ | exact Wdead | refine Wlive (fun hb => ?_) | intro _ _ _ _ _ _ _ _ | refine We ?_ | refine Wx ?_ | refine Wt ?_ | refine Wm ?_ | refine W2m ?_ ?_ | refine Wl ?_)
        | fail)
      refine st_call rfl (someZ E _ _ m s1 s2 s3 s4 _ (p - 1) (by omega) ?_ (by omega)) ?_
      · exact hI.ext (x1.trans extA)
      rw [ms1]
      rintro _ H2 g2 ⟨⟨w1, w2, w3, w4, rfl, hm2, e2⟩, rfl⟩
      refine OpsJ.normA ?_
      repeat' (first
        | (refine is_ucall ?_; first
          | refine st_callP (h := readyZ_spec _ _ _ m s1 s2 s3 s4 (hm.ext extA)) (k := ?_)
          | refine st_callP (h := awake_spec _ _ _) (k := ?_)
          | refine st_callP (h := In_spec _ _ _ _ _ _) (k := ?_)
          | fail)
        | (refine is_umcall ?_; first
          | refine mj_callP (h := readyZ_spec _ _ _ m s1 s2 s3 s4 (hm.ext extA)) (k := ?_)
          | refine mj_callP (h := awake_spec _ _ _) (k := ?_)
          | refine mj_callP (h := In_spec _ _ _ _ _ _) (k := ?_)
          | fail)
        | ((fail_if_success (first | refine is_ucall ?_ | refine is_umcall ?_)); first | refine W1 ?_ | refine Wc ?_ | refine W2c ?_ ?_ | refine Wg ?_ | refine W2 ?_ ?_ | exact Wdead | refine Wlive (fun hb => ?_) | intro _ _ _ _ _ _ _ _ | refine We ?_ | refine Wx ?_ | refine Wt ?_ | refine Wm ?_ | refine W2m ?_ ?_ | refine Wl ?_)
        | fail)
      refine st_call rfl (Copper_w E _ _ (upto m j) w1 w2 w3 w4 ?_ (by show m.loss.length ≤ 1000; omega) (by simp [upto]; omega)) ?_
      · exact (hm2.ext extA).y
      rintro _ H3 g3 ⟨⟨v1, v2, v3, v4, rfl, hm3, e3⟩, rfl⟩
      refine OpsJ.normA ?_
      repeat' (first
        | (refine is_ucall ?_; first
          | refine st_callP (h := readyZ_spec _ _ _ m s1 s2 s3 s4 (hm.ext extA)) (k := ?_)
          | refine st_callP (h := awake_spec _ _ _) (k := ?_)
          | refine st_callP (h := In_spec _ _ _ _ _ _) (k := ?_)
          | fail)
        | (refine is_umcall ?_; first
          | refine mj_callP (h := readyZ_spec _ _ _ m s1 s2 s3 s4 (hm.ext extA)) (k := ?_)
          | refine mj_callP (h := awake_spec _ _ _) (k := ?_)
          | refine mj_callP (h := In_spec _ _ _ _ _ _) (k := ?_)
          | fail)
        | ((fail_if_success (first | refine is_ucall ?_ | refine is_umcall ?_)); first | refine W1 ?_ | refine Wc ?_ | refine W2c ?_ ?_ | refine Wg ?_ | refine W2 ?_ ?_ | exact Wdead | refine Wlive (fun hb => ?_) | intro _ _ _ _ _ _ _ _ | refine We ?_ | refine Wx ?_ | refine Wt ?_ | refine Wm ?_ | refine W2m ?_ ?_ | refine Wl ?_)
        | fail)
      refine st_call rfl (KeepsE_spec E _ _ (upto m j) v1 v2 v3 v4 0 hTj (hm3.ext extA)) ?_
      rintro _ H4 g4 ⟨⟨sv, rfl, e4⟩, rfl⟩
      have x4 : Ext H1 H4 := Ext.trans (Ext.trans (Ext.trans extA e2) e3) e4
      replace hbx := x4.get hbx
      replace x4 := x1.trans x4
      clear e2 e3 e4 hm1 hm2 hm3 x1
      refine OpsJ.normA ?_
      repeat' (first
        | (refine is_ucall ?_; first
          | refine st_callP (h := readyZ_spec _ _ _ m s1 s2 s3 s4 (hm.ext extA)) (k := ?_)
          | refine st_callP (h := awake_spec _ _ _) (k := ?_)
          | refine st_callP (h := In_spec _ _ _ _ _ _) (k := ?_)
          | fail)
        | (refine is_umcall ?_; first
          | refine mj_callP (h := readyZ_spec _ _ _ m s1 s2 s3 s4 (hm.ext extA)) (k := ?_)
          | refine mj_callP (h := awake_spec _ _ _) (k := ?_)
          | refine mj_callP (h := In_spec _ _ _ _ _ _) (k := ?_)
          | fail)
        | ((fail_if_success (first | refine is_ucall ?_ | refine is_umcall ?_)); first | refine W1 ?_ | refine Wc ?_ | refine W2c ?_ ?_ | refine Wg ?_ | refine W2 ?_ ?_ | exact Wdead | refine Wlive (fun hb => ?_) | intro _ _ _ _ _ _ _ _ | refine We ?_ | refine Wx ?_ | refine Wt ?_ | refine Wm ?_ | refine W2m ?_ ?_ | refine Wl ?_)
        | fail)
      rw [wrap_u64 (n := (j : Int)) (by omega) (by omega)]
      refine OpsJ.normA ?_
      refine st_shl rfl rfl (by omega) ?_
      have eq' : IntKind.i64.wrap (2 * 2 ^ (min ((j : Int)).toNat IntKind.i64.bits)) = (q : Int) := eq
      rw [eq']
      refine OpsJ.normA ?_
      repeat' (first
        | (refine is_ucall ?_; first
          | refine st_callP (h := readyZ_spec _ _ _ m s1 s2 s3 s4 (hm.ext extA)) (k := ?_)
          | refine st_callP (h := awake_spec _ _ _) (k := ?_)
          | refine st_callP (h := In_spec _ _ _ _ _ _) (k := ?_)
          | fail)
        | (refine is_umcall ?_; first
          | refine mj_callP (h := readyZ_spec _ _ _ m s1 s2 s3 s4 (hm.ext extA)) (k := ?_)
          | refine mj_callP (h := awake_spec _ _ _) (k := ?_)
          | refine mj_callP (h := In_spec _ _ _ _ _ _) (k := ?_)
          | fail)
        | ((fail_if_success (first | refine is_ucall ?_ | refine is_umcall ?_)); first | refine W1 ?_ | refine Wc ?_ | refine W2c ?_ ?_ | refine Wg ?_ | refine W2 ?_ ?_ | exact Wdead | refine Wlive (fun hb => ?_) | intro _ _ _ _ _ _ _ _ | refine We ?_ | refine Wx ?_ | refine Wt ?_ | refine Wm ?_ | refine W2m ?_ ?_ | refine Wl ?_)
        | fail)
      refine st_call rfl (someZ E _ _ m s1 s2 s3 s4 _ (q - 1) (by omega) ?_ (by omega)) ?_
      · exact hI.ext (x4.trans extA)
      rw [ms2]
      rintro _ H5 g5 ⟨⟨w1, w2, w3, w4, rfl, hm2, e2⟩, rfl⟩
      refine OpsJ.normA ?_
      repeat' (first
        | (refine is_ucall ?_; first
          | refine st_callP (h := readyZ_spec _ _ _ m s1 s2 s3 s4 (hm.ext extA)) (k := ?_)
          | refine st_callP (h := awake_spec _ _ _) (k := ?_)
          | refine st_callP (h := In_spec _ _ _ _ _ _) (k := ?_)
          | fail)
        | (refine is_umcall ?_; first
          | refine mj_callP (h := readyZ_spec _ _ _ m s1 s2 s3 s4 (hm.ext extA)) (k := ?_)
          | refine mj_callP (h := awake_spec _ _ _) (k := ?_)
          | refine mj_callP (h := In_spec _ _ _ _ _ _) (k := ?_)
          | fail)
        | ((fail_if_success (first | refine is_ucall ?_ | refine is_umcall ?_)); first | refine W1 ?_ | refine Wc ?_ | refine W2c ?_ ?_ | refine Wg ?_ | refine W2 ?_ ?_ | exact Wdead | refine Wlive (fun hb => ?_) | intro _ _ _ _ _ _ _ _ | refine We ?_ | refine Wx ?_ | refine Wt ?_ | refine Wm ?_ | refine W2m ?_ ?_ | refine Wl ?_)
        | fail)
      refine st_call rfl (Copper_w E _ _ (upto m (j + 1)) w1 w2 w3 w4 ?_ (by show m.loss.length ≤ 1000; omega) (by simp [upto]; omega)) ?_
      · exact (hm2.ext extA).y
      rintro _ H6 g6 ⟨⟨v1, v2, v3, v4, rfl, hm3, e3⟩, rfl⟩
      refine OpsJ.normA ?_
      repeat' (first
        | (refine is_ucall ?_; first
          | refine st_callP (h := readyZ_spec _ _ _ m s1 s2 s3 s4 (hm.ext extA)) (k := ?_)
          | refine st_callP (h := awake_spec _ _ _) (k := ?_)
          | refine st_callP (h := In_spec _ _ _ _ _ _) (k := ?_)
          | fail)
        | (refine is_umcall ?_; first
          | refine mj_callP (h := readyZ_spec _ _ _ m s1 s2 s3 s4 (hm.ext extA)) (k := ?_)
          | refine mj_callP (h := awake_spec _ _ _) (k := ?_)
          | refine mj_callP (h := In_spec _ _ _ _ _ _) (k := ?_)
          | fail)
        | ((fail_if_success (first | refine is_ucall ?_ | refine is_umcall ?_)); first | refine W1 ?_ | refine Wc ?_ | refine W2c ?_ ?_ | refine Wg ?_ | refine W2 ?_ ?_ | exact Wdead | refine Wlive (fun hb => ?_) | intro _ _ _ _ _ _ _ _ | refine We ?_ | refine Wx ?_ | refine Wt ?_ | refine Wm ?_ | refine W2m ?_ ?_ | refine Wl ?_)
        | fail)
      refine st_call rfl (KeepsE_spec E _ _ (upto m (j + 1)) v1 v2 v3 v4 11 hTk (hm3.ext extA)) ?_
      rintro _ H7 g7 ⟨⟨sv, rfl, e4⟩, rfl⟩
      have x7 : Ext H H7 := Ext.trans (Ext.trans (Ext.trans x4 e2) e3) e4
      refine OpsJ.normA ?_
      repeat' (first
        | (refine is_ucall ?_; first
          | refine st_callP (h := readyZ_spec _ _ _ m s1 s2 s3 s4 (hm.ext extA)) (k := ?_)
          | refine st_callP (h := awake_spec _ _ _) (k := ?_)
          | refine st_callP (h := In_spec _ _ _ _ _ _) (k := ?_)
          | fail)
        | (refine is_umcall ?_; first
          | refine mj_callP (h := readyZ_spec _ _ _ m s1 s2 s3 s4 (hm.ext extA)) (k := ?_)
          | refine mj_callP (h := awake_spec _ _ _) (k := ?_)
          | refine mj_callP (h := In_spec _ _ _ _ _ _) (k := ?_)
          | fail)
        | ((fail_if_success (first | refine is_ucall ?_ | refine is_umcall ?_)); first | refine W1 ?_ | refine Wc ?_ | refine W2c ?_ ?_ | refine Wg ?_ | refine W2 ?_ ?_ | exact Wdead | refine Wlive (fun hb => ?_) | intro _ _ _ _ _ _ _ _ | refine We ?_ | refine Wx ?_ | refine Wt ?_ | refine Wm ?_ | refine W2m ?_ ?_ | refine Wl ?_)
        | fail)
      exact ⟨rfl, rfl, rfl⟩
end
end Go.Proofs.Ytjbiidlmpaibkaa
