import Derived.Test.YtjbiidlmpaibkaaIop
import Derived.Test.YtjbiidlmpaibkaaU6
namespace Go.Proofs.Ytjbiidlmpaibkaa
open Go Go.Abs Go.Proofs
set_option maxHeartbeats 8000000
set_option maxRecDepth 20000
attribute [local irreducible] CallJ OpsJ WPJ CallV MonoJ SpecJ
section
variable {γ : Type} (E : Env γ) (g : γ) (H : AHeap)
theorem sure_spec (m : CopM) (s1 s2 s3 s4 : Value) (hm : CopY H m s1 s2 s3 s4) :
    CallJ Try.prog E 32 [cv m s1 s2 s3 s4] (fun v H' g' => ((∃ lv, v = .tuple #[lv, .int .i64 (checkT m)] ∧ (checkT m = 0 → TrL H' lv (truR m (manyS m).toNat))) ∧ Ext H H') ∧ g' = g) H g := by
  have hok := hm.cells
  unfold cv
  refine CallJ.enter Try.func32 rfl (by simp only [Try.ntmps32, List.length_cons, List.length_nil, Nat.zero_add, Nat.reduceSub, List.replicate_succ, List.replicate_zero, List.cons_append, List.nil_append]; rfl) ?_
  repeat' (first
    | ((fail_if_success (first | refine is_ucall ?_ | refine is_umcall ?_)); first | refine W1 ?_ | refine Wc ?_ | refine W2c ?_ ?_ | refine Wg ?_ | refine W2 ?_ ?_ | exact Wdead | refine Wlive (fun hb => ?_) | intro _ _ _ _ _ _ _ _ | refine We ?_ | refine Wx ?_ | refine Wt ?_ | refine Wm ?_ | refine W2m ?_ ?_ | refine Wl ?_)
    | fail)
  refine st_callP (h := fault_spec _ _ _ m s1 s2 s3 s4 (hm.ext extA)) (k := ?_)
  by_cases hz : checkS m = 0
  case neg =>
    have hT : checkT m = checkS m := by unfold checkT; rw [if_neg hz]
    rw [hT]
    refine OpsJ.normA ?_
    repeat' (first
      | ((fail_if_success (first | refine is_ucall ?_ | refine is_umcall ?_)); first | refine W1 ?_ | refine Wc ?_ | refine W2c ?_ ?_ | refine Wg ?_ | refine W2 ?_ ?_ | exact Wdead | refine Wlive (fun hb => ?_) | intro _ _ _ _ _ _ _ _ | refine We ?_ | refine Wx ?_ | refine Wt ?_ | refine Wm ?_ | refine W2m ?_ ?_ | refine Wl ?_)
      | fail)
    exact ⟨⟨⟨_, rfl, fun h => absurd h hz⟩, extA⟩, rfl⟩
  case pos =>
    have hG := good_of hz
    have hM : (truR m (manyS m).toNat).length ≤ 3000 := by have := manyS_eq m; have := truR_len m (manyS m).toNat; omega
    have hN := truR_nil hG
    have hT : checkT m = if hasS m then 0 else 11 := by unfold checkT; rw [if_pos hz]
    rw [hz]
    refine OpsJ.normA ?_
    repeat' (first
      | ((fail_if_success (first | refine is_ucall ?_ | refine is_umcall ?_)); first | refine W1 ?_ | refine Wc ?_ | refine W2c ?_ ?_ | refine Wg ?_ | refine W2 ?_ ?_ | exact Wdead | refine Wlive (fun hb => ?_) | intro _ _ _ _ _ _ _ _ | refine We ?_ | refine Wx ?_ | refine Wt ?_ | refine Wm ?_ | refine W2m ?_ ?_ | refine Wl ?_)
      | fail)
    refine st_call rfl (Truths_spec E _ _ m s1 s2 s3 s4 (hm.ext extA) hG) ?_
    rintro lv H1 g1 ⟨⟨hl, e1⟩, rfl⟩
    have x1 : Ext H H1 := Ext.trans extA e1
    clear e1
    obtain ⟨tv, hr, htl, hrow⟩ := id hl
    generalize truR m (manyS m).toNat = ts at *
    refine OpsJ.normA ?_
    repeat' (first
      | ((fail_if_success (first | refine is_ucall ?_ | refine is_umcall ?_)); first | refine W1 ?_ | refine Wc ?_ | refine W2c ?_ ?_ | refine Wg ?_ | refine W2 ?_ ?_ | exact Wdead | refine Wlive (fun hb => ?_) | intro _ _ _ _ _ _ _ _ | refine We ?_ | refine Wx ?_ | refine Wt ?_ | refine Wm ?_ | refine W2m ?_ ?_ | refine Wl ?_)
      | fail)
    · have h0 : hasS m = false := by rw [hN, decide_eq_false_iff_not]; omega
      rw [hT, h0]
      exact ⟨⟨⟨_, rfl, fun h => absurd h (by decide)⟩, x1⟩, rfl⟩
    · have h0 : hasS m = true := by rw [hN, decide_eq_true_eq]; omega
      rw [hT, h0]
      exact ⟨⟨⟨_, rfl, fun _ => hl⟩, x1⟩, rfl⟩
end
end Go.Proofs.Ytjbiidlmpaibkaa
