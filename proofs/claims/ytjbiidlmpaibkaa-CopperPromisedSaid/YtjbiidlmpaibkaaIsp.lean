import Derived.Test.YtjbiidlmpaibkaaIop
import Derived.Test.YtjbiidlmpaibkaaU6
namespace Go.Proofs.Ytjbiidlmpaibkaa
open Go Go.Abs Go.Proofs
set_option maxHeartbeats 4000000
set_option maxRecDepth 20000
attribute [local irreducible] CallJ OpsJ WPJ CallV MonoJ SpecJ
theorem kept_all {q : CopM} (hW : WOk q) (t : Int × List Int) : keptT q t = (List.range (hrs q)).all fun j => keepQ q j t := by
  have hn5 := (hrs_le hW).1
  unfold keptT areKeptS
  rw [Bool.eq_iff_iff, List.all_eq_true, List.all_eq_true]
  refine ⟨fun h j hj => ?_, fun h j hj => ?_⟩
  · have := h j hj
    have hj' := List.mem_range.1 hj
    rw [arr5_getD hj' (by omega)] at this
    exact this
  · have hj' := List.mem_range.1 hj
    rw [arr5_getD hj' (by omega)]
    exact h j hj
section
variable {γ : Type} (E : Env γ) (g : γ) (H : AHeap)
theorem Single_spec (m : CopM) (s1 s2 s3 s4 : Value) (hm : CopY H m s1 s2 s3 s4) (hW : WOk m) (k : Nat) (n : Int) (hk : k < hrs m) :
    CallJ Try.prog E 65 [cv m s1 s2 s3 s4, .int .i64 k, .int .i64 n] (fun v H' g' => v = .slice (some ⟨H.length, 0, none⟩) (hrs m) (hrs m) ∧ H' = H ++ [.row (encE (oneL (hrs m) k n)) 1 true] ∧ g' = g) H g := by
  have hok := hm.cells
  refine CallJ.tidy ?_
  unfold cv
  have hl0 := hW.l0
  have hl4 := hW.l4
  obtain ⟨hn5, hnl⟩ := hrs_le hW
  have hrl : (List.replicate (m.last + 1).toNat (Value.int .i64 (Int.ofNat 0))).length = hrs m := by simp [hrs]
  have hone : (List.replicate (m.last + 1).toNat (Value.int .i64 (Int.ofNat 0))).set k (.int .i64 n) = encE (oneL (hrs m) k n) := by
    unfold oneL encE
    rw [List.map_set, List.map_replicate]; rfl
  refine CallJ.enter Try.func65 rfl (by simp only [Try.ntmps65, List.length_cons, List.length_nil, Nat.zero_add, Nat.reduceAdd, Nat.reduceSub, List.replicate_succ, List.replicate_zero, List.cons_append, List.nil_append]; rfl) ?_
  repeat' (first
    | ((fail_if_success (first | refine is_ucall ?_ | refine is_umcall ?_)); first | refine W1 ?_ | refine Wc ?_ | refine W2c ?_ ?_ | refine Wg ?_ | refine W2 ?_ ?_ | exact Wdead | refine Wlive (fun hb => ?_) | intro _ _ _ _ _ _ _ _ | refine We ?_ | refine Wx ?_ | refine Wt ?_ | refine Wm ?_ | refine W2m ?_ ?_ | refine Wl ?_)
    | fail)
  rw [Nat.mul_one, hone]
  refine Tidy.two (i := H.length + 1) (cells := encE (oneL (hrs m) k n)) (es := 1) (v0 := .slice (some ⟨H.length, 0, none⟩) (m.last + 1).toNat (m.last + 1).toNat) extA getA (by omega) (encE_flat _) (.slice (j := 0) rfl) ⟨rfl, rfl, rfl⟩
end
end Go.Proofs.Ytjbiidlmpaibkaa
