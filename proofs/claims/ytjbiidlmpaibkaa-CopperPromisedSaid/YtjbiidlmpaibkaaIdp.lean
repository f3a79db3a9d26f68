import Derived.Test.YtjbiidlmpaibkaaIbp
namespace Go.Proofs.Ytjbiidlmpaibkaa
open Go Go.Abs Go.Proofs
set_option maxHeartbeats 1600000
attribute [local irreducible] CallJ OpsJ WPJ CallV MonoJ SpecJ
def rightP (m : CopM) (t : Int × List Int) (i : Nat) : Bool := rightR (arr5 (hrs m) (hotS m t.1 t.2)) (m.reads.getD i rd0)
def rightB (m : CopM) (t : Int × List Int) : Nat → Nat
  | 0 => 0
  | k + 1 => if rightP m t k then rightB m t k ||| 2 ^ k else rightB m t k
theorem arr5_getD {k i : Nat} {f : Nat → Int} (h : i < k) (h5 : i < 5) : (arr5 k f).getD i 0 = f i := by
  rw [List.getD_eq_getElem?_getD, arr5_get h h5]; rfl
section
variable {γ : Type} (E : Env γ) (g : γ) (H : AHeap)
end
end Go.Proofs.Ytjbiidlmpaibkaa
