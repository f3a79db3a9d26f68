import Derived.Test.YtjbiidlmpaibkaaU6
namespace Go.Proofs.Ytjbiidlmpaibkaa
open Go Go.Abs Go.Proofs
set_option maxHeartbeats 1600000
attribute [local irreducible] CallJ OpsJ WPJ CallV MonoJ SpecJ
def withCW (m : CopM) (cl wl : List Int) : CopM := { m with coal := cl, want := wl }
section
variable {γ : Type} (E : Env γ)
end
end Go.Proofs.Ytjbiidlmpaibkaa
