import Derived.Test.YtjbiidlmpaibkaaInp
namespace Go.Proofs.Ytjbiidlmpaibkaa
open Go Go.Abs Go.Proofs
set_option maxHeartbeats 1600000
attribute [local irreducible] CallJ OpsJ WPJ CallV MonoJ SpecJ
abbrev padT (t : Int × List Int) : Int × List Int := (t.1, pad5 t.2)
section
variable {γ : Type} (E : Env γ) (g : γ) (H : AHeap)
end
end Go.Proofs.Ytjbiidlmpaibkaa
