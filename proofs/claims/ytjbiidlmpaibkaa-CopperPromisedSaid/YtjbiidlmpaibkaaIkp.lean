import Derived.Test.YtjbiidlmpaibkaaIjp
namespace Go.Proofs.Ytjbiidlmpaibkaa
open Go Go.Abs Go.Proofs
set_option maxHeartbeats 1600000
attribute [local irreducible] CallJ OpsJ WPJ CallV MonoJ SpecJ
def prodN : List (Int × Int) → Nat
  | [] => 1
  | r :: l => szN r * prodN l
abbrev nthT (m : CopM) (n : Nat) : Int × List Int := (nthH m n, pad5 (nthL m n))
def allN (m : CopM) (k : Nat) : List Nat := (List.range k).map fun n => rightB m (nthT m n) m.reads.length
def natI (l : List Nat) : List Int := l.map fun (n : Nat) => (n : Int)
def cansB (l : List Nat) (b : Nat) : Bool := l.any fun a => decide (a &&& b = b)
section
variable {γ : Type} (E : Env γ) (g : γ) (H : AHeap)
end
end Go.Proofs.Ytjbiidlmpaibkaa
