import Derived.Test.YtjbiidlmpaibkaaU6
namespace Go.Proofs.Ytjbiidlmpaibkaa
open Go Go.Abs Go.Proofs
set_option maxHeartbeats 1600000
attribute [local irreducible] CallJ OpsJ WPJ CallV MonoJ SpecJ
def CoalOk (m : CopM) (l : List Int) : Prop := l.length = hrs m ∧ ∀ x ∈ l, 0 ≤ x ∧ x ≤ m.shovels
def coalD (s k n i : Nat) : Int := ((n / (s + 1) ^ (k - 1 - i) % (s + 1) : Nat) : Int)
def coalN (m : CopM) (n : Nat) : List Int := (List.range (hrs m)).map (coalD m.shovels.toNat (hrs m) n)
def coalJ (s k n j : Nat) : List Int := (List.range k).map fun i => if k - j ≤ i then coalD s k n i else 0
end Go.Proofs.Ytjbiidlmpaibkaa
