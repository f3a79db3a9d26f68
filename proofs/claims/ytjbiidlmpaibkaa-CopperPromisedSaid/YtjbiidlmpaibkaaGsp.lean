import Derived.Test.YtjbiidlmpaibkaaU6
namespace Go.Abs
open Go
def LowRow (n : Nat) : AObj → Prop
  | .row cells _ _ => ∀ v ∈ cells, Low n v
  | o => flatRow o = true
theorem LowRow.flat {n : Nat} {o : AObj} (h : flatRow o = true) : LowRow n o := by
  cases o with
  | row cells es own => exact fun v hv => Low.flat (List.all_eq_true.1 h v hv)
  | _ => exact h
def PhJ (P : Program) (ops : Array Oper) (m : Nat) (T : List Value) (R : List Value → AHeap → Prop) : List Nat → List Nat → List (Value × AHeap) → AHeap → Prop
  | [], ex, D, H => (∀ j o, j < m → ops[j]? = some o → (∀ s ∈ ex, s ≠ j ∧ ancB ops ops.size s j = false) → StepM P ops o (vD D j) (lD D j) (TK ops D T j) (HK D H j)) ∧ R (TK ops D T m) (HK D H m)
  | b :: bs, ex, D, H => b < m ∧
      (∀ j o, j < m → ops[j]? = some o → j ≠ b → ancB ops ops.size j b = false → j ∉ bs → (∀ s ∈ ex, s ≠ j ∧ ancB ops ops.size s j = false) → StepM P ops o (vD D j) (lD D j) (TK ops D T j) (HK D H j)) ∧
      (∀ b' ∈ bs, ancB ops ops.size b' b = true) ∧ ∃ i o0 o1, (HK D H b)[i]? = some o0 ∧ ownedO o0 = true ∧ LowRow H.length o1 ∧ (∀ ob, ops[b]? = some ob → SpecM P i o1 ob (vD D b) (lD D b) (TK ops D T b) (HK D H b)) ∧
        PhJ P ops m T R bs (b :: ex) (chgD D H i o1) (H.set i o1)
section
variable {γ : Type} {P : Program} {E : Env γ} {ops : Array Oper} {D : List (Value × AHeap)} {T : List Value} {H : AHeap} {m : Nat} {LV : Nat → Prop}
  {g : γ} {S : Nat → Prop} {ρ : Ren} {w0 : World} {ro : Option Nat} {Ds : List Nat} {ds : List Deferred} {listed : Array Bool} {a : Act} {w : World} {ρ' : Ren}
end
section
variable {γ : Type} {P : Program} {E : Env γ} {ops : Array Oper} {T : List Value} {m : Nat}
  {g : γ} {S : Nat → Prop} {ρ : Ren} {w0 : World} {ro : Option Nat} {Ds : List Nat} {ds : List Deferred}
end
end Go.Abs
