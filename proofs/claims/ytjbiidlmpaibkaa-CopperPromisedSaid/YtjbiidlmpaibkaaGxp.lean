import Derived.Test.YtjbiidlmpaibkaaGvp
namespace Go.Abs
open Go
def VK (P : Program) (ops : Array Oper) (μs : List Mut) (R : List Value → AHeap → Prop) (p0 : Nat) (ps : List Nat) (pl : List Ph) (o : Oper) (rest : List Oper) (T : List Value) (H : AHeap) (T1 : List Value) (H1 : AHeap) : Prop :=
  ∃ L, H1 = mutH (μs.take p0) H ++ L ∧ FreshM μs H.length L.length ∧
      AllV ps (fun p => (∃ d, o.dst = some d ∧ d < T.length) ∧ MonoJ P ops (fun T2 H2 => T2 = T1 ∧ H2 = mutH (μs.take p) H ++ L) 1 [o] T (mutH (μs.take p) H)) ∧
      VarJ P ops μs R pl rest T1 (H ++ L)
def VP (T1 : List Value) (Hx : AHeap) (T2 : List Value) (H2 : AHeap) : Prop := T2 = T1 ∧ H2 = Hx
def VQ (P : Program) (ops : Array Oper) (μs : List Mut) (o : Oper) (T : List Value) (H L : AHeap) (T1 : List Value) (p : Nat) : Prop := (∃ d, o.dst = some d ∧ Nat.blt d T.length = true) ∧ MonoJ P ops (VP T1 (mutH (μs.take p) H ++ L)) 1 [o] T (mutH (μs.take p) H)
section
variable {P : Program} {ops : Array Oper} {μs ms : List Mut} {R : List Value → AHeap → Prop} {p0 p : Nat} {ps : List Nat} {pl : List Ph} {o : Oper} {rest : List Oper} {T T' T1 : List Value} {H H' H1 L : AHeap} {b1 i1 b2 i2 b3 i3 d : Nat} {a1 c1 a2 c2 a3 c3 : AObj}
theorem VarJ.norm (hT : T = T') (hH : H = H') (h : VarJ P ops μs R pl rest T' H') : VarJ P ops μs R pl rest T H := by subst hT; subst hH; exact h
theorem VarJ.normA (h : VarJ P ops μs R pl rest T' H') (hT : T = T' := by first | exact NSr | rfl) (hH : H = H' := by first | exact NSr | rfl) : VarJ P ops μs R pl rest T H := VarJ.norm hT hH h
variable {dst : Option Tmp} {ty : TypeId} {pz : String} {af : Array Edge}
end
end Go.Abs
