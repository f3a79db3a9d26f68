import Derived.Test.YtjbiidlmpaibkaaU6
namespace Go.Abs
open Go
section
variable {P : Program} {T : List Value} {H : AHeap} {R : List Value → AHeap → Prop} {mm : Nat} {ops : Array Oper} {dst : Option Tmp} {ty : TypeId} {ps : String} {af : Array Edge} {rest : List Oper}
theorem runs_neI {gd : Option (Nat × Bool)} {xt yt : TypeId} {x y : Operand} {n : Nat} {xs ys : List Int} [ht : IntsC P xt n] (hx : evalT T x = .agg ⟨xs.map cellI⟩) (hy : evalT T y = .agg ⟨ys.map cellI⟩) (hxl : xs.length = n) (hyl : ys.length = n) :
    Runs P ⟨dst, .binOp .neq xt x y yt, ty, ps, af, gd⟩ (.bool (!decide (xs = ys))) H T H :=
  runs_bin hx hy fun ρ w x' y' h1 h2 _ => by
    rw [rel_ints h1, rel_ints h2]
    exact ⟨.bool (!decide (xs = ys)), by rw [Sem.run_bind, run_eqGuard_agg w .neq xt x y _ _ ht.guard, Result.andThen_ok, run_neq_struct, ht.eq xs ys hxl hyl]; rfl, .bool _⟩
theorem mj_neI {xt yt : TypeId} {x y : Operand} {n : Nat} {xs ys : List Int} [ht : IntsC P xt n] (hx : evalT T x = .agg ⟨xs.map cellI⟩) (hy : evalT T y = .agg ⟨ys.map cellI⟩) (hxl : xs.length = n) (hyl : ys.length = n) (k : MonoJ P ops R mm rest (putT T dst (.bool (!decide (xs = ys)))) H) :
    MonoJ P ops R (mm + 1) (⟨dst, .binOp .neq xt x y yt, ty, ps, af, none⟩ :: rest) T H := mj_step (runs_neI hx hy hxl hyl) rfl k
end
end Go.Abs
