import Derived.Test.YtjbiidlmpaibkaaJcp
import Derived.Test.YtjbiidlmpaibkaaIjp
namespace Go.Proofs.Ytjbiidlmpaibkaa
open Go Go.Abs Go.Proofs
set_option maxHeartbeats 4000000
set_option maxRecDepth 20000
attribute [local irreducible] CallJ OpsJ WPJ CallV MonoJ SpecJ
section
variable {P : Program} {T : List Value} {H : AHeap} {R : List Value → AHeap → Prop} {ops : Array Oper} {dst : Option Tmp} {ty : TypeId} {ps : String} {af : Array Edge} {rest : List Oper} {mm : Nat} {xs : Array Operand} {at_ : Array TypeId}
theorem mj_copperM {m : CopM} {s1 s2 s3 s4 : Value} (ha : evalL T xs.toList = [cv m s1 s2 s3 s4]) (hm : CopY H m s1 s2 s3 s4) (hb3 : m.loss.length ≤ 1000) (hb4 : m.reads.length ≤ 1000)
    (k : ∀ H' t1 t2 t3 t4, CopIs H' m t1 t2 t3 t4 → Ext H H' → MonoJ Try.prog ops R mm rest (putT T dst (cv m t1 t2 t3 t4)) H') : MonoJ Try.prog ops R (mm + 1) (⟨dst, .call { callee := .value (.func 22), args := xs, argTypes := at_ }, ty, ps, af, none⟩ :: rest) T H :=
  mj_callL (ha := ha) (h := CopperO_spec trivE () H m s1 s2 s3 s4 hm hb3 hb4) (hL := copL_own m) (k := k _ _ _ _ _ (cop_madeO H m hm.n1 hm.n2 hm.n3 hm.n4) ⟨_, rfl⟩)
end
end Go.Proofs.Ytjbiidlmpaibkaa
