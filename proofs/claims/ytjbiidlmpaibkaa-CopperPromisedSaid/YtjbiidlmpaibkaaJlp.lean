import Derived.Test.YtjbiidlmpaibkaaJcp
import Derived.Test.YtjbiidlmpaibkaaGxp
import Derived.Test.YtjbiidlmpaibkaaJkp
import Derived.Test.YtjbiidlmpaibkaaHrp
namespace Go.Proofs.Ytjbiidlmpaibkaa
open Go Go.Abs Go.Proofs
set_option maxHeartbeats 4000000
set_option maxRecDepth 20000
attribute [local irreducible] CallJ OpsJ WPJ CallV MonoJ SpecJ
def wordS (ws : List Int) (j : Nat) : Int := if ws.length = 0 then 0 else ws.getD (j % ws.length) 0
theorem wordS_bd {ws : List Int} (h : ∀ x ∈ ws, 0 ≤ x ∧ x ≤ 65535) (j : Nat) : 0 ≤ wordS ws j ∧ wordS ws j ≤ 65535 := by
  unfold wordS
  split
  · omega
  · exact getD_bd h (by omega) _
section
variable {γ : Type} (E : Env γ) (g : γ) (H : AHeap)
theorem word_spec (wv : Value) (ws : List Int) (j : Nat) (hr : RdS H wv 1 (encU ws)) (hn : ws.length ≤ 9223372036854775807) (hb : ∀ x ∈ ws, 0 ≤ x ∧ x ≤ 65535) (hj : j ≤ 1000000) :
    CallJ Try.prog E 64 [wv, .int .i64 j] (fun v H' g' => v = .int .i64 (wordS ws j) ∧ H' = H ∧ g' = g) H g := by
  refine CallJ.tidy ?_
  refine CallJ.enter Try.func64 rfl (by simp only [Try.ntmps64, List.length_cons, List.length_nil, Nat.zero_add, Nat.reduceAdd, Nat.reduceSub, List.replicate_succ, List.replicate_zero, List.cons_append, List.nil_append]; rfl) ?_
  by_cases h0 : ws.length = 0
  · have e : wordS ws j = 0 := by unfold wordS; rw [if_pos h0]
    rw [e]
    repeat' (first
      | ((fail_if_success (first | refine is_ucall ?_ | refine is_umcall ?_)); first | refine W1 ?_ | refine Wc ?_ | refine W2c ?_ ?_ | refine Wg ?_ | refine W2 ?_ ?_ | exact Wdead | refine Wlive (fun hb => ?_) | intro _ _ _ _ _ _ _ _ | refine We ?_ | refine Wx ?_ | refine Wt ?_ | refine Wm ?_ | refine W2m ?_ ?_ | refine Wl ?_)
      | fail)
    all_goals first | exact ⟨rfl, rfl, rfl⟩ | exact absurd trivial (by assumption) | exact absurd rfl (by assumption) | trace_state
  · have e : wordS ws j = ws.getD (j % ws.length) 0 := by unfold wordS; rw [if_neg h0]
    have hlt : j % ws.length < ws.length := Nat.mod_lt _ (by omega)
    have hel : (encU ws)[((j % ws.length : Nat) : Int).toNat]? = some [.int .u16 (ws.getD (j % ws.length) 0)] := by
      rw [Int.toNat_natCast, List.getElem?_map, List.getElem?_eq_getElem hlt]
      simp only [Option.map_some, List.getD, List.getElem?_eq_getElem hlt, Option.getD_some]
    have hbd := getD_bd hb (by omega) (j % ws.length)
    have hrem : ((j : Nat) : Int) % ((ws.length : Nat) : Int) = ((j % ws.length : Nat) : Int) := rfl
    rw [e]
    generalize ws.getD (j % ws.length) 0 = x at *
    have hwx : IntKind.i64.wrap x = x := wrap64_eq ⟨by omega, by omega⟩
    repeat' (first
      | ((fail_if_success (first | refine is_ucall ?_ | refine is_umcall ?_)); first | refine W1 ?_ | refine Wc ?_ | refine W2c ?_ ?_ | refine Wg ?_ | refine W2 ?_ ?_ | exact Wdead | refine Wlive (fun hb => ?_) | intro _ _ _ _ _ _ _ _ | refine We ?_ | refine Wx ?_ | refine Wt ?_ | refine Wm ?_ | refine W2m ?_ ?_ | refine Wl ?_)
      | fail)
    all_goals try rw [hwx]
    all_goals first | exact ⟨rfl, rfl, rfl⟩ | exact absurd trivial (by assumption) | exact absurd rfl (by assumption) | trace_state
end
def otherM (m : CopM) (cl wl : List Int) : CopM := { m with coal := cl, want := wl, reads := [] }
def fillJ (f : Nat → Int) (B : List Int) (n j : Nat) : List Int := (List.range n).map fun i => if i < j then f i else B.getD i 0
section
variable {P : Program} {T : List Value} {H : AHeap} {R : List Value → AHeap → Prop} {ops : Array Oper} {dst : Option Tmp} {ty : TypeId} {ps : String} {af : Array Edge} {rest : List Oper} {mm : Nat} {xs : Array Operand} {at_ : Array TypeId}
end
end Go.Proofs.Ytjbiidlmpaibkaa
