/- the lift of a law without arguments -/
import Derived.Test.YtehobnpoeodhkaaV10
namespace Go.Proofs.Ytehobnpoeodhkaa
open Go Go.Abs Go.Proofs Go.ChangeShapes Go.WideShapes Go.ChangeAt Go.RowKit
set_option maxHeartbeats 4000000

set_option maxRecDepth 100000 in
/-- a law without arguments -/
theorem lifted_o {os : Os} (started : os.Started) {X : Type} {enc : TypeId × Value → X} {f : FuncId} {fn : Func} {s : ChangeSpec} {dom : List PathCond} {apart fresh handsOn again : Bool}
    (hno : Try.checked.prog.inits.idxOf? f = none) (hfn : Try.checked.prog.funcs[f]? = some fn)
    (witness : ∃ (w : World) (tape : Tape) (i : Input), w.os = os ∧ (w.forCall tape i).Shaped Try.checked.prog ∧ i.vars = [] ∧ Input.okWide Try.checked.prog (w.forCall tape i) .any w.heap.size f i ∧
      s.pre6 enc Try.checked.prog fn dom apart (w.forCall tape i).memory i.args ∧ ({} : Assume).holds Try.checked.prog (lone (Frame.enter Try.checked.prog f i.args .normal) [] (w.forCall tape i)))
    (hp : fn.params = #[]) (hres : fn.resultTypes = #[4]) (hv0 : s.vars = []) (hs : s.fn X [] = { results := [.lit (.bool true)], args := [] })
    (hc : ∀ H : AHeap, CallJ Try.prog trivE f [] (fun v H' g' => v = .bool true ∧ H' = H ∧ g' = ()) H ()) :
    ReturnsInHanded {} Try.checked os f .any (s.pre6 enc Try.checked.prog fn dom apart) (s.post enc Try.checked.prog fn apart fresh handsOn again) := by
  refine returnsInHanded_of_change (C := Try.checked) Try.own started hno hfn witness ?_
  intro W base args ds gs before hval0 hW hcnd _
  have hW' := hW
  obtain ⟨p, q, hA, hV, hpe, hfz, hnd⟩ := hW
  rw [hv0] at hV
  obtain ⟨rfl, rfl⟩ := trodVars_none hV
  rw [hp] at hA
  obtain ⟨rfl, rfl, rfl⟩ := trodAll_none hA
  have hall : AllOf W [] [] := trivial
  have har : ARel (renOf []) ⟨[]⟩ #[] := ⟨rfl, fun j h1 h2 => by simp at h1⟩
  have hcalls := hall.calls har (hc _)
  refine Calls.mono hcalls fun e W' h => ⟨_, h.1, ?_⟩
  exact law_post Try.laidOut (fun t ht => by rw [hp] at ht; simp at ht) hW' hv0 (by simpa using hs) hres und4 h.2
end Go.Proofs.Ytehobnpoeodhkaa
