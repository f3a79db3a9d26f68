import Derived.Test.YtjbiidlmpaibkaaU6
namespace Go.Proofs.Ytjbiidlmpaibkaa
open Go Go.Abs Go.Proofs Go.ChangeShapes Go.RowKit Go.WideShapes Go.ChangeAt
set_option maxHeartbeats 800000

theorem u8_bd {n : Int} (h : (Lit.int .u8 n).wf = true) : 0 ≤ n ∧ n ≤ 255 := by
  simp only [Lit.wf, Bool.and_eq_true, decide_eq_true_eq, show IntKind.u8.min = 0 by decide, show IntKind.u8.max = 255 by decide] at h
  exact h
theorem u16_bd {n : Int} (h : (Lit.int .u16 n).wf = true) : 0 ≤ n ∧ n ≤ 65535 := by
  simp only [Lit.wf, Bool.and_eq_true, decide_eq_true_eq, show IntKind.u16.min = 0 by decide, show IntKind.u16.max = 65535 by decide] at h
  exact h
theorem rd5 : Try.prog.readableRec 5 = true := by kernel_rfl
theorem sz5 : 5 < Try.prog.types.size := of_decide_eq_true (by kernel_rfl)
theorem und5' : Try.prog.underlying 5 = some (.int .u8) := by kernel_rfl
theorem rd79 : Try.prog.readableRec 79 = true := by kernel_rfl
theorem sz79 : 79 < Try.prog.types.size := of_decide_eq_true (by kernel_rfl)
theorem und79' : Try.prog.underlying 79 = some (.int .u16) := by kernel_rfl

set_option maxRecDepth 100000 in
theorem lifted_cu {os : Os} (started : os.Started) {X : Type} {enc : TypeId × Value → X} {f : FuncId} {fn : Func} {s : ChangeSpec} {dom : List PathCond} {apart fresh handsOn again : Bool}
    (hno : Try.checked.prog.inits.idxOf? f = none) (hfn : Try.checked.prog.funcs[f]? = some fn)
    (witness : ∃ (w : World) (tape : Tape) (i : Input), w.os = os ∧ (w.forCall tape i).Shaped Try.checked.prog ∧ i.vars = [] ∧ Input.okWide Try.checked.prog (w.forCall tape i) .any w.heap.size f i ∧
      s.pre6 enc Try.checked.prog fn dom apart (w.forCall tape i).memory i.args ∧ ({} : Assume).holds Try.checked.prog (lone (Frame.enter Try.checked.prog f i.args .normal) [] (w.forCall tape i)))
    (hp : fn.params = #[28, 5]) (hres : fn.resultTypes = #[4]) (hv0 : s.vars = []) (hs : ∀ d0 d1 : DataW X, s.fn X [d0, d1] = { results := [.lit (.bool true)], args := [d0, d1] })
    (hc : ∀ (H : AHeap) (m : CopM) (s1 s2 s3 s4 : Value) (a : Int), CopZ H m s1 s2 s3 s4 → (0 ≤ a ∧ a ≤ 255) → CallJ Try.prog trivE f [cv m s1 s2 s3 s4, .int .u8 a] (fun v H' g' => v = .bool true ∧ H' = H ∧ g' = ()) H ()) :
    ReturnsInHanded {} Try.checked os f .any (s.pre6 enc Try.checked.prog fn dom apart) (s.post enc Try.checked.prog fn apart fresh handsOn again) := by
  refine returnsInHanded_of_change (C := Try.checked) Try.own started hno hfn witness ?_
  intro W base args ds gs before hval0 hW hcnd _
  have hW' := hW
  obtain ⟨p, q, hA, hV, hpe, hfz, hnd⟩ := hW
  rw [hv0] at hV
  obtain ⟨rfl, rfl⟩ := trodVars_none hV
  rw [hp] at hA
  obtain ⟨v0, v1, d0, d1, p0, p1, rfl, rfl, hpp, h0, h1⟩ := trodAll_two hA
  obtain ⟨m, s1, s2, s3, s4, o1, o2, o3, o4, m1, m2, m3, m4, a1, a2, a3, a4, hrel, hh⟩ := cop_abs 0 (hval0 0 28 v0 (by rw [hp]; rfl) rfl) h0
  obtain ⟨a, rfl, rfl, rfl, hw1⟩ := open_int und5' (hval0 1 5 v1 (by rw [hp]; rfl) rfl) h1
  have hall : AllOf W [o1, o2, o3, o4] [m1, m2, m3, m4] := ⟨a1, a2, a3, a4, trivial⟩
  have har : ARel (renOf [m1, m2, m3, m4]) ⟨[cv m s1 s2 s3 s4, .int .u8 a]⟩ #[v0, .int .u8 a] := ⟨rfl, fun j h1 h2 => by
    match j, h1 with
    | 0, _ => exact hrel _ rfl rfl rfl rfl
    | 1, _ => exact .int _ _⟩
  have hcalls := hall.calls har (hc _ m s1 s2 s3 s4 a (hh _ rfl rfl rfl rfl) (u8_bd hw1))
  refine Calls.mono hcalls fun e W' h => ⟨_, h.1, ?_⟩
  exact law_post Try.laidOut (fun t ht => by
    rw [hp] at ht
    simp at ht
    rcases ht with rfl | rfl
    · exact ⟨rd28, sz28⟩
    · exact ⟨rd5, sz5⟩) hW' hv0 (by simpa using hs d0 (.lit (.int .u8 a))) hres und4 h.2

set_option maxRecDepth 100000 in
theorem lifted_cw {os : Os} (started : os.Started) {X : Type} {enc : TypeId × Value → X} {f : FuncId} {fn : Func} {s : ChangeSpec} {dom : List PathCond} {apart fresh handsOn again : Bool}
    (hno : Try.checked.prog.inits.idxOf? f = none) (hfn : Try.checked.prog.funcs[f]? = some fn)
    (witness : ∃ (w : World) (tape : Tape) (i : Input), w.os = os ∧ (w.forCall tape i).Shaped Try.checked.prog ∧ i.vars = [] ∧ Input.okWide Try.checked.prog (w.forCall tape i) .any w.heap.size f i ∧
      s.pre6 enc Try.checked.prog fn dom apart (w.forCall tape i).memory i.args ∧ ({} : Assume).holds Try.checked.prog (lone (Frame.enter Try.checked.prog f i.args .normal) [] (w.forCall tape i)))
    (hp : fn.params = #[28, 79]) (hres : fn.resultTypes = #[4]) (hv0 : s.vars = []) (hs : ∀ d0 d1 : DataW X, s.fn X [d0, d1] = { results := [.lit (.bool true)], args := [d0, d1] })
    (hc : ∀ (H : AHeap) (m : CopM) (s1 s2 s3 s4 : Value) (a : Int), CopZ H m s1 s2 s3 s4 → (0 ≤ a ∧ a ≤ 65535) → CallJ Try.prog trivE f [cv m s1 s2 s3 s4, .int .u16 a] (fun v H' g' => v = .bool true ∧ H' = H ∧ g' = ()) H ()) :
    ReturnsInHanded {} Try.checked os f .any (s.pre6 enc Try.checked.prog fn dom apart) (s.post enc Try.checked.prog fn apart fresh handsOn again) := by
  refine returnsInHanded_of_change (C := Try.checked) Try.own started hno hfn witness ?_
  intro W base args ds gs before hval0 hW hcnd _
  have hW' := hW
  obtain ⟨p, q, hA, hV, hpe, hfz, hnd⟩ := hW
  rw [hv0] at hV
  obtain ⟨rfl, rfl⟩ := trodVars_none hV
  rw [hp] at hA
  obtain ⟨v0, v1, d0, d1, p0, p1, rfl, rfl, hpp, h0, h1⟩ := trodAll_two hA
  obtain ⟨m, s1, s2, s3, s4, o1, o2, o3, o4, m1, m2, m3, m4, a1, a2, a3, a4, hrel, hh⟩ := cop_abs 0 (hval0 0 28 v0 (by rw [hp]; rfl) rfl) h0
  obtain ⟨a, rfl, rfl, rfl, hw1⟩ := open_int und79' (hval0 1 79 v1 (by rw [hp]; rfl) rfl) h1
  have hall : AllOf W [o1, o2, o3, o4] [m1, m2, m3, m4] := ⟨a1, a2, a3, a4, trivial⟩
  have har : ARel (renOf [m1, m2, m3, m4]) ⟨[cv m s1 s2 s3 s4, .int .u16 a]⟩ #[v0, .int .u16 a] := ⟨rfl, fun j h1 h2 => by
    match j, h1 with
    | 0, _ => exact hrel _ rfl rfl rfl rfl
    | 1, _ => exact .int _ _⟩
  have hcalls := hall.calls har (hc _ m s1 s2 s3 s4 a (hh _ rfl rfl rfl rfl) (u16_bd hw1))
  refine Calls.mono hcalls fun e W' h => ⟨_, h.1, ?_⟩
  exact law_post Try.laidOut (fun t ht => by
    rw [hp] at ht
    simp at ht
    rcases ht with rfl | rfl
    · exact ⟨rd28, sz28⟩
    · exact ⟨rd79, sz79⟩) hW' hv0 (by simpa using hs d0 (.lit (.int .u16 a))) hres und4 h.2
end Go.Proofs.Ytjbiidlmpaibkaa
