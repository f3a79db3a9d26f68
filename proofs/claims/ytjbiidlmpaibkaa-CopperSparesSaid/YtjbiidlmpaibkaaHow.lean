import Derived.Test.YtjbiidlmpaibkaaU6
namespace Go.Proofs.Ytjbiidlmpaibkaa
open Go Go.Abs Go.Proofs Go.ChangeShapes Go.RowKit Go.WideShapes Go.ChangeAt
set_option maxHeartbeats 800000

theorem i64_bd {n : Int} (h : (Lit.int .i64 n).wf = true) : -9223372036854775808 ≤ n ∧ n ≤ 9223372036854775807 := by
  simp only [Lit.wf, Bool.and_eq_true, decide_eq_true_eq, show IntKind.i64.min = -9223372036854775808 by decide, show IntKind.i64.max = 9223372036854775807 by decide] at h
  exact h
theorem rd22 : Try.prog.readableRec 22 = true := by kernel_rfl
theorem sz22 : 22 < Try.prog.types.size := of_decide_eq_true (by kernel_rfl)
theorem rd3 : Try.prog.readableRec 3 = true := by kernel_rfl
theorem sz3 : 3 < Try.prog.types.size := of_decide_eq_true (by kernel_rfl)
set_option maxRecDepth 100000 in
theorem ints_abs {X : Type} {enc : TypeId × Value → X} {W : World} {v : Value} {d : DataW X} {ps : List MemPlace} (i : Nat) (hv : v.cells.toList = [v]) (h : DataW.Trod enc Try.prog W 0 (fun _ => true) true 22 v d ps) :
    ∃ (l : List Int) (s : Value) (o : AObj) (im : Option Img), OneOf W i o im ∧ l.length ≤ 9223372036854775807 ∧ (∀ ρ : Ren, ρ i = im → VRel ρ s v) ∧ (∀ A : AHeap, A[i]? = some o → RdS A s 1 (encI l)) := by
  obtain ⟨fuel, h⟩ := h
  rw [hv] at h
  obtain ⟨y1, o1, m1, s1, a1, b1, c1, d1, f1, g1⟩ := slice_abs (i := i) und22 i3 h
  have hml : maxLen = 9223372036854775807 := by decide
  rw [hml] at b1
  exact ⟨y1.map toI, s1, o1, m1, d1, by simpa using b1, c1, fun A t1 => by rw [← toI_enc a1]; exact (f1 A t1).1⟩
set_option maxRecDepth 100000 in
/-- a law about coppers, a list and a number -/
theorem lifted_cli {os : Os} (started : os.Started) {X : Type} {enc : TypeId × Value → X} {f : FuncId} {fn : Func} {s : ChangeSpec} {dom : List PathCond} {apart fresh handsOn again : Bool}
    (hno : Try.checked.prog.inits.idxOf? f = none) (hfn : Try.checked.prog.funcs[f]? = some fn)
    (witness : ∃ (w : World) (tape : Tape) (i : Input), w.os = os ∧ (w.forCall tape i).Shaped Try.checked.prog ∧ i.vars = [] ∧ Input.okWide Try.checked.prog (w.forCall tape i) .any w.heap.size f i ∧
      s.pre6 enc Try.checked.prog fn dom apart (w.forCall tape i).memory i.args ∧ ({} : Assume).holds Try.checked.prog (lone (Frame.enter Try.checked.prog f i.args .normal) [] (w.forCall tape i)))
    (hp : fn.params = #[28, 22, 3]) (hres : fn.resultTypes = #[4]) (hv0 : s.vars = []) (hs : ∀ d e e' : DataW X, s.fn X [d, e, e'] = { results := [.lit (.bool true)], args := [d, e, e'] })
    (hc : ∀ (H : AHeap) (m : CopM) (s1 s2 s3 s4 lv : Value) (l : List Int) (a : Int), CopZ H m s1 s2 s3 s4 → RdS H lv 1 (encI l) → l.length ≤ 9223372036854775807 → (-9223372036854775808 ≤ a ∧ a ≤ 9223372036854775807) → CallJ Try.prog trivE f [cv m s1 s2 s3 s4, lv, .int .i64 a] (fun v H' g' => v = .bool true ∧ H' = H ∧ g' = ()) H ()) :
    ReturnsInHanded {} Try.checked os f .any (s.pre6 enc Try.checked.prog fn dom apart) (s.post enc Try.checked.prog fn apart fresh handsOn again) := by
  refine returnsInHanded_of_change (C := Try.checked) Try.own started hno hfn witness ?_
  intro W base args ds gs before hval0 hW hcnd _
  have hW' := hW
  obtain ⟨p, q, hA, hV, hpe, hfz, hnd⟩ := hW
  rw [hv0] at hV
  obtain ⟨rfl, rfl⟩ := trodVars_none hV
  rw [hp] at hA
  obtain ⟨v0, v1, v2, d0, d1, d2, p0, p1, p2, rfl, rfl, hpp, h0, h1, h2⟩ := trodAll_three hA
  obtain ⟨m, s1, s2, s3, s4, o1, o2, o3, o4, m1, m2, m3, m4, a1, a2, a3, a4, hrel, hh⟩ := cop_abs 0 (hval0 0 28 v0 (by rw [hp]; rfl) rfl) h0
  obtain ⟨_, _, _, hsl⟩ := okWide_slice und22 (hval0 1 22 v1 (by rw [hp]; rfl) rfl)
  obtain ⟨l, lv, o5, m5, a5, hll, hrel5, hh5⟩ := ints_abs 4 (by rw [hsl]; rfl) h1
  obtain ⟨a, rfl, rfl, rfl, hw2⟩ := open_int und3 (hval0 2 3 v2 (by rw [hp]; rfl) rfl) h2
  have hall : AllOf W [o1, o2, o3, o4, o5] [m1, m2, m3, m4, m5] := ⟨a1, a2, a3, a4, a5, trivial⟩
  have har : ARel (renOf [m1, m2, m3, m4, m5]) ⟨[cv m s1 s2 s3 s4, lv, .int .i64 a]⟩ #[v0, v1, .int .i64 a] := ⟨rfl, fun j h1 h2 => by
    match j, h1 with
    | 0, _ => exact hrel _ rfl rfl rfl rfl
    | 1, _ => exact hrel5 _ rfl
    | 2, _ => exact .int _ _⟩
  have hcalls := hall.calls har (hc _ m s1 s2 s3 s4 lv l a (hh _ rfl rfl rfl rfl) (hh5 _ rfl) hll (i64_bd hw2))
  refine Calls.mono hcalls fun e W' h => ⟨_, h.1, ?_⟩
  exact law_post Try.laidOut (fun t ht => by
    rw [hp] at ht
    simp at ht
    rcases ht with rfl | rfl | rfl
    · exact ⟨rd28, sz28⟩
    · exact ⟨rd22, sz22⟩
    · exact ⟨rd3, sz3⟩) hW' hv0 (by simpa using hs d0 d1 (.lit (.int .i64 a))) hres und4 h.2
end Go.Proofs.Ytjbiidlmpaibkaa
