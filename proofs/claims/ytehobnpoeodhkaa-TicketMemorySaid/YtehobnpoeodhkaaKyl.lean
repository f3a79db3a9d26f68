import Derived.Test.YtehobnpoeodhkaaV10
namespace Go.Proofs.Ytehobnpoeodhkaa
open Go Go.Abs Go.Proofs Go.ChangeShapes Go.RowKit Go.WideShapes Go.ChangeAt
set_option maxHeartbeats 800000

theorem rd27 : Try.prog.readableRec 27 = true := by kernel_rfl
theorem sz27 : 27 < Try.prog.types.size := of_decide_eq_true (by kernel_rfl)
set_option maxRecDepth 100000 in
theorem ints_abs {X : Type} {enc : TypeId × Value → X} {W : World} {v : Value} {d : DataW X} {ps : List MemPlace} (i : Nat) (hv : v.cells.toList = [v]) (h : DataW.Trod enc Try.prog W 0 (fun _ => true) true 27 v d ps) :
    ∃ (l : List Int) (s : Value) (o : AObj) (im : Option Img), Go.Abs.OneOf W o im ∧ l.length ≤ 9223372036854775807 ∧ (∀ ρ : Ren, ρ i = im → VRel ρ s v) ∧ (∀ A : AHeap, A[i]? = some o → RdS A s 1 (encI l) ∧ PlainS A s) := by
  obtain ⟨fuel, h⟩ := h
  rw [hv] at h
  obtain ⟨y, o, im, s, a, b, c, e, f, g⟩ := slice_abs (i := i) und27 i3 h
  have hy : y.map (·.map cellI) = encI (y.map fun x => x.getD 0 0) := by
    unfold encI
    rw [List.map_map]
    refine List.map_congr_left fun x hx => ?_
    match x, a x hx with
    | [q], _ => rfl
  have hml : maxLen = 9223372036854775807 := by decide
  rw [hml] at b
  exact ⟨y.map fun x => x.getD 0 0, s, o, im, e, by simpa using b, c, fun A hA => by rw [← hy]; exact f A hA⟩

set_option maxRecDepth 100000 in
/-- a law about a house and a list of numbers -/
theorem lifted_hl {os : Os} (started : os.Started) {X : Type} {enc : TypeId × Value → X} {f : FuncId} {fn : Func} {s : ChangeSpec} {dom : List PathCond} {apart fresh handsOn again : Bool}
    (hno : Try.checked.prog.inits.idxOf? f = none) (hfn : Try.checked.prog.funcs[f]? = some fn)
    (witness : ∃ (w : World) (tape : Tape) (i : Input), w.os = os ∧ (w.forCall tape i).Shaped Try.checked.prog ∧ i.vars = [] ∧ Input.okWide Try.checked.prog (w.forCall tape i) .any w.heap.size f i ∧
      s.pre6 enc Try.checked.prog fn dom apart (w.forCall tape i).memory i.args ∧ ({} : Assume).holds Try.checked.prog (lone (Frame.enter Try.checked.prog f i.args .normal) [] (w.forCall tape i)))
    (hp : fn.params = #[26, 27]) (hres : fn.resultTypes = #[4]) (hv0 : s.vars = []) (hs : ∀ d e : DataW X, s.fn X [d, e] = { results := [.lit (.bool true)], args := [d, e] })
    (hc : ∀ (H : AHeap) (m : HouseM) (s1 s2 s3 lv : Value) (l : List Int), HouseW H m s1 s2 s3 → RdS H lv 1 (encI l) → l.length ≤ 9223372036854775807 → CallJ Try.prog trivE f [hv m s1 s2 s3, lv] (fun v H' g' => v = .bool true ∧ H' = H ∧ g' = ()) H ()) :
    ReturnsInHanded {} Try.checked os f .any (s.pre6 enc Try.checked.prog fn dom apart) (s.post enc Try.checked.prog fn apart fresh handsOn again) := by
  refine returnsInHanded_of_change (C := Try.checked) Try.own started hno hfn witness ?_
  intro W base args ds gs before hval0 hW hcnd _
  have hW' := hW
  obtain ⟨p, q, hA, hV, hpe, hfz, hnd⟩ := hW
  rw [hv0] at hV
  obtain ⟨rfl, rfl⟩ := trodVars_none hV
  rw [hp] at hA
  obtain ⟨v0, v1, d0, d1, p0, p1, rfl, rfl, hpp, h0, h1⟩ := trodAll_two hA
  obtain ⟨m, s1, s2, s3, o1, o2, o3, m1, m2, m3, a1, a2, a3, hrel, hh⟩ := house_abs 0 (hval0 0 26 v0 (by rw [hp]; rfl) rfl) h0
  obtain ⟨_, _, _, hsl⟩ := okWide_slice und27 (hval0 1 27 v1 (by rw [hp]; rfl) rfl)
  obtain ⟨l, lv, o4, m4, a4, hll, hrel4, hh4⟩ := ints_abs 3 (by rw [hsl]; rfl) h1
  have hall : AllOf W [o1, o2, o3, o4] [m1, m2, m3, m4] := ⟨a1, a2, a3, a4, trivial⟩
  have har : ARel (renOf [m1, m2, m3, m4]) ⟨[hv m s1 s2 s3, lv]⟩ #[v0, v1] := ⟨rfl, fun j h1 h2 => by
    match j, h1 with
    | 0, _ => exact hrel _ rfl rfl rfl
    | 1, _ => exact hrel4 _ rfl⟩
  have hcalls := hall.calls har (hc _ m s1 s2 s3 lv l (hh _ rfl rfl rfl) (hh4 _ rfl).1 hll)
  refine Calls.mono hcalls fun e W' h => ⟨_, h.1, ?_⟩
  exact law_post Try.laidOut (fun t ht => by
    rw [hp] at ht
    simp at ht
    rcases ht with rfl | rfl
    · exact ⟨rd26, sz26⟩
    · exact ⟨rd27, sz27⟩) hW' hv0 (by simpa using hs d0 d1) hres und4 h.2
end Go.Proofs.Ytehobnpoeodhkaa
