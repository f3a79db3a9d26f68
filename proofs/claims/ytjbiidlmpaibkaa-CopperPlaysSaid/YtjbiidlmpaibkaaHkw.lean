import Derived.Test.YtjbiidlmpaibkaaW6
namespace Go.Proofs.Ytjbiidlmpaibkaa
open Go Go.Abs Go.Proofs Go.ChangeShapes Go.RowKit Go.WideShapes Go.ChangeAt
set_option maxHeartbeats 800000

theorem rd30 : Try.prog.readableRec 30 = true := by kernel_rfl
theorem sz30 : 30 < Try.prog.types.size := of_decide_eq_true (by kernel_rfl)
theorem und30 : Try.prog.underlying 30 = some (.struct #[.mk "Heat" 3 0 false "" "" 0, .mk "Loss" 22 1 false "" "" 8]) := by kernel_rfl
theorem cel30 : Try.prog.cellsOf 30 = 2 := by kernel_rfl
set_option maxRecDepth 100000 in
theorem truth_abs {X : Type} {enc : TypeId × Value → X} {W : World} {base : Nat} {v : Value} {d : DataW X} {ps : List MemPlace} (i : Nat) (hok : Value.okWide Try.prog W .any base 30 v) (h : DataW.Trod enc Try.prog W 0 (fun _ => true) true 30 v d ps) :
    ∃ (n : Int) (tl : Value) (ls : List Int) (o1 : AObj) (m1 : Option Img), OneOf W i o1 m1 ∧ (∀ ρ : Ren, ρ i = m1 → VRel ρ (.agg ⟨[.int .i64 n, tl]⟩) v) ∧ ls.length ≤ 9223372036854775807 ∧ (∀ A : AHeap, A[i]? = some o1 → RdS A tl 1 (encI ls)) := by
  have hag := @okWide_agg Try.prog W base 30 v _ und30 hok
  obtain ⟨cs, rfl, hsz⟩ := hag
  rw [cel30] at hsz
  obtain ⟨fuel, h⟩ := h
  obtain ⟨cl⟩ := cs
  simp at hsz
  match cl, hsz with
  | [v0, v1], _ =>
    have h : DataW.trod enc Try.prog W 0 (fun _ => true) true fuel 30 [v0, v1] = some (d, ps) := h
    obtain ⟨xs, n, _, _, _, hx, hf⟩ := DataW.trod_struct und30 h
    match xs, hx with
    | [x0, x1], _ =>
      have h0 := hf 0 _ rfl
      have h1 := hf 1 _ rfl
      simp [cel3, cel22] at h0 h1
      obtain ⟨n0, e0, _⟩ := DataW.trod_int und3 h0
      simp at e0
      subst e0
      obtain ⟨y1, o1, m1, s1, a1, b1, c1, d1, f1, g1⟩ := slice_abs (i := i) und22 i3 h1
      have hml : maxLen = 9223372036854775807 := by decide
      rw [hml] at b1
      refine ⟨n0, s1, y1.map toI, o1, m1, d1, fun ρ r1 => ?_, by simpa using b1, fun A t1 => by rw [← toI_enc a1]; exact (f1 A t1).1⟩
      refine .agg rfl fun j q1 q2 => ?_
      match j, q1 with
      | 0, _ => exact .int _ _
      | 1, _ => exact c1 ρ r1
set_option maxRecDepth 100000 in
/-- a law about coppers and a truth -/
theorem lifted_ct {os : Os} (started : os.Started) {X : Type} {enc : TypeId × Value → X} {f : FuncId} {fn : Func} {s : ChangeSpec} {dom : List PathCond} {apart fresh handsOn again : Bool}
    (hno : Try.checked.prog.inits.idxOf? f = none) (hfn : Try.checked.prog.funcs[f]? = some fn)
    (witness : ∃ (w : World) (tape : Tape) (i : Input), w.os = os ∧ (w.forCall tape i).Shaped Try.checked.prog ∧ i.vars = [] ∧ Input.okWide Try.checked.prog (w.forCall tape i) .any w.heap.size f i ∧
      s.pre6 enc Try.checked.prog fn dom apart (w.forCall tape i).memory i.args ∧ ({} : Assume).holds Try.checked.prog (lone (Frame.enter Try.checked.prog f i.args .normal) [] (w.forCall tape i)))
    (hp : fn.params = #[28, 30]) (hres : fn.resultTypes = #[4]) (hv0 : s.vars = []) (hs : ∀ d e : DataW X, s.fn X [d, e] = { results := [.lit (.bool true)], args := [d, e] })
    (hc : ∀ (H : AHeap) (m : CopM) (s1 s2 s3 s4 : Value) (h : Int) (tl : Value) (ls : List Int), CopZ H m s1 s2 s3 s4 → RdS H tl 1 (encI ls) → ls.length ≤ 9223372036854775807 → CallJ Try.prog trivE f [cv m s1 s2 s3 s4, .agg ⟨[.int .i64 h, tl]⟩] (fun v H' g' => v = .bool true ∧ H' = H ∧ g' = ()) H ()) :
    ReturnsInHanded {} Try.checked os f .any (s.pre6 enc Try.checked.prog fn dom apart) (s.post enc Try.checked.prog fn apart fresh handsOn again) := by
  refine returnsInHanded_of_change (C := Try.checked) Try.own started hno hfn witness ?_
  intro W base args ds gs before hval0 hW hcnd _
  have hW' := hW
  obtain ⟨p, q, hA, hV, hpe, hfz, hnd⟩ := hW
  rw [hv0] at hV
  obtain ⟨rfl, rfl⟩ := trodVars_none hV
  rw [hp] at hA
  obtain ⟨v0, v1, d0, d1, p0, p1, rfl, rfl, rfl, h0, h1⟩ := trodAll_two hA
  obtain ⟨m, s1, s2, s3, s4, o1, o2, o3, o4, m1, m2, m3, m4, a1, a2, a3, a4, hrel, hh⟩ := cop_abs 0 (hval0 0 28 v0 (by rw [hp]; rfl) rfl) h0
  obtain ⟨n, tl, ls, o5, m5, a5, hrel2, hlen, hh2⟩ := truth_abs 4 (hval0 1 30 v1 (by rw [hp]; rfl) rfl) h1
  have hall : AllOf W [o1, o2, o3, o4, o5] [m1, m2, m3, m4, m5] := ⟨a1, a2, a3, a4, a5, trivial⟩
  have har : ARel (renOf [m1, m2, m3, m4, m5]) ⟨[cv m s1 s2 s3 s4, .agg ⟨[.int .i64 n, tl]⟩]⟩ #[v0, v1] := ⟨rfl, fun j h1 h2 => by
    match j, h1 with
    | 0, _ => exact hrel _ rfl rfl rfl rfl
    | 1, _ => exact hrel2 _ rfl⟩
  have hcalls := hall.calls har (hc _ m s1 s2 s3 s4 n tl ls (hh _ rfl rfl rfl rfl) (hh2 _ rfl) hlen)
  refine Calls.mono hcalls fun e W' h => ⟨_, h.1, ?_⟩
  exact law_post Try.laidOut (fun t ht => by rw [hp] at ht; simp at ht; rcases ht with rfl | rfl; exact ⟨rd28, sz28⟩; exact ⟨rd30, sz30⟩) hW' hv0 (by simpa using hs d0 d1) hres und4 h.2
end Go.Proofs.Ytjbiidlmpaibkaa
