import Derived.Test.YtjbiidlmpaibkaaHnp
import Derived.Test.YtjbiidlmpaibkaaHrp
namespace Go.Proofs.Ytjbiidlmpaibkaa
open Go Go.Abs Go.Proofs Go.ChangeShapes Go.RowKit Go.WideShapes Go.ChangeAt
set_option maxHeartbeats 800000
section
variable {H : Type} {enc : TypeId × Value → H} {P : Program} {w : World} {base : Nat} {spare : Nat → Bool} {held : Bool}
theorem trod_four {t1 t2 t3 t4 : TypeId} {args : Array Value} {ds : List (DataW H)} {ps : List MemPlace} (h : DataW.TrodAll enc P w base spare held [t1, t2, t3, t4] args.toList ds ps) :
    ∃ v1 v2 v3 v4 d1 d2 d3 d4 p1 p2 p3 p4, args = #[v1, v2, v3, v4] ∧ ds = [d1, d2, d3, d4] ∧ ps = p1 ++ (p2 ++ (p3 ++ p4)) ∧ DataW.Trod enc P w base spare held t1 v1 d1 p1 ∧ DataW.Trod enc P w base spare held t2 v2 d2 p2 ∧ DataW.Trod enc P w base spare held t3 v3 d3 p3 ∧ DataW.Trod enc P w base spare held t4 v4 d4 p4 := by
  obtain ⟨v1, w1, d1, e1, p1, q1, a1, rfl, rfl, k1, h⟩ := trodAll_cons h
  obtain ⟨v2, w2, d2, e2, p2, q2, rfl, rfl, rfl, k2, h⟩ := trodAll_cons h
  obtain ⟨v3, w3, d3, e3, p3, q3, rfl, rfl, rfl, k3, h⟩ := trodAll_cons h
  obtain ⟨v4, w4, d4, e4, p4, q4, rfl, rfl, rfl, k4, h⟩ := trodAll_cons h
  obtain ⟨rfl, rfl, rfl⟩ := trodAll_nil h
  exact ⟨v1, v2, v3, v4, d1, d2, d3, d4, p1, p2, p3, p4, by cases args; simp_all, rfl, by simp, k1, k2, k3, k4⟩
end
set_option maxRecDepth 100000 in
theorem lifted_cWuu {os : Os} (started : os.Started) {X : Type} {enc : TypeId × Value → X} {f : FuncId} {fn : Func} {s : ChangeSpec} {dom : List PathCond} {apart fresh handsOn again : Bool}
    (hno : Try.checked.prog.inits.idxOf? f = none) (hfn : Try.checked.prog.funcs[f]? = some fn)
    (witness : ∃ (w : World) (tape : Tape) (i : Input), w.os = os ∧ (w.forCall tape i).Shaped Try.checked.prog ∧ i.vars = [] ∧ Input.okWide Try.checked.prog (w.forCall tape i) .any w.heap.size f i ∧
      s.pre6 enc Try.checked.prog fn dom apart (w.forCall tape i).memory i.args ∧ ({} : Assume).holds Try.checked.prog (lone (Frame.enter Try.checked.prog f i.args .normal) [] (w.forCall tape i)))
    (hp : fn.params = #[28, 80, 5, 5]) (hres : fn.resultTypes = #[4]) (hv0 : s.vars = []) (hs : ∀ d0 d1 d2 d3 : DataW X, s.fn X [d0, d1, d2, d3] = { results := [.lit (.bool true)], args := [d0, d1, d2, d3] })
    (hc : ∀ (H : AHeap) (m : CopM) (s1 s2 s3 s4 lv : Value) (b c : Int) (l : List Int), CopZ H m s1 s2 s3 s4 → (0 ≤ b ∧ b ≤ 255) → (0 ≤ c ∧ c ≤ 255) → RdS H lv 1 (encU l) → l.length ≤ 9223372036854775807 → (∀ x ∈ l, 0 ≤ x ∧ x ≤ 65535) → CallJ Try.prog trivE f [cv m s1 s2 s3 s4, lv, .int .u8 b, .int .u8 c] (fun v H' g' => v = .bool true ∧ H' = H ∧ g' = ()) H ()) :
    ReturnsInHanded {} Try.checked os f .any (s.pre6 enc Try.checked.prog fn dom apart) (s.post enc Try.checked.prog fn apart fresh handsOn again) := by
  refine returnsInHanded_of_change (C := Try.checked) Try.own started hno hfn witness ?_
  intro W base args ds gs before hval0 hW hcnd _
  have hW' := hW
  obtain ⟨p, q, hA, hV, hpe, hfz, hnd⟩ := hW
  rw [hv0] at hV
  obtain ⟨rfl, rfl⟩ := trodVars_none hV
  rw [hp] at hA
  obtain ⟨v0, v1, v2, v3, d0, d1, d2, d3, p0, p1, p2, p3, rfl, rfl, hpp, h0, h1, h2, h3⟩ := trod_four hA
  obtain ⟨m, s1, s2, s3, s4, o1, o2, o3, o4, m1, m2, m3, m4, a1, a2, a3, a4, hrel, hh⟩ := cop_abs 0 (hval0 0 28 v0 (by rw [hp]; rfl) rfl) h0
  obtain ⟨_, _, _, hsl⟩ := okWide_slice und80 (hval0 1 80 v1 (by rw [hp]; rfl) rfl)
  obtain ⟨l, lv, o5, m5, a5, hll, hlb, hrel5, hh5⟩ := words_abs 4 (by rw [hsl]; rfl) h1
  obtain ⟨b, rfl, rfl, rfl, hw2⟩ := open_int und5' (hval0 2 5 v2 (by rw [hp]; rfl) rfl) h2
  obtain ⟨c, rfl, rfl, rfl, hw3⟩ := open_int und5' (hval0 3 5 v3 (by rw [hp]; rfl) rfl) h3
  have hall : AllOf W [o1, o2, o3, o4, o5] [m1, m2, m3, m4, m5] := ⟨a1, a2, a3, a4, a5, trivial⟩
  have har : ARel (renOf [m1, m2, m3, m4, m5]) ⟨[cv m s1 s2 s3 s4, lv, .int .u8 b, .int .u8 c]⟩ #[v0, v1, .int .u8 b, .int .u8 c] := ⟨rfl, fun j h1 h2 => by
    match j, h1 with
    | 0, _ => exact hrel _ rfl rfl rfl rfl
    | 1, _ => exact hrel5 _ rfl
    | 2, _ => exact .int _ _
    | 3, _ => exact .int _ _⟩
  have hcalls := hall.calls har (hc _ m s1 s2 s3 s4 lv b c l (hh _ rfl rfl rfl rfl) (u8_bd hw2) (u8_bd hw3) (hh5 _ rfl) hll hlb)
  refine Calls.mono hcalls fun e W' h => ⟨_, h.1, ?_⟩
  exact law_post Try.laidOut (fun t ht => by
    rw [hp] at ht
    simp at ht
    rcases ht with rfl | rfl | rfl
    · exact ⟨rd28, sz28⟩
    · exact ⟨rd80, sz80⟩
    · exact ⟨rd5, sz5⟩) hW' hv0 (by simpa using hs d0 d1 (.lit (.int .u8 b)) (.lit (.int .u8 c))) hres und4 h.2
end Go.Proofs.Ytjbiidlmpaibkaa
