import Derived.Test.YtjbiidlmpaibkaaHqp
import Derived.Test.YtjbiidlmpaibkaaHrp
namespace Go.Proofs.Ytjbiidlmpaibkaa
open Go Go.Abs Go.Proofs Go.ChangeShapes Go.RowKit Go.WideShapes Go.ChangeAt
set_option maxHeartbeats 800000
section
variable {H : Type} {enc : TypeId × Value → H} {P : Program} {w : World} {base : Nat} {spare : Nat → Bool} {held : Bool}
end
set_option maxRecDepth 100000 in
theorem lifted_cwuwW {os : Os} (started : os.Started) {X : Type} {enc : TypeId × Value → X} {f : FuncId} {fn : Func} {s : ChangeSpec} {dom : List PathCond} {apart fresh handsOn again : Bool}
    (hno : Try.checked.prog.inits.idxOf? f = none) (hfn : Try.checked.prog.funcs[f]? = some fn)
    (witness : ∃ (w : World) (tape : Tape) (i : Input), w.os = os ∧ (w.forCall tape i).Shaped Try.checked.prog ∧ i.vars = [] ∧ Input.okWide Try.checked.prog (w.forCall tape i) .any w.heap.size f i ∧
      s.pre6 enc Try.checked.prog fn dom apart (w.forCall tape i).memory i.args ∧ ({} : Assume).holds Try.checked.prog (lone (Frame.enter Try.checked.prog f i.args .normal) [] (w.forCall tape i)))
    (hp : fn.params = #[28, 79, 5, 79, 80]) (hres : fn.resultTypes = #[4]) (hv0 : s.vars = []) (hs : ∀ d0 d1 d2 d3 d4 : DataW X, s.fn X [d0, d1, d2, d3, d4] = { results := [.lit (.bool true)], args := [d0, d1, d2, d3, d4] })
    (hc : ∀ (H : AHeap) (m : CopM) (s1 s2 s3 s4 lv : Value) (a b c : Int) (l : List Int), CopZ H m s1 s2 s3 s4 → (0 ≤ a ∧ a ≤ 65535) → (0 ≤ b ∧ b ≤ 255) → (0 ≤ c ∧ c ≤ 65535) → RdS H lv 1 (encU l) → l.length ≤ 9223372036854775807 → (∀ x ∈ l, 0 ≤ x ∧ x ≤ 65535) → CallJ Try.prog trivE f [cv m s1 s2 s3 s4, .int .u16 a, .int .u8 b, .int .u16 c, lv] (fun v H' g' => v = .bool true ∧ H' = H ∧ g' = ()) H ()) :
    ReturnsInHanded {} Try.checked os f .any (s.pre6 enc Try.checked.prog fn dom apart) (s.post enc Try.checked.prog fn apart fresh handsOn again) := by
  refine returnsInHanded_of_change (C := Try.checked) Try.own started hno hfn witness ?_
  intro W base args ds gs before hval0 hW hcnd _
  have hW' := hW
  obtain ⟨p, q, hA, hV, hpe, hfz, hnd⟩ := hW
  rw [hv0] at hV
  obtain ⟨rfl, rfl⟩ := trodVars_none hV
  rw [hp] at hA
  obtain ⟨v0, v1, v2, v3, v4, d0, d1, d2, d3, d4, p0, p1, p2, p3, p4, rfl, rfl, hpp, h0, h1, h2, h3, h4⟩ := trod_five hA
  obtain ⟨m, s1, s2, s3, s4, o1, o2, o3, o4, m1, m2, m3, m4, a1, a2, a3, a4, hrel, hh⟩ := cop_abs 0 (hval0 0 28 v0 (by rw [hp]; rfl) rfl) h0
  obtain ⟨a, rfl, rfl, rfl, hw1⟩ := open_int und79' (hval0 1 79 v1 (by rw [hp]; rfl) rfl) h1
  obtain ⟨b, rfl, rfl, rfl, hw2⟩ := open_int und5' (hval0 2 5 v2 (by rw [hp]; rfl) rfl) h2
  obtain ⟨c, rfl, rfl, rfl, hw3⟩ := open_int und79' (hval0 3 79 v3 (by rw [hp]; rfl) rfl) h3
  obtain ⟨_, _, _, hsl⟩ := okWide_slice und80 (hval0 4 80 v4 (by rw [hp]; rfl) rfl)
  obtain ⟨l, lv, o5, m5, a5, hll, hlb, hrel5, hh5⟩ := words_abs 4 (by rw [hsl]; rfl) h4
  have hall : AllOf W [o1, o2, o3, o4, o5] [m1, m2, m3, m4, m5] := ⟨a1, a2, a3, a4, a5, trivial⟩
  have har : ARel (renOf [m1, m2, m3, m4, m5]) ⟨[cv m s1 s2 s3 s4, .int .u16 a, .int .u8 b, .int .u16 c, lv]⟩ #[v0, .int .u16 a, .int .u8 b, .int .u16 c, v4] := ⟨rfl, fun j h1 h2 => by
    match j, h1 with
    | 0, _ => exact hrel _ rfl rfl rfl rfl
    | 1, _ => exact .int _ _
    | 2, _ => exact .int _ _
    | 3, _ => exact .int _ _
    | 4, _ => exact hrel5 _ rfl⟩
  have hcalls := hall.calls har (hc _ m s1 s2 s3 s4 lv a b c l (hh _ rfl rfl rfl rfl) (u16_bd hw1) (u8_bd hw2) (u16_bd hw3) (hh5 _ rfl) hll hlb)
  refine Calls.mono hcalls fun e W' h => ⟨_, h.1, ?_⟩
  exact law_post Try.laidOut (fun t ht => by
    rw [hp] at ht
    simp at ht
    rcases ht with rfl | rfl | rfl | rfl | rfl
    · exact ⟨rd28, sz28⟩
    · exact ⟨rd79, sz79⟩
    · exact ⟨rd5, sz5⟩
    · exact ⟨rd79, sz79⟩
    · exact ⟨rd80, sz80⟩) hW' hv0 (by simpa using hs d0 (.lit (.int .u16 a)) (.lit (.int .u8 b)) (.lit (.int .u16 c)) d4) hres und4 h.2
end Go.Proofs.Ytjbiidlmpaibkaa
