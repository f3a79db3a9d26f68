import Derived.Test.YtehobnpoeodhkaaKyi
import Derived.SizedLaws
namespace Go.Proofs.Ytehobnpoeodhkaa
open Go Go.Abs Go.Proofs Go.ChangeShapes Go.RowKit Go.WideShapes Go.ChangeAt Go.Deep
set_option maxHeartbeats 800000

/-! ### A law about a house and a clip; the house's clips are no more than what a slice can hold -/
theorem und93 : Try.prog.underlying 93 = some (.struct #[.mk "Ticket" 3 0 false "" "" 0, .mk "Clock" 3 1 false "" "" 8, .mk "Minute" 3 2 false "" "" 16]) := by kernel_rfl
theorem cel93 : Try.prog.cellsOf 93 = 3 := by kernel_rfl
theorem byt93 : Try.prog.bytesOf 93 = 24 := by kernel_rfl
theorem rd93 : Try.prog.readableRec 93 = true := by kernel_rfl
theorem sz93 : 93 < Try.prog.types.size := of_decide_eq_true (by kernel_rfl)
set_option maxRecDepth 100000 in
theorem clip_abs {X : Type} {enc : TypeId × Value → X} {W : World} {base : Nat} {v : Value} {d : DataW X} {ps : List MemPlace} (hok : Value.okWide Try.prog W .any base 93 v) (h : DataW.Trod enc Try.prog W 0 (fun _ => true) true 93 v d ps) : ∃ c : ClipM, v = .agg ⟨encC c⟩ := by
  obtain ⟨cs, rfl, hsz⟩ := @okWide_agg Try.prog W base 93 v _ und93 hok
  rw [cel93] at hsz
  obtain ⟨fuel, h⟩ := h
  obtain ⟨cl⟩ := cs
  simp at hsz
  match cl, hsz with
  | [v0, v1, v2], _ =>
    have h : DataW.trod enc Try.prog W 0 (fun _ => true) true fuel 93 [v0, v1, v2] = some (d, ps) := h
    obtain ⟨xs, n, _, _, _, hx, hf⟩ := DataW.trod_struct und93 h
    match xs, hx with
    | [x0, x1, x2], _ =>
      have h0 := hf 0 _ rfl
      have h1 := hf 1 _ rfl
      have h2 := hf 2 _ rfl
      simp [cel3] at h0 h1 h2
      obtain ⟨n0, e0, _⟩ := DataW.trod_int und3 h0
      obtain ⟨n1, e1, _⟩ := DataW.trod_int und3 h1
      obtain ⟨n2, e2, _⟩ := DataW.trod_int und3 h2
      simp at e0 e1 e2
      subst e0; subst e1; subst e2
      exact ⟨⟨n0, n1, n2⟩, rfl⟩
theorem clip_rel (ρ : Ren) (c : ClipM) : VRel ρ (.agg ⟨encC c⟩) (.agg ⟨encC c⟩) := .agg rfl fun j q1 q2 => by
  match j, q1 with
  | 0, _ => exact .int _ _
  | 1, _ => exact .int _ _
  | 2, _ => exact .int _ _
set_option maxRecDepth 100000 in
theorem clips_size {X : Type} {enc : TypeId × Value → X} {W : World} {base : Nat} {v : Value} {d : DataW X} {ps : List MemPlace} (hok : Value.okWide Try.prog W .any base 26 v) (h : DataW.Trod enc Try.prog W 0 (fun _ => true) true 26 v d ps) {A : AHeap} {m : HouseM} {s1 s2 s3 : Value} {ρ : Ren} (hW : HouseW A m s1 s2 s3) (hr : VRel ρ (hv m s1 s2 s3) v)
    (hw : ∀ n ∈ DataW.weights Try.prog 26 d, n ≤ reachBytes) : m.clips.length * 24 ≤ reachBytes := by
  obtain ⟨cs, rfl, hsz⟩ := @okWide_agg Try.prog W base 26 v _ und26 hok
  rw [cel26] at hsz
  obtain ⟨fuel, h⟩ := h
  obtain ⟨cl⟩ := cs
  simp at hsz
  match cl, hsz with
  | [v0, v1, v2, v3, v4], _ =>
    have h : DataW.trod enc Try.prog W 0 (fun _ => true) true fuel 26 [v0, v1, v2, v3, v4] = some (d, ps) := h
    obtain ⟨xs, n, _, hd, _, hx, hf⟩ := DataW.trod_struct und26 h
    match xs, hx with
    | [x0, x1, x2, x3, x4], _ =>
      have h4 := hf 4 _ rfl
      simp [cel24] at h4
      have hdd : d = .agg [x0.1, x1.1, x2.1, x3.1, x4.1] := by have := congrArg Prod.fst hd; simpa using this
      have hr4 : VRel ρ s3 v4 := by
        cases hr with
        | agg hs hh => exact hh 4 (by simp) (by simp)
      obtain ⟨_, hc⟩ := hW.clips
      rcases hc with ⟨i, o, c, row, es', own, a, _⟩ | ⟨e, _⟩
      · rw [List.length_map] at a
        subst a
        cases hr4 with
        | @slice _ _ _ _ cap' mm g1 g3 g4 =>
          rcases open_slice und24 h4 with ⟨e1, _⟩ | ⟨a, len, cap, mm2, fu, D, Pl, e1, _, _, _, _, e2, _⟩
          · simp at e1
          · simp at e1
            obtain ⟨_, e3, _⟩ := e1
            have e4 : x4.1 = .slice ((List.range len).map D) ((List.range (mm2 - len)).map fun j => D (len + j)) := by rw [e2]
            have hin : (len + (mm2 - len)) * 24 ∈ DataW.weights Try.prog 26 d := by
              rw [hdd]
              simp [DataW.weights, DataW.weightsEach, e4, byt93]
            have := hw _ hin
            rw [e3]
            exact Nat.le_trans (Nat.mul_le_mul_right _ (Nat.le_add_right _ _)) this
      · have : m.clips = [] := List.map_eq_nil_iff.1 e
        rw [this]; simp
set_option maxRecDepth 100000 in
theorem lifted_hc {os : Os} (started : os.Started) {X : Type} {enc : TypeId × Value → X} {f : FuncId} {fn : Func} {s : ChangeSpec} {dom : List PathCond} {apart fresh handsOn again : Bool}
    (hno : Try.checked.prog.inits.idxOf? f = none) (hfn : Try.checked.prog.funcs[f]? = some fn)
    (witness : ∃ (w : World) (tape : Tape) (i : Input), w.os = os ∧ (w.forCall tape i).Shaped Try.checked.prog ∧ i.vars = [] ∧ Input.okWide Try.checked.prog (w.forCall tape i) .any w.heap.size f i ∧
      s.pre6 enc Try.checked.prog fn dom apart (w.forCall tape i).memory i.args ∧ ({} : Assume).holds Try.checked.prog (lone (Frame.enter Try.checked.prog f i.args .normal) [] (w.forCall tape i)))
    (hp : fn.params = #[26, 93]) (hres : fn.resultTypes = #[4]) (hv0 : s.vars = []) (hs : ∀ d0 d1 : DataW X, s.fn X [d0, d1] = { results := [.lit (.bool true)], args := [d0, d1] })
    (hc : ∀ (H : AHeap) (m : HouseM) (s1 s2 s3 : Value) (c : ClipM), HouseW H m s1 s2 s3 → m.clips.length * 24 ≤ reachBytes → CallJ Try.prog trivE f [hv m s1 s2 s3, .agg ⟨encC c⟩] (fun v H' g' => v = .bool true ∧ H' = H ∧ g' = ()) H ()) :
    ReturnsInHanded {} Try.checked os f .any (s.pre6 enc Try.checked.prog fn dom apart) (s.post enc Try.checked.prog fn apart fresh handsOn again) := by
  refine returnsInHanded_of_change_sized (C := Try.checked) Try.own started hno hfn witness ?_
  intro W base args ds gs before hval0 hW hcnd hsz _
  have hW' := hW
  obtain ⟨p, q, hA, hV, hpe, hfz, hnd⟩ := hW
  rw [hv0] at hV
  obtain ⟨rfl, rfl⟩ := trodVars_none hV
  rw [hp] at hA hsz
  obtain ⟨v0, v1, d0, d1, p0, p1, rfl, rfl, hpp, h0, h1⟩ := trodAll_two hA
  obtain ⟨m, s1, s2, s3, o1, o2, o3, m1, m2, m3, a1, a2, a3, hrel, hh⟩ := house_abs 0 (hval0 0 26 v0 (by rw [hp]; rfl) rfl) h0
  obtain ⟨c, rfl⟩ := clip_abs (hval0 1 93 v1 (by rw [hp]; rfl) rfl) h1
  have hall : AllOf W [o1, o2, o3] [m1, m2, m3] := ⟨a1, a2, a3, trivial⟩
  have hsize := clips_size (hval0 0 26 v0 (by rw [hp]; rfl) rfl) h0 (hh [o1, o2, o3] rfl rfl rfl) (hrel (renOf [m1, m2, m3]) rfl rfl rfl) (fun n hn => by
    have := List.all_eq_true.1 hsz n (by simp only [List.append_nil, List.cons_append, List.nil_append, DataW.weightsEach, List.mem_append]; exact .inl hn)
    simpa using this)
  have har : ARel (renOf [m1, m2, m3]) ⟨[hv m s1 s2 s3, .agg ⟨encC c⟩]⟩ #[v0, .agg ⟨encC c⟩] := ⟨rfl, fun j h1 h2 => by
    match j, h1 with
    | 0, _ => exact hrel _ rfl rfl rfl
    | 1, _ => exact clip_rel _ _⟩
  have hcalls := hall.calls har (hc _ m s1 s2 s3 c (hh _ rfl rfl rfl) hsize)
  refine Calls.mono hcalls fun e W' h => ⟨_, h.1, ?_⟩
  exact law_post Try.laidOut (fun t ht => by
    rw [hp] at ht
    simp at ht
    rcases ht with rfl | rfl
    · exact ⟨rd26, sz26⟩
    · exact ⟨rd93, sz93⟩) hW' hv0 (by simpa using hs d0 d1) hres und4 h.2
end Go.Proofs.Ytehobnpoeodhkaa
