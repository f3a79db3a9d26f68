import Derived.Test.YtehobnpoeodhkaaV10
namespace Go.Proofs.Ytehobnpoeodhkaa
open Go Go.Abs Go.Proofs Go.ChangeShapes Go.RowKit Go.WideShapes Go.ChangeAt
set_option maxHeartbeats 800000

theorem i64_bd {n : Int} (h : (Lit.int .i64 n).wf = true) : -9223372036854775808 ≤ n ∧ n ≤ 9223372036854775807 := by
  simp only [Lit.wf, Bool.and_eq_true, decide_eq_true_eq, show IntKind.i64.min = -9223372036854775808 by decide, show IntKind.i64.max = 9223372036854775807 by decide] at h
  exact h
theorem u8_bd {n : Int} (h : (Lit.int .u8 n).wf = true) : 0 ≤ n ∧ n ≤ 255 := by
  simp only [Lit.wf, Bool.and_eq_true, decide_eq_true_eq, show IntKind.u8.min = 0 by decide, show IntKind.u8.max = 255 by decide] at h
  exact h
theorem u16_bd {n : Int} (h : (Lit.int .u16 n).wf = true) : 0 ≤ n ∧ n ≤ 65535 := by
  simp only [Lit.wf, Bool.and_eq_true, decide_eq_true_eq, show IntKind.u16.min = 0 by decide, show IntKind.u16.max = 65535 by decide] at h
  exact h
theorem rd3 : Try.prog.readableRec 3 = true := by kernel_rfl
theorem sz3 : 3 < Try.prog.types.size := of_decide_eq_true (by kernel_rfl)
theorem und3' : Try.prog.underlying 3 = some (.int .i64) := by kernel_rfl
theorem rd5 : Try.prog.readableRec 5 = true := by kernel_rfl
theorem sz5 : 5 < Try.prog.types.size := of_decide_eq_true (by kernel_rfl)
theorem und5' : Try.prog.underlying 5 = some (.int .u8) := by kernel_rfl
theorem rd83 : Try.prog.readableRec 83 = true := by kernel_rfl
theorem sz83 : 83 < Try.prog.types.size := of_decide_eq_true (by kernel_rfl)
theorem und83' : Try.prog.underlying 83 = some (.int .u16) := by kernel_rfl

set_option maxRecDepth 100000 in
theorem lifted_hi {os : Os} (started : os.Started) {X : Type} {enc : TypeId × Value → X} {f : FuncId} {fn : Func} {s : ChangeSpec} {dom : List PathCond} {apart fresh handsOn again : Bool}
    (hno : Try.checked.prog.inits.idxOf? f = none) (hfn : Try.checked.prog.funcs[f]? = some fn)
    (witness : ∃ (w : World) (tape : Tape) (i : Input), w.os = os ∧ (w.forCall tape i).Shaped Try.checked.prog ∧ i.vars = [] ∧ Input.okWide Try.checked.prog (w.forCall tape i) .any w.heap.size f i ∧
      s.pre6 enc Try.checked.prog fn dom apart (w.forCall tape i).memory i.args ∧ ({} : Assume).holds Try.checked.prog (lone (Frame.enter Try.checked.prog f i.args .normal) [] (w.forCall tape i)))
    (hp : fn.params = #[26, 3]) (hres : fn.resultTypes = #[4]) (hv0 : s.vars = []) (hs : ∀ d0 d1 : DataW X, s.fn X [d0, d1] = { results := [.lit (.bool true)], args := [d0, d1] })
    (hc : ∀ (H : AHeap) (m : HouseM) (s1 s2 s3 : Value) (a : Int), HouseW H m s1 s2 s3 → (-9223372036854775808 ≤ a ∧ a ≤ 9223372036854775807) → CallJ Try.prog trivE f [hv m s1 s2 s3, .int .i64 a] (fun v H' g' => v = .bool true ∧ H' = H ∧ g' = ()) H ()) :
    ReturnsInHanded {} Try.checked os f .any (s.pre6 enc Try.checked.prog fn dom apart) (s.post enc Try.checked.prog fn apart fresh handsOn again) := by
  refine returnsInHanded_of_change (C := Try.checked) Try.own started hno hfn witness ?_
  intro W base args ds gs before hval0 hW hcnd _
  have hW' := hW
  obtain ⟨p, q, hA, hV, hpe, hfz, hnd⟩ := hW
  rw [hv0] at hV
  obtain ⟨rfl, rfl⟩ := trodVars_none hV
  rw [hp] at hA
  obtain ⟨v0, v1, d0, d1, p0, p1, rfl, rfl, hpp, h0, h1⟩ := trodAll_two hA
  obtain ⟨m, s1, s2, s3, o1, o2, o3, m1, m2, m3, a1, a2, a3, hrel, hh⟩ := house_abs 0 (hval0 0 26 v0 (by rw [hp]; rfl) rfl) h0
  obtain ⟨a, rfl, rfl, rfl, hw1⟩ := open_int und3' (hval0 1 3 v1 (by rw [hp]; rfl) rfl) h1
  have hall : AllOf W [o1, o2, o3] [m1, m2, m3] := ⟨a1, a2, a3, trivial⟩
  have har : ARel (renOf [m1, m2, m3]) ⟨[hv m s1 s2 s3, .int .i64 a]⟩ #[v0, .int .i64 a] := ⟨rfl, fun j h1 h2 => by
    match j, h1 with
    | 0, _ => exact hrel _ rfl rfl rfl
    | 1, _ => exact .int _ _⟩
  have hcalls := hall.calls har (hc _ m s1 s2 s3 a (hh _ rfl rfl rfl) (i64_bd hw1))
  refine Calls.mono hcalls fun e W' h => ⟨_, h.1, ?_⟩
  exact law_post Try.laidOut (fun t ht => by
    rw [hp] at ht
    simp at ht
    rcases ht with rfl | rfl
    · exact ⟨rd26, sz26⟩
    · exact ⟨rd3, sz3⟩) hW' hv0 (by simpa using hs d0 (.lit (.int .i64 a))) hres und4 h.2

set_option maxRecDepth 100000 in
theorem lifted_hii {os : Os} (started : os.Started) {X : Type} {enc : TypeId × Value → X} {f : FuncId} {fn : Func} {s : ChangeSpec} {dom : List PathCond} {apart fresh handsOn again : Bool}
    (hno : Try.checked.prog.inits.idxOf? f = none) (hfn : Try.checked.prog.funcs[f]? = some fn)
    (witness : ∃ (w : World) (tape : Tape) (i : Input), w.os = os ∧ (w.forCall tape i).Shaped Try.checked.prog ∧ i.vars = [] ∧ Input.okWide Try.checked.prog (w.forCall tape i) .any w.heap.size f i ∧
      s.pre6 enc Try.checked.prog fn dom apart (w.forCall tape i).memory i.args ∧ ({} : Assume).holds Try.checked.prog (lone (Frame.enter Try.checked.prog f i.args .normal) [] (w.forCall tape i)))
    (hp : fn.params = #[26, 3, 3]) (hres : fn.resultTypes = #[4]) (hv0 : s.vars = []) (hs : ∀ d0 d1 d2 : DataW X, s.fn X [d0, d1, d2] = { results := [.lit (.bool true)], args := [d0, d1, d2] })
    (hc : ∀ (H : AHeap) (m : HouseM) (s1 s2 s3 : Value) (a b : Int), HouseW H m s1 s2 s3 → (-9223372036854775808 ≤ a ∧ a ≤ 9223372036854775807) → (-9223372036854775808 ≤ b ∧ b ≤ 9223372036854775807) → CallJ Try.prog trivE f [hv m s1 s2 s3, .int .i64 a, .int .i64 b] (fun v H' g' => v = .bool true ∧ H' = H ∧ g' = ()) H ()) :
    ReturnsInHanded {} Try.checked os f .any (s.pre6 enc Try.checked.prog fn dom apart) (s.post enc Try.checked.prog fn apart fresh handsOn again) := by
  refine returnsInHanded_of_change (C := Try.checked) Try.own started hno hfn witness ?_
  intro W base args ds gs before hval0 hW hcnd _
  have hW' := hW
  obtain ⟨p, q, hA, hV, hpe, hfz, hnd⟩ := hW
  rw [hv0] at hV
  obtain ⟨rfl, rfl⟩ := trodVars_none hV
  rw [hp] at hA
  obtain ⟨v0, v1, v2, d0, d1, d2, p0, p1, p2, rfl, rfl, hpp, h0, h1, h2⟩ := trodAll_three hA
  obtain ⟨m, s1, s2, s3, o1, o2, o3, m1, m2, m3, a1, a2, a3, hrel, hh⟩ := house_abs 0 (hval0 0 26 v0 (by rw [hp]; rfl) rfl) h0
  obtain ⟨a, rfl, rfl, rfl, hw1⟩ := open_int und3' (hval0 1 3 v1 (by rw [hp]; rfl) rfl) h1
  obtain ⟨b, rfl, rfl, rfl, hw2⟩ := open_int und3' (hval0 2 3 v2 (by rw [hp]; rfl) rfl) h2
  have hall : AllOf W [o1, o2, o3] [m1, m2, m3] := ⟨a1, a2, a3, trivial⟩
  have har : ARel (renOf [m1, m2, m3]) ⟨[hv m s1 s2 s3, .int .i64 a, .int .i64 b]⟩ #[v0, .int .i64 a, .int .i64 b] := ⟨rfl, fun j h1 h2 => by
    match j, h1 with
    | 0, _ => exact hrel _ rfl rfl rfl
    | 1, _ => exact .int _ _
    | 2, _ => exact .int _ _⟩
  have hcalls := hall.calls har (hc _ m s1 s2 s3 a b (hh _ rfl rfl rfl) (i64_bd hw1) (i64_bd hw2))
  refine Calls.mono hcalls fun e W' h => ⟨_, h.1, ?_⟩
  exact law_post Try.laidOut (fun t ht => by
    rw [hp] at ht
    simp at ht
    rcases ht with rfl | rfl
    · exact ⟨rd26, sz26⟩
    · exact ⟨rd3, sz3⟩) hW' hv0 (by simpa using hs d0 (.lit (.int .i64 a)) (.lit (.int .i64 b))) hres und4 h.2

set_option maxRecDepth 100000 in
theorem lifted_hu {os : Os} (started : os.Started) {X : Type} {enc : TypeId × Value → X} {f : FuncId} {fn : Func} {s : ChangeSpec} {dom : List PathCond} {apart fresh handsOn again : Bool}
    (hno : Try.checked.prog.inits.idxOf? f = none) (hfn : Try.checked.prog.funcs[f]? = some fn)
    (witness : ∃ (w : World) (tape : Tape) (i : Input), w.os = os ∧ (w.forCall tape i).Shaped Try.checked.prog ∧ i.vars = [] ∧ Input.okWide Try.checked.prog (w.forCall tape i) .any w.heap.size f i ∧
      s.pre6 enc Try.checked.prog fn dom apart (w.forCall tape i).memory i.args ∧ ({} : Assume).holds Try.checked.prog (lone (Frame.enter Try.checked.prog f i.args .normal) [] (w.forCall tape i)))
    (hp : fn.params = #[26, 5]) (hres : fn.resultTypes = #[4]) (hv0 : s.vars = []) (hs : ∀ d0 d1 : DataW X, s.fn X [d0, d1] = { results := [.lit (.bool true)], args := [d0, d1] })
    (hc : ∀ (H : AHeap) (m : HouseM) (s1 s2 s3 : Value) (a : Int), HouseW H m s1 s2 s3 → (0 ≤ a ∧ a ≤ 255) → CallJ Try.prog trivE f [hv m s1 s2 s3, .int .u8 a] (fun v H' g' => v = .bool true ∧ H' = H ∧ g' = ()) H ()) :
    ReturnsInHanded {} Try.checked os f .any (s.pre6 enc Try.checked.prog fn dom apart) (s.post enc Try.checked.prog fn apart fresh handsOn again) := by
  refine returnsInHanded_of_change (C := Try.checked) Try.own started hno hfn witness ?_
  intro W base args ds gs before hval0 hW hcnd _
  have hW' := hW
  obtain ⟨p, q, hA, hV, hpe, hfz, hnd⟩ := hW
  rw [hv0] at hV
  obtain ⟨rfl, rfl⟩ := trodVars_none hV
  rw [hp] at hA
  obtain ⟨v0, v1, d0, d1, p0, p1, rfl, rfl, hpp, h0, h1⟩ := trodAll_two hA
  obtain ⟨m, s1, s2, s3, o1, o2, o3, m1, m2, m3, a1, a2, a3, hrel, hh⟩ := house_abs 0 (hval0 0 26 v0 (by rw [hp]; rfl) rfl) h0
  obtain ⟨a, rfl, rfl, rfl, hw1⟩ := open_int und5' (hval0 1 5 v1 (by rw [hp]; rfl) rfl) h1
  have hall : AllOf W [o1, o2, o3] [m1, m2, m3] := ⟨a1, a2, a3, trivial⟩
  have har : ARel (renOf [m1, m2, m3]) ⟨[hv m s1 s2 s3, .int .u8 a]⟩ #[v0, .int .u8 a] := ⟨rfl, fun j h1 h2 => by
    match j, h1 with
    | 0, _ => exact hrel _ rfl rfl rfl
    | 1, _ => exact .int _ _⟩
  have hcalls := hall.calls har (hc _ m s1 s2 s3 a (hh _ rfl rfl rfl) (u8_bd hw1))
  refine Calls.mono hcalls fun e W' h => ⟨_, h.1, ?_⟩
  exact law_post Try.laidOut (fun t ht => by
    rw [hp] at ht
    simp at ht
    rcases ht with rfl | rfl
    · exact ⟨rd26, sz26⟩
    · exact ⟨rd5, sz5⟩) hW' hv0 (by simpa using hs d0 (.lit (.int .u8 a))) hres und4 h.2

set_option maxRecDepth 100000 in
theorem lifted_hw {os : Os} (started : os.Started) {X : Type} {enc : TypeId × Value → X} {f : FuncId} {fn : Func} {s : ChangeSpec} {dom : List PathCond} {apart fresh handsOn again : Bool}
    (hno : Try.checked.prog.inits.idxOf? f = none) (hfn : Try.checked.prog.funcs[f]? = some fn)
    (witness : ∃ (w : World) (tape : Tape) (i : Input), w.os = os ∧ (w.forCall tape i).Shaped Try.checked.prog ∧ i.vars = [] ∧ Input.okWide Try.checked.prog (w.forCall tape i) .any w.heap.size f i ∧
      s.pre6 enc Try.checked.prog fn dom apart (w.forCall tape i).memory i.args ∧ ({} : Assume).holds Try.checked.prog (lone (Frame.enter Try.checked.prog f i.args .normal) [] (w.forCall tape i)))
    (hp : fn.params = #[26, 83]) (hres : fn.resultTypes = #[4]) (hv0 : s.vars = []) (hs : ∀ d0 d1 : DataW X, s.fn X [d0, d1] = { results := [.lit (.bool true)], args := [d0, d1] })
    (hc : ∀ (H : AHeap) (m : HouseM) (s1 s2 s3 : Value) (a : Int), HouseW H m s1 s2 s3 → (0 ≤ a ∧ a ≤ 65535) → CallJ Try.prog trivE f [hv m s1 s2 s3, .int .u16 a] (fun v H' g' => v = .bool true ∧ H' = H ∧ g' = ()) H ()) :
    ReturnsInHanded {} Try.checked os f .any (s.pre6 enc Try.checked.prog fn dom apart) (s.post enc Try.checked.prog fn apart fresh handsOn again) := by
  refine returnsInHanded_of_change (C := Try.checked) Try.own started hno hfn witness ?_
  intro W base args ds gs before hval0 hW hcnd _
  have hW' := hW
  obtain ⟨p, q, hA, hV, hpe, hfz, hnd⟩ := hW
  rw [hv0] at hV
  obtain ⟨rfl, rfl⟩ := trodVars_none hV
  rw [hp] at hA
  obtain ⟨v0, v1, d0, d1, p0, p1, rfl, rfl, hpp, h0, h1⟩ := trodAll_two hA
  obtain ⟨m, s1, s2, s3, o1, o2, o3, m1, m2, m3, a1, a2, a3, hrel, hh⟩ := house_abs 0 (hval0 0 26 v0 (by rw [hp]; rfl) rfl) h0
  obtain ⟨a, rfl, rfl, rfl, hw1⟩ := open_int und83' (hval0 1 83 v1 (by rw [hp]; rfl) rfl) h1
  have hall : AllOf W [o1, o2, o3] [m1, m2, m3] := ⟨a1, a2, a3, trivial⟩
  have har : ARel (renOf [m1, m2, m3]) ⟨[hv m s1 s2 s3, .int .u16 a]⟩ #[v0, .int .u16 a] := ⟨rfl, fun j h1 h2 => by
    match j, h1 with
    | 0, _ => exact hrel _ rfl rfl rfl
    | 1, _ => exact .int _ _⟩
  have hcalls := hall.calls har (hc _ m s1 s2 s3 a (hh _ rfl rfl rfl) (u16_bd hw1))
  refine Calls.mono hcalls fun e W' h => ⟨_, h.1, ?_⟩
  exact law_post Try.laidOut (fun t ht => by
    rw [hp] at ht
    simp at ht
    rcases ht with rfl | rfl
    · exact ⟨rd26, sz26⟩
    · exact ⟨rd83, sz83⟩) hW' hv0 (by simpa using hs d0 (.lit (.int .u16 a))) hres und4 h.2

set_option maxRecDepth 100000 in
theorem lifted_huu {os : Os} (started : os.Started) {X : Type} {enc : TypeId × Value → X} {f : FuncId} {fn : Func} {s : ChangeSpec} {dom : List PathCond} {apart fresh handsOn again : Bool}
    (hno : Try.checked.prog.inits.idxOf? f = none) (hfn : Try.checked.prog.funcs[f]? = some fn)
    (witness : ∃ (w : World) (tape : Tape) (i : Input), w.os = os ∧ (w.forCall tape i).Shaped Try.checked.prog ∧ i.vars = [] ∧ Input.okWide Try.checked.prog (w.forCall tape i) .any w.heap.size f i ∧
      s.pre6 enc Try.checked.prog fn dom apart (w.forCall tape i).memory i.args ∧ ({} : Assume).holds Try.checked.prog (lone (Frame.enter Try.checked.prog f i.args .normal) [] (w.forCall tape i)))
    (hp : fn.params = #[26, 5, 5]) (hres : fn.resultTypes = #[4]) (hv0 : s.vars = []) (hs : ∀ d0 d1 d2 : DataW X, s.fn X [d0, d1, d2] = { results := [.lit (.bool true)], args := [d0, d1, d2] })
    (hc : ∀ (H : AHeap) (m : HouseM) (s1 s2 s3 : Value) (a b : Int), HouseW H m s1 s2 s3 → (0 ≤ a ∧ a ≤ 255) → (0 ≤ b ∧ b ≤ 255) → CallJ Try.prog trivE f [hv m s1 s2 s3, .int .u8 a, .int .u8 b] (fun v H' g' => v = .bool true ∧ H' = H ∧ g' = ()) H ()) :
    ReturnsInHanded {} Try.checked os f .any (s.pre6 enc Try.checked.prog fn dom apart) (s.post enc Try.checked.prog fn apart fresh handsOn again) := by
  refine returnsInHanded_of_change (C := Try.checked) Try.own started hno hfn witness ?_
  intro W base args ds gs before hval0 hW hcnd _
  have hW' := hW
  obtain ⟨p, q, hA, hV, hpe, hfz, hnd⟩ := hW
  rw [hv0] at hV
  obtain ⟨rfl, rfl⟩ := trodVars_none hV
  rw [hp] at hA
  obtain ⟨v0, v1, v2, d0, d1, d2, p0, p1, p2, rfl, rfl, hpp, h0, h1, h2⟩ := trodAll_three hA
  obtain ⟨m, s1, s2, s3, o1, o2, o3, m1, m2, m3, a1, a2, a3, hrel, hh⟩ := house_abs 0 (hval0 0 26 v0 (by rw [hp]; rfl) rfl) h0
  obtain ⟨a, rfl, rfl, rfl, hw1⟩ := open_int und5' (hval0 1 5 v1 (by rw [hp]; rfl) rfl) h1
  obtain ⟨b, rfl, rfl, rfl, hw2⟩ := open_int und5' (hval0 2 5 v2 (by rw [hp]; rfl) rfl) h2
  have hall : AllOf W [o1, o2, o3] [m1, m2, m3] := ⟨a1, a2, a3, trivial⟩
  have har : ARel (renOf [m1, m2, m3]) ⟨[hv m s1 s2 s3, .int .u8 a, .int .u8 b]⟩ #[v0, .int .u8 a, .int .u8 b] := ⟨rfl, fun j h1 h2 => by
    match j, h1 with
    | 0, _ => exact hrel _ rfl rfl rfl
    | 1, _ => exact .int _ _
    | 2, _ => exact .int _ _⟩
  have hcalls := hall.calls har (hc _ m s1 s2 s3 a b (hh _ rfl rfl rfl) (u8_bd hw1) (u8_bd hw2))
  refine Calls.mono hcalls fun e W' h => ⟨_, h.1, ?_⟩
  exact law_post Try.laidOut (fun t ht => by
    rw [hp] at ht
    simp at ht
    rcases ht with rfl | rfl
    · exact ⟨rd26, sz26⟩
    · exact ⟨rd5, sz5⟩) hW' hv0 (by simpa using hs d0 (.lit (.int .u8 a)) (.lit (.int .u8 b))) hres und4 h.2

set_option maxRecDepth 100000 in
theorem lifted_huuw {os : Os} (started : os.Started) {X : Type} {enc : TypeId × Value → X} {f : FuncId} {fn : Func} {s : ChangeSpec} {dom : List PathCond} {apart fresh handsOn again : Bool}
    (hno : Try.checked.prog.inits.idxOf? f = none) (hfn : Try.checked.prog.funcs[f]? = some fn)
    (witness : ∃ (w : World) (tape : Tape) (i : Input), w.os = os ∧ (w.forCall tape i).Shaped Try.checked.prog ∧ i.vars = [] ∧ Input.okWide Try.checked.prog (w.forCall tape i) .any w.heap.size f i ∧
      s.pre6 enc Try.checked.prog fn dom apart (w.forCall tape i).memory i.args ∧ ({} : Assume).holds Try.checked.prog (lone (Frame.enter Try.checked.prog f i.args .normal) [] (w.forCall tape i)))
    (hp : fn.params = #[26, 5, 5, 83]) (hres : fn.resultTypes = #[4]) (hv0 : s.vars = []) (hs : ∀ d0 d1 d2 d3 : DataW X, s.fn X [d0, d1, d2, d3] = { results := [.lit (.bool true)], args := [d0, d1, d2, d3] })
    (hc : ∀ (H : AHeap) (m : HouseM) (s1 s2 s3 : Value) (a b c : Int), HouseW H m s1 s2 s3 → (0 ≤ a ∧ a ≤ 255) → (0 ≤ b ∧ b ≤ 255) → (0 ≤ c ∧ c ≤ 65535) → CallJ Try.prog trivE f [hv m s1 s2 s3, .int .u8 a, .int .u8 b, .int .u16 c] (fun v H' g' => v = .bool true ∧ H' = H ∧ g' = ()) H ()) :
    ReturnsInHanded {} Try.checked os f .any (s.pre6 enc Try.checked.prog fn dom apart) (s.post enc Try.checked.prog fn apart fresh handsOn again) := by
  refine returnsInHanded_of_change (C := Try.checked) Try.own started hno hfn witness ?_
  intro W base args ds gs before hval0 hW hcnd _
  have hW' := hW
  obtain ⟨p, q, hA, hV, hpe, hfz, hnd⟩ := hW
  rw [hv0] at hV
  obtain ⟨rfl, rfl⟩ := trodVars_none hV
  rw [hp] at hA
  obtain ⟨v0, v1, v2, v3, d0, d1, d2, d3, p0, p1, p2, p3, rfl, rfl, hpp, h0, h1, h2, h3⟩ := trodAll_four hA
  obtain ⟨m, s1, s2, s3, o1, o2, o3, m1, m2, m3, a1, a2, a3, hrel, hh⟩ := house_abs 0 (hval0 0 26 v0 (by rw [hp]; rfl) rfl) h0
  obtain ⟨a, rfl, rfl, rfl, hw1⟩ := open_int und5' (hval0 1 5 v1 (by rw [hp]; rfl) rfl) h1
  obtain ⟨b, rfl, rfl, rfl, hw2⟩ := open_int und5' (hval0 2 5 v2 (by rw [hp]; rfl) rfl) h2
  obtain ⟨c, rfl, rfl, rfl, hw3⟩ := open_int und83' (hval0 3 83 v3 (by rw [hp]; rfl) rfl) h3
  have hall : AllOf W [o1, o2, o3] [m1, m2, m3] := ⟨a1, a2, a3, trivial⟩
  have har : ARel (renOf [m1, m2, m3]) ⟨[hv m s1 s2 s3, .int .u8 a, .int .u8 b, .int .u16 c]⟩ #[v0, .int .u8 a, .int .u8 b, .int .u16 c] := ⟨rfl, fun j h1 h2 => by
    match j, h1 with
    | 0, _ => exact hrel _ rfl rfl rfl
    | 1, _ => exact .int _ _
    | 2, _ => exact .int _ _
    | 3, _ => exact .int _ _⟩
  have hcalls := hall.calls har (hc _ m s1 s2 s3 a b c (hh _ rfl rfl rfl) (u8_bd hw1) (u8_bd hw2) (u16_bd hw3))
  refine Calls.mono hcalls fun e W' h => ⟨_, h.1, ?_⟩
  exact law_post Try.laidOut (fun t ht => by
    rw [hp] at ht
    simp at ht
    rcases ht with rfl | rfl | rfl
    · exact ⟨rd26, sz26⟩
    · exact ⟨rd5, sz5⟩
    · exact ⟨rd83, sz83⟩) hW' hv0 (by simpa using hs d0 (.lit (.int .u8 a)) (.lit (.int .u8 b)) (.lit (.int .u16 c))) hres und4 h.2
end Go.Proofs.Ytehobnpoeodhkaa
