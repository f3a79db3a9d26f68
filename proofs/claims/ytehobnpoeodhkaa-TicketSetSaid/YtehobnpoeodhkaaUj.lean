import Derived.Test.YtehobnpoeodhkaaUd
import Derived.Test.YtehobnpoeodhkaaUf
import Derived.Test.YtehobnpoeodhkaaTw
import Derived.Test.YtehobnpoeodhkaaSq
namespace Go.Proofs.Ytehobnpoeodhkaa
open Go Go.Abs Go.Proofs
set_option maxHeartbeats 8000000
set_option maxRecDepth 20000
attribute [local irreducible] CallJ OpsJ WPJ CallV MonoJ SpecJ

theorem flat_setY {α : Type} {enc : α → List Value} {w : Nat} (hw : ∀ a, (enc a).length = w) : ∀ (l : List α) (k : Nat) (a : α), k < l.length → splice (l.map enc).flatten (k * w) (enc a) = ((l.set k a).map enc).flatten
  | [], k, a, h => by simp at h
  | x :: l, 0, a, h => by
    have := hw x
    have := hw a
    simp [splice, *]
  | x :: l, k + 1, a, h => by
    have h1 := hw x
    have h2 := hw a
    have ih := flat_setY hw l k a (by simpa using h)
    unfold splice at ih ⊢
    simp only [List.map_cons, List.flatten_cons, List.set_cons_succ]
    have e1 : (k + 1) * w = (enc x).length + k * w := by rw [h1, Nat.add_mul, Nat.one_mul, Nat.add_comm]
    rw [← ih, e1, List.take_length_add_append, Nat.add_assoc, List.drop_length_add_append]
    simp [List.append_assoc]
theorem flat_get31 : ∀ (l : List ClipM) {k : Nat} {c : ClipM}, l[k]? = some c → (l.map encC).flatten[k * 3 + 1]? = some (.int .i64 c.clock)
  | x :: l, 0, c, h => by
    simp at h; subst h; simp [encC]
  | x :: l, k + 1, c, h => by
    have ih := flat_get31 l (k := k) (c := c) (by simpa using h)
    rw [show (k + 1) * 3 + 1 = (k * 3 + 1) + 3 by omega]
    simpa [encC] using ih
theorem flat_get32 : ∀ (l : List ClipM) {k : Nat} {c : ClipM}, l[k]? = some c → (l.map encC).flatten[k * 3 + 2]? = some (.int .i64 c.minute)
  | x :: l, 0, c, h => by
    simp at h; subst h; simp [encC]
  | x :: l, k + 1, c, h => by
    have ih := flat_get32 l (k := k) (c := c) (by simpa using h)
    rw [show (k + 1) * 3 + 2 = (k * 3 + 2) + 3 by omega]
    simpa [encC] using ih
theorem flat_set32 : ∀ (l : List ClipM) {k : Nat} {c : ClipM} {x : Int}, l[k]? = some c → (l.map encC).flatten.set (k * 3 + 2) (.int .i64 x) = ((l.set k { c with minute := x }).map encC).flatten
  | y :: l, 0, c, x, h => by
    simp at h; subst h; simp [encC]
  | y :: l, k + 1, c, x, h => by
    have ih := flat_set32 l (k := k) (c := c) (x := x) (by simpa using h)
    rw [show (k + 1) * 3 + 2 = (k * 3 + 2) + 3 by omega]
    simp only [List.map_cons, List.flatten_cons, List.set_cons_succ, encC, List.cons_append, List.nil_append] at ih ⊢
    rw [ih]
theorem set_sameY {α : Type} : ∀ (l : List α) {k : Nat} {c : α}, l[k]? = some c → l.set k c = l
  | y :: l, 0, c, h => by simp at h; subst h; rfl
  | y :: l, k + 1, c, h => by
    have ih := set_sameY l (k := k) (c := c) (by simpa using h)
    simp [ih]
section
variable {γ : Type} (E : Env γ) (g : γ) (H : AHeap)
theorem ints_sameY (sv tv : Value) (a : List Int) (ha : RdS H sv 1 (encI a)) (hb : RdS H tv 1 (encI a)) (hn : a.length ≤ 1000000) : CallJ Try.prog E 54 [sv, tv] (fun v H' g' => v = .bool true ∧ H' = H ∧ g' = g) H g :=
  (ints_spec E g H sv tv a a ha hb hn hn).mono (by rintro v H' g' ⟨rfl, rfl, rfl⟩; exact ⟨by rw [decide_eq_true rfl], rfl, rfl⟩)
theorem set_law (m : HouseM) (s1 s2 s3 : Value) (a b : Int) (hm : HouseW H m s1 s2 s3) (ha : 0 ≤ a ∧ a ≤ 255) (hb8 : 0 ≤ b ∧ b ≤ 255) : CallJ Try.prog E 14 [hv m s1 s2 s3, .int .u8 a, .int .u8 b] (fun v H' g' => v = .bool true ∧ H' = H ∧ g' = g) H g := by
  have hok : [Value.int .i64 m.hour, Value.int .i64 m.grace, s1, s2, s3].all cellOk = true := by have := hm.ok; simp [cellOk] at this ⊢; exact this
  have hwa : IntKind.i64.wrap a = a := wrap64_eq ⟨by omega, by omega⟩
  have hwb : IntKind.i64.wrap b = b := wrap64_eq ⟨by omega, by omega⟩
  refine CallJ.tidy ?_
  unfold hv
  refine CallJ.enter Try.func14 rfl (by simp only [Try.ntmps14, List.length_cons, List.length_nil, Nat.zero_add, Nat.reduceAdd, Nat.reduceSub, List.replicate_succ, List.replicate_zero, List.cons_append, List.nil_append]; rfl) ?_
  repeat' (first
    | (refine is_ucall ?_; first
      | refine st_callP (h := readyW_spec _ _ _ m s1 s2 s3 (hm.ext extA)) (k := ?_)
      | refine st_callP (h := awake_spec _ _ _) (k := ?_)
      | fail)
    | (refine is_umcall ?_; first
      | refine mj_callP (h := readyW_spec _ _ _ m s1 s2 s3 (hm.ext extA)) (k := ?_)
      | refine mj_callP (h := awake_spec _ _ _) (k := ?_)
      | fail)
    | refine W1 ?_ | refine Wc ?_ | refine W2c ?_ ?_ | refine Wg ?_ | refine W2 ?_ ?_ | exact Wdead | refine Wlive (fun hb => ?_) | intro _ _ _ _ _ _ _ _ | refine We ?_ | refine Wx ?_ | refine Wt ?_ | refine Wm ?_ | refine W2m ?_ ?_ | refine Wl ?_
    | fail)
  · have hr : thinS m = true ∧ checkS m = 0 := by assumption
    have hI := hm.is hr.1
    have hsc := hI.clocks
    have hst := hI.clips
    have hG := good_of hr.2
    have hn1 := hG.n1
    have hn3 := hG.n3
    repeat' (first
      | (refine is_ucall ?_; first
        | refine st_callP (h := readyW_spec _ _ _ m s1 s2 s3 (hm.ext extA)) (k := ?_)
        | refine st_callP (h := awake_spec _ _ _) (k := ?_)
        | fail)
      | (refine is_umcall ?_; first
        | refine mj_callP (h := readyW_spec _ _ _ m s1 s2 s3 (hm.ext extA)) (k := ?_)
        | refine mj_callP (h := awake_spec _ _ _) (k := ?_)
        | fail)
      | refine W1 ?_ | refine Wc ?_ | refine W2c ?_ ?_ | refine Wg ?_ | refine W2 ?_ ?_ | exact Wdead | refine Wlive (fun hb => ?_) | intro _ _ _ _ _ _ _ _ | refine We ?_ | refine Wx ?_ | refine Wt ?_ | refine Wm ?_ | refine W2m ?_ ?_ | refine Wl ?_
      | fail)
    · exact ⟨rfl, rfl, rfl⟩
    have hl0 : 0 < m.clocks.length := by omega
    have hne : m.clocks ≠ [] := fun e => by rw [e] at hl0; simp at hl0
    obtain ⟨k, hk, hkl⟩ : ∃ k : Nat, IntKind.i64.wrap a % (m.clocks.length : Int) = k ∧ k < m.clocks.length := by
      have h0 : 0 ≤ IntKind.i64.wrap a % (m.clocks.length : Int) := Int.emod_nonneg _ (by omega)
      have h1 : IntKind.i64.wrap a % (m.clocks.length : Int) < m.clocks.length := Int.emod_lt_of_pos _ (by omega)
      exact ⟨(IntKind.i64.wrap a % (m.clocks.length : Int)).toNat, by omega, by omega⟩
    obtain ⟨n, hn⟩ : ∃ n, IntKind.i64.wrap b % 9 - 4 = n := ⟨_, rfl⟩
    have hnb : -4 ≤ n ∧ n ≤ 4 := by omega
    rw [hk, hn]
    obtain ⟨Hc, hHc⟩ : ∃ Hc : AHeap, Hc = H ++ [AObj.row [.int .i64 m.hour, .int .i64 m.grace, s1, s2, s3] 1 true, .row [.int .i64 m.hour, .int .i64 m.grace, s1, s2, s3] 1 true] := ⟨_, rfl⟩
    have hNc : Hc.length = H.length + 2 := by rw [hHc]; simp
    have hc0 : Hc[H.length]? = some (.row [.int .i64 m.hour, .int .i64 m.grace, s1, s2, s3] 1 true) := by rw [hHc]; exact get_new0 rfl
    have hc1 : Hc[H.length + 1]? = some (.row [.int .i64 m.hour, .int .i64 m.grace, s1, s2, s3] 1 true) := by rw [hHc]; exact get_new rfl
    have hcx : Ext H Hc := by rw [hHc]; exact ⟨_, rfl⟩
    rw [← hHc]
    have hsc5 := hsc.ext hcx
    have hst5 := hst.ext hcx
    obtain ⟨LB, oB, jB, cB, hBL, hBf, hBc⟩ : ∃ (LB : AHeap) (oB : AObj) (jB cB : Nat), LB.all ownRow = true ∧ flatRow oB = true ∧
        ((m.clips = [] ∧ jB = H.length + 4 ∧ cB = 0 ∧ LB = [] ∧ oB = .row [] 3 true) ∨ (m.clips ≠ [] ∧ jB = H.length + 5 ∧ cB = m.clips.length ∧ LB = [.row (m.clips.map encC).flatten 3 true] ∧ oB = .dead)) := by
      by_cases he : m.clips = []
      · exact ⟨_, _, _, _, rfl, rfl, .inl ⟨he, rfl, rfl, rfl, rfl⟩⟩
      · exact ⟨_, _, _, _, rfl, rfl, .inr ⟨he, rfl, rfl, rfl, rfl⟩⟩
    have e3 : HK [(.slice (some ⟨H.length + 2, 0, none⟩) 0 0, [.row [] 2 true]), (.pointer (some ⟨H.length, 0 + 2, none⟩), []), (s1, []), (.slice (some ⟨H.length + 3, 0, none⟩) m.clocks.length m.clocks.length, [.row (m.clocks.map encR).flatten 2 true]), (.slice (some ⟨H.length + 4, 0, none⟩) 0 0, [.row [] 3 true]), (.pointer (some ⟨H.length, 0 + 4, none⟩), []), (s3, []), (.slice (some ⟨jB, 0, none⟩) m.clips.length cB, LB), (.pointer (some ⟨H.length + 1, 0 + 2, none⟩), [])] Hc 3 = Hc ++ [.row [] 2 true] := by simp [HK, lD]
    have e4 : HK [(.slice (some ⟨H.length + 2, 0, none⟩) 0 0, [.row [] 2 true]), (.pointer (some ⟨H.length, 0 + 2, none⟩), []), (s1, []), (.slice (some ⟨H.length + 3, 0, none⟩) m.clocks.length m.clocks.length, [.row (m.clocks.map encR).flatten 2 true]), (.slice (some ⟨H.length + 4, 0, none⟩) 0 0, [.row [] 3 true]), (.pointer (some ⟨H.length, 0 + 4, none⟩), []), (s3, []), (.slice (some ⟨jB, 0, none⟩) m.clips.length cB, LB), (.pointer (some ⟨H.length + 1, 0 + 2, none⟩), [])] Hc 4 = Hc ++ [.row [] 2 true, .row (m.clocks.map encR).flatten 2 true] := by simp [HK, lD]
    have e7 : HK [(.slice (some ⟨H.length + 2, 0, none⟩) 0 0, [.row [] 2 true]), (.pointer (some ⟨H.length, 0 + 2, none⟩), []), (s1, []), (.slice (some ⟨H.length + 3, 0, none⟩) m.clocks.length m.clocks.length, [.row (m.clocks.map encR).flatten 2 true]), (.slice (some ⟨H.length + 4, 0, none⟩) 0 0, [.row [] 3 true]), (.pointer (some ⟨H.length, 0 + 4, none⟩), []), (s3, []), (.slice (some ⟨jB, 0, none⟩) m.clips.length cB, LB), (.pointer (some ⟨H.length + 1, 0 + 2, none⟩), [])] Hc 7 = Hc ++ [.row [] 2 true, .row (m.clocks.map encR).flatten 2 true, .row [] 3 true] := by simp [HK, lD]
    have e5 : HK [(.slice (some ⟨H.length + 2, 0, none⟩) 0 0, [.row [] 2 true]), (.pointer (some ⟨H.length, 0 + 2, none⟩), []), (s1, []), (.slice (some ⟨H.length + 3, 0, none⟩) m.clocks.length m.clocks.length, [.row (m.clocks.map encR).flatten 2 true]), (.slice (some ⟨H.length + 4, 0, none⟩) 0 0, [.row [] 3 true]), (.pointer (some ⟨H.length, 0 + 4, none⟩), []), (s3, []), (.slice (some ⟨jB, 0, none⟩) m.clips.length cB, LB), (.pointer (some ⟨H.length + 1, 0 + 2, none⟩), [])] Hc 5 = Hc ++ [.row [] 2 true, .row (m.clocks.map encR).flatten 2 true, .row [] 3 true] := by simp [HK, lD]
    have e6 : HK [(.slice (some ⟨H.length + 2, 0, none⟩) 0 0, [.row [] 2 true]), (.pointer (some ⟨H.length, 0 + 2, none⟩), []), (s1, []), (.slice (some ⟨H.length + 3, 0, none⟩) m.clocks.length m.clocks.length, [.row (m.clocks.map encR).flatten 2 true]), (.slice (some ⟨H.length + 4, 0, none⟩) 0 0, [.row [] 3 true]), (.pointer (some ⟨H.length, 0 + 4, none⟩), []), (s3, []), (.slice (some ⟨jB, 0, none⟩) m.clips.length cB, LB), (.pointer (some ⟨H.length + 1, 0 + 2, none⟩), [])] Hc 6 = Hc ++ [.row [] 2 true, .row (m.clocks.map encR).flatten 2 true, .row [] 3 true] := by simp [HK, lD]
    have e8 : HK [(.slice (some ⟨H.length + 2, 0, none⟩) 0 0, [.row [] 2 true]), (.pointer (some ⟨H.length, 0 + 2, none⟩), []), (s1, []), (.slice (some ⟨H.length + 3, 0, none⟩) m.clocks.length m.clocks.length, [.row (m.clocks.map encR).flatten 2 true]), (.slice (some ⟨H.length + 4, 0, none⟩) 0 0, [.row [] 3 true]), (.pointer (some ⟨H.length, 0 + 4, none⟩), []), (s3, []), (.slice (some ⟨jB, 0, none⟩) m.clips.length cB, LB), (.pointer (some ⟨H.length + 1, 0 + 2, none⟩), [])] Hc 8 = Hc ++ [.row [] 2 true, .row (m.clocks.map encR).flatten 2 true, .row [] 3 true] ++ LB := by simp [HK, lD]
    have e9 : HK [(.slice (some ⟨H.length + 2, 0, none⟩) 0 0, [.row [] 2 true]), (.pointer (some ⟨H.length, 0 + 2, none⟩), []), (s1, []), (.slice (some ⟨H.length + 3, 0, none⟩) m.clocks.length m.clocks.length, [.row (m.clocks.map encR).flatten 2 true]), (.slice (some ⟨H.length + 4, 0, none⟩) 0 0, [.row [] 3 true]), (.pointer (some ⟨H.length, 0 + 4, none⟩), []), (s3, []), (.slice (some ⟨jB, 0, none⟩) m.clips.length cB, LB), (.pointer (some ⟨H.length + 1, 0 + 2, none⟩), [])] Hc 9 = Hc ++ [.row [] 2 true, .row (m.clocks.map encR).flatten 2 true, .row [] 3 true] ++ LB := by simp [HK, lD]
    refine WPJ.drawP 9 [3, 7] [(.slice (some ⟨H.length + 2, 0, none⟩) 0 0, [.row [] 2 true]), (.pointer (some ⟨H.length, 0 + 2, none⟩), []), (s1, []), (.slice (some ⟨H.length + 3, 0, none⟩) m.clocks.length m.clocks.length, [.row (m.clocks.map encR).flatten 2 true]), (.slice (some ⟨H.length + 4, 0, none⟩) 0 0, [.row [] 3 true]), (.pointer (some ⟨H.length, 0 + 4, none⟩), []), (s3, []), (.slice (some ⟨jB, 0, none⟩) m.clips.length cB, LB), (.pointer (some ⟨H.length + 1, 0 + 2, none⟩), [])] mixed (by kernel_rfl) (by kernel_rfl) (by kernel_rfl) (by decide) ?_
    refine PhJ.next [0, 1, 2, 4, 5, 6] (H.length + 2) (.row [] 2 true) .dead (by kernel_rfl) (by decide) (by kernel_rfl) ?_ ?_ rfl rfl ?_ ?_
    · exact ⟨⟨_, rfl, sm_buildE hNc⟩, ⟨_, rfl, sm_fieldAddr rfl⟩, ⟨_, rfl, sm_load1 rfl rfl (hk_old hc0 2) rfl⟩, ⟨_, rfl, sm_buildE (by rw [e4]; simp [hNc])⟩, ⟨_, rfl, sm_fieldAddr rfl⟩, ⟨_, rfl, sm_load1 rfl rfl (hk_old hc0 6) rfl⟩, trivial⟩
    · rw [e3, List.getElem?_append_right (by omega)]; simp [hNc]
    · exact ⟨_, rfl, spec_appendCopy hsc5 hne (fun i o h => hk_old h 3) rfl (fun _ => rfl) rfl (by rw [e3, List.getElem?_append_right (by omega)]; simp [hNc]) rfl (by omega) (by decide) (by rw [e3]; simp [hNc])⟩
    refine PhJ.next [4, 5, 6, 8] (H.length + 4) (.row [] 3 true) oB (by kernel_rfl) (by decide) (by kernel_rfl) ?_ ?_ rfl hBf ?_ ?_
    · exact ⟨⟨_, rfl, chg_step (by rw [e4]; simp [hNc]) (sm_buildE (by rw [e4]; simp [hNc]))⟩, ⟨_, rfl, chg_step (by rw [e5]; simp [hNc]) (sm_fieldAddr rfl)⟩, ⟨_, rfl, chg_step (by rw [e6]; simp [hNc]) (sm_load1 rfl rfl (get_setne (by omega) (hk_old hc0 6)) rfl)⟩, ⟨_, rfl, chg_step (by rw [e8]; simp only [List.length_append, List.length_cons, List.length_nil]; omega) (sm_fieldAddr rfl)⟩, trivial⟩
    · rw [chgD_HK, e7, List.getElem?_set_ne (by omega), List.getElem?_append_right (by omega)]; simp [hNc]
    · refine ⟨_, rfl, chg_spec (by rw [e7]; simp [hNc]) ?_⟩
      have hg : (List.set (HK [(.slice (some ⟨H.length + 2, 0, none⟩) 0 0, [.row [] 2 true]), (.pointer (some ⟨H.length, 0 + 2, none⟩), []), (s1, []), (.slice (some ⟨H.length + 3, 0, none⟩) m.clocks.length m.clocks.length, [.row (m.clocks.map encR).flatten 2 true]), (.slice (some ⟨H.length + 4, 0, none⟩) 0 0, [.row [] 3 true]), (.pointer (some ⟨H.length, 0 + 4, none⟩), []), (s3, []), (.slice (some ⟨jB, 0, none⟩) m.clips.length cB, LB), (.pointer (some ⟨H.length + 1, 0 + 2, none⟩), [])] Hc 7) (H.length + 2) .dead)[H.length + 4]? = some (.row [] 3 true) := by rw [e7, List.getElem?_set_ne (by omega), List.getElem?_append_right (by omega)]; simp [hNc]
      have hl7 : (List.set (HK [(.slice (some ⟨H.length + 2, 0, none⟩) 0 0, [.row [] 2 true]), (.pointer (some ⟨H.length, 0 + 2, none⟩), []), (s1, []), (.slice (some ⟨H.length + 3, 0, none⟩) m.clocks.length m.clocks.length, [.row (m.clocks.map encR).flatten 2 true]), (.slice (some ⟨H.length + 4, 0, none⟩) 0 0, [.row [] 3 true]), (.pointer (some ⟨H.length, 0 + 4, none⟩), []), (s3, []), (.slice (some ⟨jB, 0, none⟩) m.clips.length cB, LB), (.pointer (some ⟨H.length + 1, 0 + 2, none⟩), [])] Hc 7) (H.length + 2) .dead).length = H.length + 5 := by rw [List.length_set, e7]; simp [hNc]
      rcases hBc with ⟨he, rfl, rfl, rfl, rfl⟩ | ⟨he, rfl, rfl, rfl, rfl⟩
      · have hst0 := hst5
        rw [he] at hst0
        exact spec_appendNone (k := m.clips.length) (by rw [he]; rfl) hst0 rfl hg rfl
      · exact spec_appendCopy hst5 he (fun i o h => by
          by_cases e : H.length + 2 = i
          · have := (List.getElem?_eq_some_iff.1 h).1; omega
          · exact get_setne e (hk_old h 7)) rfl (fun _ => rfl) rfl hg rfl (by omega) (by decide) hl7
    refine PhJ.last [8] (by kernel_rfl) ⟨⟨_, rfl, chg_step (by rw [HK_chg_len, e8]; simp only [List.length_append, List.length_cons, List.length_nil]; omega) ?_⟩, trivial⟩ ?_
    · rw [chgD_v, chgD_TK, chgD_l, show ∀ n, (if n ≤ H.length + 2 then (lD _ 8).set _ _ else lD _ 8) = ([] : AHeap) from fun n => by split <;> rfl]
      exact sm_fieldAddr rfl
    rw [chgD_TK, chgD_TK, chgD_HK, chgD_HK, e9]
    obtain ⟨H5, hH5⟩ : ∃ H5 : AHeap, H5 = List.set (List.set (Hc ++ [AObj.row [] 2 true, .row (m.clocks.map encR).flatten 2 true, .row [] 3 true] ++ LB) (H.length + 2) .dead) (H.length + 4) oB := ⟨_, rfl⟩
    rw [← hH5]
    have f0 : H5[H.length]? = some (.row [.int .i64 m.hour, .int .i64 m.grace, s1, s2, s3] 1 true) := by rw [hH5]; exact get_setne (by omega) (get_setne (by omega) (get_old (get_old hc0)))
    have f1 : H5[H.length + 1]? = some (.row [.int .i64 m.hour, .int .i64 m.grace, s1, s2, s3] 1 true) := by rw [hH5]; exact get_setne (by omega) (get_setne (by omega) (get_old (get_old hc1)))
    have f3 : H5[H.length + 3]? = some (.row (m.clocks.map encR).flatten 2 true) := by
      rw [hH5]
      refine get_setne (by omega) (get_setne (by omega) (get_old ?_))
      rw [List.getElem?_append_right (by omega), show H.length + 3 - Hc.length = 1 by omega]; rfl
    have x5 : Ext H H5 := by rw [hH5]; exact Ext.set (Ext.set ((hcx.app _).app _) (by omega) _) (by omega) _
    have fB : H5[jB]? = some (.row (m.clips.map encC).flatten 3 true) := by
      rw [hH5]
      rcases hBc with ⟨he, rfl, rfl, rfl, rfl⟩ | ⟨he, rfl, rfl, rfl, rfl⟩
      · rw [he, List.append_nil, List.getElem?_set_self (by simp [hNc])]; rfl
      · refine get_setne (by omega) (get_setne (by omega) ?_)
        rw [List.getElem?_append_right (by simp [hNc]), show H.length + 5 - (Hc ++ [AObj.row [] 2 true, .row (m.clocks.map encR).flatten 2 true, .row [] 3 true]).length = 0 by simp [hNc]]; rfl
    have hjB : H.length + 4 ≤ jB := by rcases hBc with ⟨_, h, _⟩ | ⟨_, h, _⟩ <;> omega
    clear hBc hH5 hBL hBf e3 e4 e5 e6 e7 e8 e9 hHc hc0 hc1 hcx hsc5 hst5 hNc
    have hrk : m.clocks[k]? = some (m.clocks[k].1, m.clocks[k].2) := by rw [List.getElem?_eq_getElem hkl]
    have hel : (m.clocks.map encR)[(k : Int).toNat]? = some (encR m.clocks[k]) := by simp [hkl]
    have hfl : (m.clocks.map encR).flatten.length = m.clocks.length * 2 := flatten_lenG encR_len _
    have hcr := hG.clock _ (List.getElem_mem hkl)
    have hsp : ∀ p q : Int, List.take (k * 2) (m.clocks.map encR).flatten ++ .int .i64 p :: .int .i64 q :: List.drop (k * 2 + 2) (m.clocks.map encR).flatten = ((m.clocks.set k (p, q)).map encR).flatten := fun p q => by
      have := flat_setY (enc := encR) (w := 2) (fun _ => rfl) m.clocks k (p, q) hkl
      rw [← this]
      simp [splice, encR]
    have hshk : m.clocks.set k (m.clocks[k].1 + n, m.clocks[k].2 + n) = (setM m k n).clocks := by simp [setM, shR, List.getD, hkl]
    generalize m.clocks[k] = r at *
    refine OpsJ.norm (by simp only [TK, dstA, vD, List.getElem?_toArray, List.getElem?_cons_zero, List.getElem?_cons_succ, Option.map_some, Option.getD_some, Option.bind_some, putT, List.set_cons_succ, List.set_cons_zero]; rfl) rfl ?_
    clear oB LB
    repeat' (first
      | (refine is_ucall ?_; first
        | refine st_callP (h := readyW_spec _ _ _ m s1 s2 s3 (hm.ext extA)) (k := ?_)
        | refine st_callP (h := awake_spec _ _ _) (k := ?_)
        | fail)
      | (refine is_umcall ?_; first
        | refine mj_callP (h := readyW_spec _ _ _ m s1 s2 s3 (hm.ext extA)) (k := ?_)
        | refine mj_callP (h := awake_spec _ _ _) (k := ?_)
        | fail)
      | refine W1 ?_ | refine Wc ?_ | refine W2c ?_ ?_ | refine Wg ?_ | refine W2 ?_ ?_ | exact Wdead | refine Wlive (fun hb => ?_) | intro _ _ _ _ _ _ _ _ | refine We ?_ | refine Wx ?_ | refine Wt ?_ | refine Wm ?_ | refine W2m ?_ ?_ | refine Wl ?_
      | fail)
    refine WPJ.draw 21 mixed (by kernel_rfl) (by kernel_rfl) (by kernel_rfl) (by decide) ?_
    refine MonoJ.normA ?_
    repeat' (first
      | (refine is_ucall ?_; first
        | refine st_callP (h := readyW_spec _ _ _ m s1 s2 s3 (hm.ext extA)) (k := ?_)
        | refine st_callP (h := awake_spec _ _ _) (k := ?_)
        | fail)
      | (refine is_umcall ?_; first
        | refine mj_callP (h := readyW_spec _ _ _ m s1 s2 s3 (hm.ext extA)) (k := ?_)
        | refine mj_callP (h := awake_spec _ _ _) (k := ?_)
        | fail)
      | refine W1 ?_ | refine Wc ?_ | refine W2c ?_ ?_ | refine Wg ?_ | refine W2 ?_ ?_ | exact Wdead | refine Wlive (fun hb => ?_) | intro _ _ _ _ _ _ _ _ | refine We ?_ | refine Wx ?_ | refine Wt ?_ | refine Wm ?_ | refine W2m ?_ ?_ | refine Wl ?_
      | fail)
    rw [hsp, hshk]
    clear hsp hshk
    refine WPJ.loopT m.clips.length [87, 88, 89, 90, 91, 92, 93, 94, 95, 96, 97, 98, 99, 100, 101, 102, 103, 104, 105, 106, 107, 108, 109, 110, 111] (fun i (_ : Unit) => [(10, .int .i64 i)])
      (fun i _ Hx gx => gx = g ∧ Ext H Hx ∧ Hx[H.length]? = some (.row [.int .i64 m.hour, .int .i64 m.grace, s1, s2, s3] 1 true) ∧ Hx[H.length + 1]? = some (.row [.int .i64 m.hour, .int .i64 m.grace, .slice (some ⟨H.length + 3, 0, none⟩) m.clocks.length m.clocks.length, s2, .slice (some ⟨jB, 0, none⟩) m.clips.length cB] 1 true) ∧ Hx[H.length + 3]? = some (.row ((setM m k n).clocks.map encR).flatten 2 true) ∧ Hx[jB]? = some (.row ((setF (shC k n) m.clips i).map encC).flatten 3 true)) 0 () (Nat.zero_le _)
      (by intro p hp; simp at hp; rcases hp with rfl; rfl) ⟨rfl, extA, getA, getA, getA, by rw [setF_zero]; exact getA⟩ ?_
    rintro i _ Hx gx hi ⟨rfl, hex, hbx, hcx, hdx, hjx⟩ hlx0
    simp only [updT, maskT, List.set_cons_zero, List.set_cons_succ]
    have hjl := (List.getElem?_eq_some_iff.1 hjx).1
    rcases Nat.lt_or_ge i m.clips.length with hlt | hge
    · have hat := setF_at (shC k n) m.clips hlt
      have hc1 := flat_get31 _ hat
      have hc2 := flat_get32 _ hat
      have hfl3 : ((setF (shC k n) m.clips i).map encC).flatten.length = m.clips.length * 3 := by rw [flatten_lenG encC_len, setF_len]
      have hcb := hG.clip _ (List.getElem_mem hlt)
      have hset : m.clips[i].clock = (k : Int) → ((setF (shC k n) m.clips i).map encC).flatten.set (i * 3 + 2) (.int .i64 (m.clips[i].minute + n)) = ((setF (shC k n) m.clips (i + 1)).map encC).flatten := fun h => by
        rw [setF_step _ _ hlt]
        unfold shC
        rw [if_pos h]
        exact flat_set32 _ hat
      have hkeep : m.clips[i].clock ≠ (k : Int) → setF (shC k n) m.clips (i + 1) = setF (shC k n) m.clips i := fun h => by
        rw [setF_step _ _ hlt]
        conv => lhs; arg 3; unfold shC
        rw [if_neg h]
        exact set_sameY _ hat
      generalize m.clips[i] = c0 at *
      repeat' (first
        | (refine is_ucall ?_; first
          | refine st_callP (h := readyW_spec _ _ _ m s1 s2 s3 (hm.ext extA)) (k := ?_)
          | refine st_callP (h := awake_spec _ _ _) (k := ?_)
          | fail)
        | (refine is_umcall ?_; first
          | refine mj_callP (h := readyW_spec _ _ _ m s1 s2 s3 (hm.ext extA)) (k := ?_)
          | refine mj_callP (h := awake_spec _ _ _) (k := ?_)
          | fail)
        | refine W1 ?_ | refine Wc ?_ | refine W2c ?_ ?_ | refine Wg ?_ | refine W2 ?_ ?_ | exact Wdead | refine Wlive (fun hb => ?_) | intro _ _ _ _ _ _ _ _ | refine We ?_ | refine Wx ?_ | refine Wt ?_ | refine Wm ?_ | refine W2m ?_ ?_ | refine Wl ?_
        | fail)
      · have hq : c0.clock = (k : Int) := by assumption
        exact ⟨(), hlt, (by repeat' (first | exact Weak.nil | refine Weak.wild ?_ | refine Weak.same ?_ | refine Weak.intEq (by first | omega | (simp; done) | (push_cast; omega)) ?_)), rfl, extA, getA, getA, getA, by rw [← hset hq]; exact getA⟩
      · have hq : ¬ c0.clock = (k : Int) := by assumption
        exact ⟨(), hlt, (by repeat' (first | exact Weak.nil | refine Weak.wild ?_ | refine Weak.same ?_ | refine Weak.intEq (by first | omega | (simp; done) | (push_cast; omega)) ?_)), rfl, extA, getA, getA, getA, by rw [hkeep hq]; exact getA⟩
    obtain rfl : i = m.clips.length := by omega
    rw [setF_all] at hjx
    have hcc : ∀ c ∈ m.clips, 0 ≤ c.clock := fun c h => (hG.clip c h).2.1.1
    have hYx : HouseY Hx (setM m k n) (.slice (some ⟨H.length + 3, 0, none⟩) m.clocks.length m.clocks.length) s2 (.slice (some ⟨jB, 0, none⟩) m.clips.length cB) := by
      have h1 := rowY (c := m.clocks.length) encR_len hdx
      have h2 := rowY (c := cB) encC_len hjx
      have hok3 := hI.ok
      rw [show (setM m k n).clocks.length = m.clocks.length by simp [setM]] at h1
      rw [List.length_map] at h2
      refine ⟨h1, hI.tickets.ext hex, h2, ?_, by simp [setM]; omega, hI.n2, by simp [setM]; omega⟩
      simp [cellOk] at hok3 ⊢
      exact hok3.2.1
    repeat' (first
      | (refine is_ucall ?_; first
        | refine st_callP (h := readyW_spec _ _ _ m s1 s2 s3 (hm.ext extA)) (k := ?_)
        | refine st_callP (h := awake_spec _ _ _) (k := ?_)
        | fail)
      | (refine is_umcall ?_; first
        | refine mj_callP (h := readyW_spec _ _ _ m s1 s2 s3 (hm.ext extA)) (k := ?_)
        | refine mj_callP (h := awake_spec _ _ _) (k := ?_)
        | fail)
      | refine W1 ?_ | refine Wc ?_ | refine W2c ?_ ?_ | refine Wg ?_ | refine W2 ?_ ?_ | exact Wdead | refine Wlive (fun hb => ?_) | intro _ _ _ _ _ _ _ _ | refine We ?_ | refine Wx ?_ | refine Wt ?_ | refine Wm ?_ | refine W2m ?_ ?_ | refine Wl ?_
      | fail)
    refine st_callP (h := ready_y E _ _ (setM m k n) _ _ _ hYx) (k := ?_)
    refine OpsJ.normA ?_
    repeat' (first
      | (refine is_ucall ?_; first
        | refine st_callP (h := readyW_spec _ _ _ m s1 s2 s3 (hm.ext extA)) (k := ?_)
        | refine st_callP (h := awake_spec _ _ _) (k := ?_)
        | fail)
      | (refine is_umcall ?_; first
        | refine mj_callP (h := readyW_spec _ _ _ m s1 s2 s3 (hm.ext extA)) (k := ?_)
        | refine mj_callP (h := awake_spec _ _ _) (k := ?_)
        | fail)
      | refine W1 ?_ | refine Wc ?_ | refine W2c ?_ ?_ | refine Wg ?_ | refine W2 ?_ ?_ | exact Wdead | refine Wlive (fun hb => ?_) | intro _ _ _ _ _ _ _ _ | refine We ?_ | refine Wx ?_ | refine Wt ?_ | refine Wm ?_ | refine W2m ?_ ?_ | refine Wl ?_
      | fail)
    · exact ⟨rfl, rfl, rfl⟩
    have hrx : thinS (setM m k n) = true ∧ checkS (setM m k n) = 0 := by assumption
    have hlvx := leave_sh n hkl hcc
    have hasx := has_sh n hkl hcc
    have hhrx := hrs_sh n hkl hcc
    have hpdx := paid_sh n hkl hcc
    have hlkx := look_sh n hkl hcc
    have hckx := fun (t : Nat) (hT : hasS m = true) (ht : t < m.clocks.length) => clock_at_sh (k := k) (n := n) hG hT hkl (by omega) ht
    have hxlen : (setM m k n).clocks.length = m.clocks.length := by simp [setM]
    have hxtl : (setM m k n).tickets = m.tickets := rfl
    replace hcx : Hx[H.length + 1]? = some (.row [.int .i64 (setM m k n).hour, .int .i64 (setM m k n).grace, .slice (some ⟨H.length + 3, 0, none⟩) m.clocks.length m.clocks.length, s2, .slice (some ⟨jB, 0, none⟩) m.clips.length cB] 1 true) := hcx
    generalize setM m k n = x at *
    have hthx := hrx.1
    have hgx := good_of hrx.2
    have hY := hYx
    have hb5 := hbx
    have hc5 := hcx
    clear x5 f0 f1 f3 fB hjl hlx0 hdx hjx hbx hcx hYx hel hfl
    have x5 : Ext H Hx := hex
    refine st_call rfl (House_w E _ _ m s1 s2 s3 (hI.ext x5) hr.1) ?_
    rintro _ H6 g6 ⟨⟨t1, t2, t3, rfl, hmh, e6⟩, rfl⟩
    have x6 : Ext H H6 := x5.trans e6
    have hb6 := e6.get hb5
    have hc6 := e6.get hc5
    replace hY := hY.ext e6
    refine OpsJ.normA ?_
    repeat' (first
      | (refine is_ucall ?_; first
        | refine st_callP (h := readyW_spec _ _ _ m s1 s2 s3 (hm.ext extA)) (k := ?_)
        | refine st_callP (h := awake_spec _ _ _) (k := ?_)
        | fail)
      | (refine is_umcall ?_; first
        | refine mj_callP (h := readyW_spec _ _ _ m s1 s2 s3 (hm.ext extA)) (k := ?_)
        | refine mj_callP (h := awake_spec _ _ _) (k := ?_)
        | fail)
      | refine W1 ?_ | refine Wc ?_ | refine W2c ?_ ?_ | refine Wg ?_ | refine W2 ?_ ?_ | exact Wdead | refine Wlive (fun hb => ?_) | intro _ _ _ _ _ _ _ _ | refine We ?_ | refine Wx ?_ | refine Wt ?_ | refine Wm ?_ | refine W2m ?_ ?_ | refine Wl ?_
      | fail)
    refine st_call rfl (LeaveY E _ _ m t1 t2 t3 hr.2 (hmh.ext extA)) ?_
    rintro _ H7 g7 ⟨⟨lv, rfl, hLm, e7⟩, rfl⟩
    have x7 : Ext H H7 := x6.trans e7
    have hb7 := e7.get hb6
    have hc7 := e7.get hc6
    replace hY := hY.ext e7
    refine OpsJ.normA ?_
    repeat' (first
      | (refine is_ucall ?_; first
        | refine st_callP (h := readyW_spec _ _ _ m s1 s2 s3 (hm.ext extA)) (k := ?_)
        | refine st_callP (h := awake_spec _ _ _) (k := ?_)
        | fail)
      | (refine is_umcall ?_; first
        | refine mj_callP (h := readyW_spec _ _ _ m s1 s2 s3 (hm.ext extA)) (k := ?_)
        | refine mj_callP (h := awake_spec _ _ _) (k := ?_)
        | fail)
      | refine W1 ?_ | refine Wc ?_ | refine W2c ?_ ?_ | refine Wg ?_ | refine W2 ?_ ?_ | exact Wdead | refine Wlive (fun hb => ?_) | intro _ _ _ _ _ _ _ _ | refine We ?_ | refine Wx ?_ | refine Wt ?_ | refine Wm ?_ | refine W2m ?_ ?_ | refine Wl ?_
      | fail)
    refine st_call rfl (House_wy E _ _ x _ _ _ hY hthx) ?_
    rintro _ H8 g8 ⟨⟨t1, t2, t3, rfl, hmh, e8⟩, rfl⟩
    have x8 : Ext H H8 := x7.trans e8
    have hb8 := e8.get hb7
    have hc8 := e8.get hc7
    replace hY := hY.ext e8
    replace hLm := hLm.ext e8
    refine OpsJ.normA ?_
    repeat' (first
      | (refine is_ucall ?_; first
        | refine st_callP (h := readyW_spec _ _ _ m s1 s2 s3 (hm.ext extA)) (k := ?_)
        | refine st_callP (h := awake_spec _ _ _) (k := ?_)
        | fail)
      | (refine is_umcall ?_; first
        | refine mj_callP (h := readyW_spec _ _ _ m s1 s2 s3 (hm.ext extA)) (k := ?_)
        | refine mj_callP (h := awake_spec _ _ _) (k := ?_)
        | fail)
      | refine W1 ?_ | refine Wc ?_ | refine W2c ?_ ?_ | refine Wg ?_ | refine W2 ?_ ?_ | exact Wdead | refine Wlive (fun hb => ?_) | intro _ _ _ _ _ _ _ _ | refine We ?_ | refine Wx ?_ | refine Wt ?_ | refine Wm ?_ | refine W2m ?_ ?_ | refine Wl ?_
      | fail)
    refine st_call rfl (LeaveY E _ _ x t1 t2 t3 hrx.2 (hmh.ext extA)) ?_
    rintro _ H9 g9 ⟨⟨mv, rfl, hLx, e9⟩, rfl⟩
    have x9 : Ext H H9 := x8.trans e9
    have hb9 := e9.get hb8
    have hc9 := e9.get hc8
    replace hY := hY.ext e9
    replace hLm := hLm.ext e9
    rw [hlvx] at hLx
    have hll : (leaveS m).length ≤ 1000000 := by
      obtain ⟨⟨l, e, hp, hb⟩, _⟩ := leave_is hG
      have := inc_len l 0 m.clips.length hp fun y hy => ⟨Nat.zero_le _, hb y hy⟩
      rw [e, List.length_map]; omega
    clear e6 e7 e8 e9 x6 x7 x8 hb6 hb7 hb8 hc6 hc7 hc8
    refine OpsJ.normA ?_
    repeat' (first
      | (refine is_ucall ?_; first
        | refine st_callP (h := awake_spec _ _ _) (k := ?_)
        | refine st_callP (h := ints_sameY _ _ _ lv mv _ (hLm.ext extA) (hLx.ext extA) hll) (k := ?_)
        | fail)
      | (refine is_umcall ?_; first
        | refine mj_callP (h := awake_spec _ _ _) (k := ?_)
        | refine mj_callP (h := ints_sameY _ _ _ lv mv _ (hLm.ext extA) (hLx.ext extA) hll) (k := ?_)
        | fail)
      | refine W1 ?_ | refine Wc ?_ | refine W2c ?_ ?_ | refine Wg ?_ | refine W2 ?_ ?_ | exact Wdead | refine Wlive (fun hb => ?_) | intro _ _ _ _ _ _ _ _ | refine We ?_ | refine Wx ?_ | refine Wt ?_ | refine Wm ?_ | refine W2m ?_ ?_ | refine Wl ?_
      | fail)
    refine st_call rfl (House_w E _ _ m s1 s2 s3 (hI.ext x9) hr.1) ?_
    rintro _ H10 g10 ⟨⟨t1, t2, t3, rfl, hmh, e10⟩, rfl⟩
    have x10 : Ext H H10 := x9.trans e10
    have hb10 := e10.get hb9
    have hc10 := e10.get hc9
    replace hY := hY.ext e10
    refine OpsJ.normA ?_
    repeat' (first
      | (refine is_ucall ?_; first
        | refine st_callP (h := awake_spec _ _ _) (k := ?_)
        | refine st_callP (h := ints_sameY _ _ _ lv mv _ (hLm.ext extA) (hLx.ext extA) hll) (k := ?_)
        | fail)
      | (refine is_umcall ?_; first
        | refine mj_callP (h := awake_spec _ _ _) (k := ?_)
        | refine mj_callP (h := ints_sameY _ _ _ lv mv _ (hLm.ext extA) (hLx.ext extA) hll) (k := ?_)
        | fail)
      | refine W1 ?_ | refine Wc ?_ | refine W2c ?_ ?_ | refine Wg ?_ | refine W2 ?_ ?_ | exact Wdead | refine Wlive (fun hb => ?_) | intro _ _ _ _ _ _ _ _ | refine We ?_ | refine Wx ?_ | refine Wt ?_ | refine Wm ?_ | refine W2m ?_ ?_ | refine Wl ?_
      | fail)
    cases hT : hasS m with
    | false =>
      have hT0 : checkT m = 11 := by unfold checkT; rw [if_pos hr.2, hT]; rfl
      have hTx : checkT x = 11 := by unfold checkT; rw [if_pos hrx.2, hasx, hT]; rfl
      refine st_call rfl (ClocksEY E _ _ m t1 t2 t3 11 hT0 (by decide) (hmh.ext extA)) ?_
      rintro _ H11 g11 ⟨⟨rfl, e11⟩, rfl⟩
      have x11 : Ext H H11 := x10.trans e11
      have hb11 := e11.get hb10
      have hc11 := e11.get hc10
      replace hY := hY.ext e11
      refine OpsJ.normA ?_
      repeat' (first
        | (refine is_ucall ?_; first
          | refine st_callP (h := awake_spec _ _ _) (k := ?_)
          | refine st_callP (h := ints_sameY _ _ _ lv mv _ (hLm.ext extA) (hLx.ext extA) hll) (k := ?_)
          | fail)
        | (refine is_umcall ?_; first
          | refine mj_callP (h := awake_spec _ _ _) (k := ?_)
          | refine mj_callP (h := ints_sameY _ _ _ lv mv _ (hLm.ext extA) (hLx.ext extA) hll) (k := ?_)
          | fail)
        | refine W1 ?_ | refine Wc ?_ | refine W2c ?_ ?_ | refine Wg ?_ | refine W2 ?_ ?_ | exact Wdead | refine Wlive (fun hb => ?_) | intro _ _ _ _ _ _ _ _ | refine We ?_ | refine Wx ?_ | refine Wt ?_ | refine Wm ?_ | refine W2m ?_ ?_ | refine Wl ?_
        | fail)
      refine st_call rfl (House_wy E _ _ x _ _ _ hY hthx) ?_
      rintro _ H12 g12 ⟨⟨t1, t2, t3, rfl, hmh, e12⟩, rfl⟩
      have x12 : Ext H H12 := x11.trans e12
      have hb12 := e12.get hb11
      have hc12 := e12.get hc11
      replace hY := hY.ext e12
      refine OpsJ.normA ?_
      repeat' (first
        | (refine is_ucall ?_; first
          | refine st_callP (h := awake_spec _ _ _) (k := ?_)
          | refine st_callP (h := ints_sameY _ _ _ lv mv _ (hLm.ext extA) (hLx.ext extA) hll) (k := ?_)
          | fail)
        | (refine is_umcall ?_; first
          | refine mj_callP (h := awake_spec _ _ _) (k := ?_)
          | refine mj_callP (h := ints_sameY _ _ _ lv mv _ (hLm.ext extA) (hLx.ext extA) hll) (k := ?_)
          | fail)
        | refine W1 ?_ | refine Wc ?_ | refine W2c ?_ ?_ | refine Wg ?_ | refine W2 ?_ ?_ | exact Wdead | refine Wlive (fun hb => ?_) | intro _ _ _ _ _ _ _ _ | refine We ?_ | refine Wx ?_ | refine Wt ?_ | refine Wm ?_ | refine W2m ?_ ?_ | refine Wl ?_
        | fail)
      refine st_call rfl (ClocksEY E _ _ x t1 t2 t3 11 hTx (by decide) (hmh.ext extA)) ?_
      rintro _ H13 g13 ⟨⟨rfl, e13⟩, rfl⟩
      have x13 : Ext H H13 := x12.trans e13
      have hb13 := e13.get hb12
      have hc13 := e13.get hc12
      replace hY := hY.ext e13
      refine OpsJ.normA ?_
      repeat' (first
        | (refine is_ucall ?_; first
          | refine st_callP (h := awake_spec _ _ _) (k := ?_)
          | refine st_callP (h := ints_sameY _ _ _ lv mv _ (hLm.ext extA) (hLx.ext extA) hll) (k := ?_)
          | fail)
        | (refine is_umcall ?_; first
          | refine mj_callP (h := awake_spec _ _ _) (k := ?_)
          | refine mj_callP (h := ints_sameY _ _ _ lv mv _ (hLm.ext extA) (hLx.ext extA) hll) (k := ?_)
          | fail)
        | refine W1 ?_ | refine Wc ?_ | refine W2c ?_ ?_ | refine Wg ?_ | refine W2 ?_ ?_ | exact Wdead | refine Wlive (fun hb => ?_) | intro _ _ _ _ _ _ _ _ | refine We ?_ | refine Wx ?_ | refine Wt ?_ | refine Wm ?_ | refine W2m ?_ ?_ | refine Wl ?_
        | fail)
      exact ⟨rfl, rfl, rfl⟩
    | true =>
      have hT0 : checkT m = 0 := by unfold checkT; rw [if_pos hr.2, if_pos hT]
      have hTx : checkT x = 0 := by unfold checkT; rw [if_pos hrx.2, hasx, if_pos hT]
      refine st_call rfl (ClocksRY E _ _ m t1 t2 t3 hT0 (hmh.ext extA)) ?_
      rintro _ H11 g11 ⟨⟨cv, rfl, hC, e11⟩, rfl⟩
      have x11 : Ext H H11 := x10.trans e11
      have hb11 := e11.get hb10
      have hc11 := e11.get hc10
      replace hY := hY.ext e11
      refine OpsJ.normA ?_
      repeat' (first
        | (refine is_ucall ?_; first
          | refine st_callP (h := awake_spec _ _ _) (k := ?_)
          | refine st_callP (h := ints_sameY _ _ _ lv mv _ (hLm.ext extA) (hLx.ext extA) hll) (k := ?_)
          | fail)
        | (refine is_umcall ?_; first
          | refine mj_callP (h := awake_spec _ _ _) (k := ?_)
          | refine mj_callP (h := ints_sameY _ _ _ lv mv _ (hLm.ext extA) (hLx.ext extA) hll) (k := ?_)
          | fail)
        | refine W1 ?_ | refine Wc ?_ | refine W2c ?_ ?_ | refine Wg ?_ | refine W2 ?_ ?_ | exact Wdead | refine Wlive (fun hb => ?_) | intro _ _ _ _ _ _ _ _ | refine We ?_ | refine Wx ?_ | refine Wt ?_ | refine Wm ?_ | refine W2m ?_ ?_ | refine Wl ?_
        | fail)
      refine st_call rfl (House_wy E _ _ x _ _ _ hY hthx) ?_
      rintro _ H12 g12 ⟨⟨t1, t2, t3, rfl, hmh, e12⟩, rfl⟩
      have x12 : Ext H H12 := x11.trans e12
      have hb12 := e12.get hb11
      have hc12 := e12.get hc11
      replace hY := hY.ext e12
      replace hC := hC.ext e12
      refine OpsJ.normA ?_
      repeat' (first
        | (refine is_ucall ?_; first
          | refine st_callP (h := awake_spec _ _ _) (k := ?_)
          | refine st_callP (h := ints_sameY _ _ _ lv mv _ (hLm.ext extA) (hLx.ext extA) hll) (k := ?_)
          | fail)
        | (refine is_umcall ?_; first
          | refine mj_callP (h := awake_spec _ _ _) (k := ?_)
          | refine mj_callP (h := ints_sameY _ _ _ lv mv _ (hLm.ext extA) (hLx.ext extA) hll) (k := ?_)
          | fail)
        | refine W1 ?_ | refine Wc ?_ | refine W2c ?_ ?_ | refine Wg ?_ | refine W2 ?_ ?_ | exact Wdead | refine Wlive (fun hb => ?_) | intro _ _ _ _ _ _ _ _ | refine We ?_ | refine Wx ?_ | refine Wt ?_ | refine Wm ?_ | refine W2m ?_ ?_ | refine Wl ?_
        | fail)
      refine st_call rfl (ClocksRY E _ _ x t1 t2 t3 hTx (hmh.ext extA)) ?_
      rintro _ H13 g13 ⟨⟨dv, rfl, hD, e13⟩, rfl⟩
      have x13 : Ext H H13 := x12.trans e13
      have hb13 := e13.get hb12
      have hc13 := e13.get hc12
      replace hY := hY.ext e13
      replace hC := hC.ext e13
      have hcl : (clocksS m).length = m.clocks.length := by simp [clocksS]
      have hdl : (clocksS x).length = m.clocks.length := by simp [clocksS, hxlen]
      clear e10 e11 e12 e13 x10 x11 x12 hb10 hb11 hb12 hc10 hc11 hc12 hLm hLx
      refine OpsJ.normA ?_
      repeat' (first
        | (refine is_ucall ?_; first
          | refine st_callP (h := awake_spec _ _ _) (k := ?_)
          | refine st_callP (h := ints_sameY _ _ _ lv mv _ (hLm.ext extA) (hLx.ext extA) hll) (k := ?_)
          | fail)
        | (refine is_umcall ?_; first
          | refine mj_callP (h := awake_spec _ _ _) (k := ?_)
          | refine mj_callP (h := ints_sameY _ _ _ lv mv _ (hLm.ext extA) (hLx.ext extA) hll) (k := ?_)
          | fail)
        | refine W1 ?_ | refine Wc ?_ | refine W2c ?_ ?_ | refine Wg ?_ | refine W2 ?_ ?_ | exact Wdead | refine Wlive (fun hb => ?_) | intro _ _ _ _ _ _ _ _ | refine We ?_ | refine Wx ?_ | refine Wt ?_ | refine Wm ?_ | refine W2m ?_ ?_ | refine Wl ?_
        | fail)
      refine WPJ.loopT m.clocks.length [20, 181, 182, 183, 184, 185, 186, 187, 188, 189, 190, 191, 192, 193, 194, 195, 196, 197, 198, 199, 200, 201, 202, 203, 204, 205, 206, 207, 208, 209, 210] (fun i (_ : Unit) => [(19, .int .i64 i)]) (fun _ _ Hy gy => gy = g13 ∧ Hy = H13) 0 () (Nat.zero_le _) (by intro p hp; simp at hp; rcases hp with rfl; rfl) ⟨rfl, rfl⟩ ?_
      rintro i _ Hy gy hi ⟨rfl, rfl⟩ hl0
      simp only [updT, maskT, List.set_cons_zero, List.set_cons_succ]
      rcases Nat.lt_or_ge i m.clocks.length with hlt | hge
      · obtain ⟨ra, rb, hea, heb, h1, h2, h3, h4⟩ := hckx i hT hlt
        by_cases hik : i = k
        · rw [if_pos hik] at h1 h2
          repeat' (first
            | (refine is_ucall ?_; first
              | refine st_callP (h := awake_spec _ _ _) (k := ?_)
              | refine st_callP (h := ints_sameY _ _ _ lv mv _ (hLm.ext extA) (hLx.ext extA) hll) (k := ?_)
              | refine st_callP (h := between_spec _ _ _ _ _) (k := ?_)
              | fail)
            | (refine is_umcall ?_; first
              | refine mj_callP (h := awake_spec _ _ _) (k := ?_)
              | refine mj_callP (h := ints_sameY _ _ _ lv mv _ (hLm.ext extA) (hLx.ext extA) hll) (k := ?_)
              | refine mj_callP (h := between_spec _ _ _ _ _) (k := ?_)
              | fail)
            | refine W1 ?_ | refine Wc ?_ | refine W2c ?_ ?_ | refine Wg ?_ | refine W2 ?_ ?_ | exact Wdead | refine Wlive (fun hb => ?_) | intro _ _ _ _ _ _ _ _ | refine We ?_ | refine Wx ?_ | refine Wt ?_ | refine Wm ?_ | refine W2m ?_ ?_ | refine Wl ?_
            | fail)
          refine WPJ.draw 20 mixed (by kernel_rfl) (by kernel_rfl) (by kernel_rfl) (by decide) ?_
          refine MonoJ.normA ?_
          repeat' (first
            | (refine is_ucall ?_; first
              | refine st_callP (h := awake_spec _ _ _) (k := ?_)
              | refine st_callP (h := ints_sameY _ _ _ lv mv _ (hLm.ext extA) (hLx.ext extA) hll) (k := ?_)
              | refine st_callP (h := between_spec _ _ _ _ _) (k := ?_)
              | fail)
            | (refine is_umcall ?_; first
              | refine mj_callP (h := awake_spec _ _ _) (k := ?_)
              | refine mj_callP (h := ints_sameY _ _ _ lv mv _ (hLm.ext extA) (hLx.ext extA) hll) (k := ?_)
              | refine mj_callP (h := between_spec _ _ _ _ _) (k := ?_)
              | fail)
            | refine W1 ?_ | refine Wc ?_ | refine W2c ?_ ?_ | refine Wg ?_ | refine W2 ?_ ?_ | exact Wdead | refine Wlive (fun hb => ?_) | intro _ _ _ _ _ _ _ _ | refine We ?_ | refine Wx ?_ | refine Wt ?_ | refine Wm ?_ | refine W2m ?_ ?_ | refine Wl ?_
            | fail)
          refine mj_neI (n := 2) (xs := [rb.1, rb.2]) (ys := [ra.1 + n, ra.2 + n]) rfl rfl rfl rfl ?_
          rw [show decide ([rb.1, rb.2] = [ra.1 + n, ra.2 + n]) = true from decide_eq_true (by rw [h1, h2])]
          refine MonoJ.normA ?_
          repeat' (first
            | (refine is_ucall ?_; first
              | refine st_callP (h := awake_spec _ _ _) (k := ?_)
              | refine st_callP (h := ints_sameY _ _ _ lv mv _ (hLm.ext extA) (hLx.ext extA) hll) (k := ?_)
              | refine st_callP (h := between_spec _ _ _ _ _) (k := ?_)
              | fail)
            | (refine is_umcall ?_; first
              | refine mj_callP (h := awake_spec _ _ _) (k := ?_)
              | refine mj_callP (h := ints_sameY _ _ _ lv mv _ (hLm.ext extA) (hLx.ext extA) hll) (k := ?_)
              | refine mj_callP (h := between_spec _ _ _ _ _) (k := ?_)
              | fail)
            | refine W1 ?_ | refine Wc ?_ | refine W2c ?_ ?_ | refine Wg ?_ | refine W2 ?_ ?_ | exact Wdead | refine Wlive (fun hb => ?_) | intro _ _ _ _ _ _ _ _ | refine We ?_ | refine Wx ?_ | refine Wt ?_ | refine Wm ?_ | refine W2m ?_ ?_ | refine Wl ?_
            | fail)
          exact ⟨(), hlt, (by repeat' (first | exact Weak.nil | refine Weak.wild ?_ | refine Weak.same ?_ | refine Weak.intEq (by first | omega | (simp; done) | (push_cast; omega)) ?_)), rfl, rfl⟩
        · rw [if_neg hik] at h1 h2
          repeat' (first
            | (refine is_ucall ?_; first
              | refine st_callP (h := awake_spec _ _ _) (k := ?_)
              | refine st_callP (h := ints_sameY _ _ _ lv mv _ (hLm.ext extA) (hLx.ext extA) hll) (k := ?_)
              | refine st_callP (h := between_spec _ _ _ _ _) (k := ?_)
              | fail)
            | (refine is_umcall ?_; first
              | refine mj_callP (h := awake_spec _ _ _) (k := ?_)
              | refine mj_callP (h := ints_sameY _ _ _ lv mv _ (hLm.ext extA) (hLx.ext extA) hll) (k := ?_)
              | refine mj_callP (h := between_spec _ _ _ _ _) (k := ?_)
              | fail)
            | refine W1 ?_ | refine Wc ?_ | refine W2c ?_ ?_ | refine Wg ?_ | refine W2 ?_ ?_ | exact Wdead | refine Wlive (fun hb => ?_) | intro _ _ _ _ _ _ _ _ | refine We ?_ | refine Wx ?_ | refine Wt ?_ | refine Wm ?_ | refine W2m ?_ ?_ | refine Wl ?_
            | fail)
          refine WPJ.draw 20 mixed (by kernel_rfl) (by kernel_rfl) (by kernel_rfl) (by decide) ?_
          refine MonoJ.normA ?_
          repeat' (first
            | (refine is_ucall ?_; first
              | refine st_callP (h := awake_spec _ _ _) (k := ?_)
              | refine st_callP (h := ints_sameY _ _ _ lv mv _ (hLm.ext extA) (hLx.ext extA) hll) (k := ?_)
              | refine st_callP (h := between_spec _ _ _ _ _) (k := ?_)
              | fail)
            | (refine is_umcall ?_; first
              | refine mj_callP (h := awake_spec _ _ _) (k := ?_)
              | refine mj_callP (h := ints_sameY _ _ _ lv mv _ (hLm.ext extA) (hLx.ext extA) hll) (k := ?_)
              | refine mj_callP (h := between_spec _ _ _ _ _) (k := ?_)
              | fail)
            | refine W1 ?_ | refine Wc ?_ | refine W2c ?_ ?_ | refine Wg ?_ | refine W2 ?_ ?_ | exact Wdead | refine Wlive (fun hb => ?_) | intro _ _ _ _ _ _ _ _ | refine We ?_ | refine Wx ?_ | refine Wt ?_ | refine Wm ?_ | refine W2m ?_ ?_ | refine Wl ?_
            | fail)
          refine mj_neI (n := 2) (xs := [rb.1, rb.2]) (ys := [ra.1 + 0, ra.2 + 0]) rfl rfl rfl rfl ?_
          rw [show decide ([rb.1, rb.2] = [ra.1 + 0, ra.2 + 0]) = true from decide_eq_true (by rw [h1, h2])]
          refine MonoJ.normA ?_
          repeat' (first
            | (refine is_ucall ?_; first
              | refine st_callP (h := awake_spec _ _ _) (k := ?_)
              | refine st_callP (h := ints_sameY _ _ _ lv mv _ (hLm.ext extA) (hLx.ext extA) hll) (k := ?_)
              | refine st_callP (h := between_spec _ _ _ _ _) (k := ?_)
              | fail)
            | (refine is_umcall ?_; first
              | refine mj_callP (h := awake_spec _ _ _) (k := ?_)
              | refine mj_callP (h := ints_sameY _ _ _ lv mv _ (hLm.ext extA) (hLx.ext extA) hll) (k := ?_)
              | refine mj_callP (h := between_spec _ _ _ _ _) (k := ?_)
              | fail)
            | refine W1 ?_ | refine Wc ?_ | refine W2c ?_ ?_ | refine Wg ?_ | refine W2 ?_ ?_ | exact Wdead | refine Wlive (fun hb => ?_) | intro _ _ _ _ _ _ _ _ | refine We ?_ | refine Wx ?_ | refine Wt ?_ | refine Wm ?_ | refine W2m ?_ ?_ | refine Wl ?_
            | fail)
          exact ⟨(), hlt, (by repeat' (first | exact Weak.nil | refine Weak.wild ?_ | refine Weak.same ?_ | refine Weak.intEq (by first | omega | (simp; done) | (push_cast; omega)) ?_)), rfl, rfl⟩
      obtain rfl : i = m.clocks.length := by omega
      repeat' (first
        | (refine is_ucall ?_; first
          | refine st_callP (h := awake_spec _ _ _) (k := ?_)
          | fail)
        | (refine is_umcall ?_; first
          | refine mj_callP (h := awake_spec _ _ _) (k := ?_)
          | fail)
        | refine W1 ?_ | refine Wc ?_ | refine W2c ?_ ?_ | refine Wg ?_ | refine W2 ?_ ?_ | exact Wdead | refine Wlive (fun hb => ?_) | intro _ _ _ _ _ _ _ _ | refine We ?_ | refine Wx ?_ | refine Wt ?_ | refine Wm ?_ | refine W2m ?_ ?_ | refine Wl ?_
        | fail)
      refine st_call rfl (House_w E _ _ m s1 s2 s3 (hI.ext x13) hr.1) ?_
      rintro _ H14 g14 ⟨⟨t1, t2, t3, rfl, hmh, e14⟩, rfl⟩
      have x14 : Ext H H14 := x13.trans e14
      have hb14 := e14.get hb13
      have hc14 := e14.get hc13
      replace hY := hY.ext e14
      refine OpsJ.normA ?_
      repeat' (first
        | (refine is_ucall ?_; first
          | refine st_callP (h := awake_spec _ _ _) (k := ?_)
          | fail)
        | (refine is_umcall ?_; first
          | refine mj_callP (h := awake_spec _ _ _) (k := ?_)
          | fail)
        | refine W1 ?_ | refine Wc ?_ | refine W2c ?_ ?_ | refine Wg ?_ | refine W2 ?_ ?_ | exact Wdead | refine Wlive (fun hb => ?_) | intro _ _ _ _ _ _ _ _ | refine We ?_ | refine Wx ?_ | refine Wt ?_ | refine Wm ?_ | refine W2m ?_ ?_ | refine Wl ?_
        | fail)
      refine st_call rfl (HoursRY E _ _ m t1 t2 t3 hT0 (hmh.ext extA)) ?_
      rintro _ H15 g15 ⟨⟨rv, rfl, hR, e15⟩, rfl⟩
      have x15 : Ext H H15 := x14.trans e15
      have hb15 := e15.get hb14
      have hc15 := e15.get hc14
      replace hY := hY.ext e15
      refine OpsJ.normA ?_
      repeat' (first
        | (refine is_ucall ?_; first
          | refine st_callP (h := awake_spec _ _ _) (k := ?_)
          | fail)
        | (refine is_umcall ?_; first
          | refine mj_callP (h := awake_spec _ _ _) (k := ?_)
          | fail)
        | refine W1 ?_ | refine Wc ?_ | refine W2c ?_ ?_ | refine Wg ?_ | refine W2 ?_ ?_ | exact Wdead | refine Wlive (fun hb => ?_) | intro _ _ _ _ _ _ _ _ | refine We ?_ | refine Wx ?_ | refine Wt ?_ | refine Wm ?_ | refine W2m ?_ ?_ | refine Wl ?_
        | fail)
      refine st_call rfl (House_wy E _ _ x _ _ _ hY hthx) ?_
      rintro _ H16 g16 ⟨⟨t1, t2, t3, rfl, hmh, e16⟩, rfl⟩
      have x16 : Ext H H16 := x15.trans e16
      have hb16 := e16.get hb15
      have hc16 := e16.get hc15
      replace hY := hY.ext e16
      replace hR := hR.ext e16
      refine OpsJ.normA ?_
      repeat' (first
        | (refine is_ucall ?_; first
          | refine st_callP (h := awake_spec _ _ _) (k := ?_)
          | fail)
        | (refine is_umcall ?_; first
          | refine mj_callP (h := awake_spec _ _ _) (k := ?_)
          | fail)
        | refine W1 ?_ | refine Wc ?_ | refine W2c ?_ ?_ | refine Wg ?_ | refine W2 ?_ ?_ | exact Wdead | refine Wlive (fun hb => ?_) | intro _ _ _ _ _ _ _ _ | refine We ?_ | refine Wx ?_ | refine Wt ?_ | refine Wm ?_ | refine W2m ?_ ?_ | refine Wl ?_
        | fail)
      refine st_call rfl (HoursRY E _ _ x t1 t2 t3 hTx (hmh.ext extA)) ?_
      rintro _ H17 g17 ⟨⟨sv, rfl, hS, e17⟩, rfl⟩
      have x17 : Ext H H17 := x16.trans e17
      have hb17 := e17.get hb16
      have hc17 := e17.get hc16
      replace hY := hY.ext e17
      replace hR := hR.ext e17
      refine OpsJ.normA ?_
      repeat' (first
        | (refine is_ucall ?_; first
          | refine st_callP (h := awake_spec _ _ _) (k := ?_)
          | fail)
        | (refine is_umcall ?_; first
          | refine mj_callP (h := awake_spec _ _ _) (k := ?_)
          | fail)
        | refine W1 ?_ | refine Wc ?_ | refine W2c ?_ ?_ | refine Wg ?_ | refine W2 ?_ ?_ | exact Wdead | refine Wlive (fun hb => ?_) | intro _ _ _ _ _ _ _ _ | refine We ?_ | refine Wx ?_ | refine Wt ?_ | refine Wm ?_ | refine W2m ?_ ?_ | refine Wl ?_
        | fail)
      rw [hhrx] at hS
      refine st_call rfl (House_w E _ _ m s1 s2 s3 (hI.ext x17) hr.1) ?_
      rintro _ H18 g18 ⟨⟨t1, t2, t3, rfl, hmh, e18⟩, rfl⟩
      have x18 : Ext H H18 := x17.trans e18
      have hb18 := e18.get hb17
      have hc18 := e18.get hc17
      replace hY := hY.ext e18
      replace hR := hR.ext e18
      replace hS := hS.ext e18
      refine OpsJ.normA ?_
      repeat' (first
        | (refine is_ucall ?_; first
          | refine st_callP (h := awake_spec _ _ _) (k := ?_)
          | fail)
        | (refine is_umcall ?_; first
          | refine mj_callP (h := awake_spec _ _ _) (k := ?_)
          | fail)
        | refine W1 ?_ | refine Wc ?_ | refine W2c ?_ ?_ | refine Wg ?_ | refine W2 ?_ ?_ | exact Wdead | refine Wlive (fun hb => ?_) | intro _ _ _ _ _ _ _ _ | refine We ?_ | refine Wx ?_ | refine Wt ?_ | refine Wm ?_ | refine W2m ?_ ?_ | refine Wl ?_
        | fail)
      obtain ⟨p, hp⟩ : ∃ p, paidV m = p := ⟨_, rfl⟩
      refine st_callP (h := PaidPY E _ _ m t1 t2 t3 p hT0 hp (hmh.ext extA)) (k := ?_)
      refine OpsJ.normA ?_
      repeat' (first
        | (refine is_ucall ?_; first
          | refine st_callP (h := awake_spec _ _ _) (k := ?_)
          | fail)
        | (refine is_umcall ?_; first
          | refine mj_callP (h := awake_spec _ _ _) (k := ?_)
          | fail)
        | refine W1 ?_ | refine Wc ?_ | refine W2c ?_ ?_ | refine Wg ?_ | refine W2 ?_ ?_ | exact Wdead | refine Wlive (fun hb => ?_) | intro _ _ _ _ _ _ _ _ | refine We ?_ | refine Wx ?_ | refine Wt ?_ | refine Wm ?_ | refine W2m ?_ ?_ | refine Wl ?_
        | fail)
      refine st_call rfl (House_wy E _ _ x _ _ _ hY hthx) ?_
      rintro _ H19 g19 ⟨⟨t1, t2, t3, rfl, hmh, e19⟩, rfl⟩
      have x19 : Ext H H19 := x18.trans e19
      have hb19 := e19.get hb18
      have hc19 := e19.get hc18
      replace hY := hY.ext e19
      replace hR := hR.ext e19
      replace hS := hS.ext e19
      refine OpsJ.normA ?_
      repeat' (first
        | (refine is_ucall ?_; first
          | refine st_callP (h := awake_spec _ _ _) (k := ?_)
          | fail)
        | (refine is_umcall ?_; first
          | refine mj_callP (h := awake_spec _ _ _) (k := ?_)
          | fail)
        | refine W1 ?_ | refine Wc ?_ | refine W2c ?_ ?_ | refine Wg ?_ | refine W2 ?_ ?_ | exact Wdead | refine Wlive (fun hb => ?_) | intro _ _ _ _ _ _ _ _ | refine We ?_ | refine Wx ?_ | refine Wt ?_ | refine Wm ?_ | refine W2m ?_ ?_ | refine Wl ?_
        | fail)
      refine st_callP (h := PaidPY E _ _ x t1 t2 t3 p hTx (hpdx.trans hp) (hmh.ext extA)) (k := ?_)
      refine OpsJ.normA ?_
      repeat' (first
        | (refine is_ucall ?_; first
          | refine st_callP (h := awake_spec _ _ _) (k := ?_)
          | fail)
        | (refine is_umcall ?_; first
          | refine mj_callP (h := awake_spec _ _ _) (k := ?_)
          | fail)
        | refine W1 ?_ | refine Wc ?_ | refine W2c ?_ ?_ | refine Wg ?_ | refine W2 ?_ ?_ | exact Wdead | refine Wlive (fun hb => ?_) | intro _ _ _ _ _ _ _ _ | refine We ?_ | refine Wx ?_ | refine Wt ?_ | refine Wm ?_ | refine W2m ?_ ?_ | refine Wl ?_
        | fail)
      refine st_call rfl (House_w E _ _ m s1 s2 s3 (hI.ext x19) hr.1) ?_
      rintro _ H20 g20 ⟨⟨t1, t2, t3, rfl, hmh, e20⟩, rfl⟩
      have x20 : Ext H H20 := x19.trans e20
      have hb20 := e20.get hb19
      have hc20 := e20.get hc19
      replace hY := hY.ext e20
      replace hR := hR.ext e20
      replace hS := hS.ext e20
      refine OpsJ.normA ?_
      repeat' (first
        | (refine is_ucall ?_; first
          | refine st_callP (h := awake_spec _ _ _) (k := ?_)
          | fail)
        | (refine is_umcall ?_; first
          | refine mj_callP (h := awake_spec _ _ _) (k := ?_)
          | fail)
        | refine W1 ?_ | refine Wc ?_ | refine W2c ?_ ?_ | refine Wg ?_ | refine W2 ?_ ?_ | exact Wdead | refine Wlive (fun hb => ?_) | intro _ _ _ _ _ _ _ _ | refine We ?_ | refine Wx ?_ | refine Wt ?_ | refine Wm ?_ | refine W2m ?_ ?_ | refine Wl ?_
        | fail)
      have hzm : lookE m = 0 := by unfold lookE; rw [if_pos hT0, if_neg (by omega)]
      have hzx : lookE x = 0 := by unfold lookE; rw [if_pos hTx, if_neg (by omega)]
      obtain ⟨q, hq⟩ : ∃ q, lookV m = q := ⟨_, rfl⟩
      obtain ⟨c1, hq1⟩ : ∃ c, indexS (leavesS m) (lookV m) = c := ⟨_, rfl⟩
      obtain ⟨c2, hq2⟩ : ∃ c, indexS (leavesS x) (lookV x) = c := ⟨_, rfl⟩
      refine st_callP (h := LookY E _ _ m t1 t2 t3 0 c1 q hzm (by rw [if_pos rfl, hq1, hq]) (hmh.ext extA)) (k := ?_)
      refine OpsJ.normA ?_
      repeat' (first
        | (refine is_ucall ?_; first
          | refine st_callP (h := awake_spec _ _ _) (k := ?_)
          | fail)
        | (refine is_umcall ?_; first
          | refine mj_callP (h := awake_spec _ _ _) (k := ?_)
          | fail)
        | refine W1 ?_ | refine Wc ?_ | refine W2c ?_ ?_ | refine Wg ?_ | refine W2 ?_ ?_ | exact Wdead | refine Wlive (fun hb => ?_) | intro _ _ _ _ _ _ _ _ | refine We ?_ | refine Wx ?_ | refine Wt ?_ | refine Wm ?_ | refine W2m ?_ ?_ | refine Wl ?_
        | fail)
      refine st_call rfl (House_wy E _ _ x _ _ _ hY hthx) ?_
      rintro _ H21 g21 ⟨⟨t1, t2, t3, rfl, hmh, e21⟩, rfl⟩
      have x21 : Ext H H21 := x20.trans e21
      have hb21 := e21.get hb20
      have hc21 := e21.get hc20
      replace hY := hY.ext e21
      replace hR := hR.ext e21
      replace hS := hS.ext e21
      refine OpsJ.normA ?_
      repeat' (first
        | (refine is_ucall ?_; first
          | refine st_callP (h := awake_spec _ _ _) (k := ?_)
          | fail)
        | (refine is_umcall ?_; first
          | refine mj_callP (h := awake_spec _ _ _) (k := ?_)
          | fail)
        | refine W1 ?_ | refine Wc ?_ | refine W2c ?_ ?_ | refine Wg ?_ | refine W2 ?_ ?_ | exact Wdead | refine Wlive (fun hb => ?_) | intro _ _ _ _ _ _ _ _ | refine We ?_ | refine Wx ?_ | refine Wt ?_ | refine Wm ?_ | refine W2m ?_ ?_ | refine Wl ?_
        | fail)
      refine st_callP (h := LookY E _ _ x t1 t2 t3 0 c2 q hzx (by rw [if_pos rfl, hq2, hlkx, hq]) (hmh.ext extA)) (k := ?_)
      have hrl : (hrsS m).length = m.tickets.length := by simp [hrsS]
      have hn2 := hG.n2
      have hrn : (hrsS m).length ≤ 1000000 := by omega
      have hself : ∀ j, j < (hrsS m).length → ∃ r s : Int × Int, ((hrsS m).map encR)[(j : Int).toNat]? = some (encR r) ∧ ((hrsS m).map encR)[(j : Int).toNat]? = some (encR s) ∧ s.1 ≤ r.1 ∧ r.2 ≤ s.2 := fun j h => ⟨(hrsS m)[j], (hrsS m)[j], by simp [h], by simp [h], Int.le_refl _, Int.le_refl _⟩
      clear e14 e15 e16 e17 e18 e19 e20 e21 x13 x14 x15 x16 x17 x18 x19 x20 hb13 hb14 hb15 hb16 hb17 hb18 hb19 hb20 hc13 hc14 hc15 hc16 hc17 hc18 hc19 hc20 hmh
      refine OpsJ.normA ?_
      repeat' (first
        | (refine is_ucall ?_; first
          | refine st_callP (h := awake_spec _ _ _) (k := ?_)
          | refine st_callP (h := inside_true _ _ _ rv sv _ _ (hR.ext extA) (hS.ext extA) hrn rfl hself) (k := ?_)
          | refine st_callP (h := inside_true _ _ _ sv rv _ _ (hS.ext extA) (hR.ext extA) hrn rfl hself) (k := ?_)
          | fail)
        | (refine is_umcall ?_; first
          | refine mj_callP (h := awake_spec _ _ _) (k := ?_)
          | refine mj_callP (h := inside_true _ _ _ rv sv _ _ (hR.ext extA) (hS.ext extA) hrn rfl hself) (k := ?_)
          | refine mj_callP (h := inside_true _ _ _ sv rv _ _ (hS.ext extA) (hR.ext extA) hrn rfl hself) (k := ?_)
          | fail)
        | refine W1 ?_ | refine Wc ?_ | refine W2c ?_ ?_ | refine Wg ?_ | refine W2 ?_ ?_ | exact Wdead | refine Wlive (fun hb => ?_) | intro _ _ _ _ _ _ _ _ | refine We ?_ | refine Wx ?_ | refine Wt ?_ | refine Wm ?_ | refine W2m ?_ ?_ | refine Wl ?_
        | fail)
      all_goals first | exact ⟨rfl, rfl, rfl⟩ | (exfalso; omega) | (exfalso; simp_all; done)
  · exact ⟨rfl, rfl, rfl⟩
end
end Go.Proofs.Ytehobnpoeodhkaa
