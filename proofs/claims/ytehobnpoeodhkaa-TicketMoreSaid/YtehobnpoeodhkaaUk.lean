import Derived.Test.YtehobnpoeodhkaaUc
import Derived.Test.YtehobnpoeodhkaaUf
import Derived.Test.YtehobnpoeodhkaaTw
import Derived.Test.YtehobnpoeodhkaaSq
namespace Go.Abs
open Go
section
variable {P : Program} {ops : Array Oper} {T : List Value} {H : AHeap} {dst : Option Tmp} {ty : TypeId} {ps : String} {af : Array Edge}
theorem sm_loadN {t : TypeId} {x : Operand} {ir o : Nat} {d : TypeDesc} {nn : Nat} {z : Value} {bb : Nat} {cells cs : List Value} {es : Nat} {own : Bool} [ht : TyC P t d nn z bb] (hd : aggD d = true) (hx : evalT T x = .pointer (some ⟨ir, o, none⟩))
    (hi : H[ir]? = some (.row cells es own)) (hn : o + nn ≤ cells.length) (hcs : (cells.drop o).take nn = cs) : StepM P ops ⟨dst, .load t x, ty, ps, af, none⟩ (.agg ⟨cs⟩) [] T H := Mono.of_runs (by simpa using runs_loadN ht.ty hd hx hi hn hcs) rfl rfl
theorem sm_buildS {t : TypeId} {len : Nat} {parts : Array (Nat × Operand)} {e : TypeId} {n k : Nat} {z : Value} {b : Nat} {d' : TypeDesc} {n' : Nat} {z' : Value} {b' : Nat} {cs : List Value} [ht : TyC P t (.slice e) n z b] [he : TyC P e d' n' z' b']
    (hk : H.length = k) (hlen : len * n' ≤ 2 ^ 24) (hcs : fillA (fun i => some (i * n', n')) (List.replicate (len * n') wild) (partsT T parts) = some cs) : StepM P ops ⟨dst, .buildSlice t len parts, ty, ps, af, none⟩ (.slice (some ⟨k, 0, none⟩) len len) [.row cs n' true] T H := by
  subst hk
  exact Mono.of_runs (runs_buildSlice ht.ty he.ty hlen hcs) rfl rfl
/-- append([]T{}, l...) of as much as a slice can hold -/
theorem spec_appendBig {α : Type} {enc : α → List Value} {w : Nat} {l : List α} {Hx : AHeap} {s x : Operand} {t e : TypeId} {n : Nat} {z : Value} {b : Nat} {d' : TypeDesc} {z' : Value} {b' : Nat} {v : Value} {i0 N : Nat} [ht : TyC P t (.slice e) n z b] [he : TyC P e d' w z' b']
    (hr : RdS Hx v w (l.map enc)) (hne : l ≠ []) (hext : ∀ (i : Nat) (o : AObj), Hx[i]? = some o → H[i]? = some o) (hz' : (cellsL z').length = w) (hok : ∀ a, (enc a).all cellOk = true) (hs_ : evalT T s = .slice (some ⟨i0, 0, none⟩) 0 0) (hi0 : H[i0]? = some (.row [] w true)) (hx : evalT T x = v) (hn : l.length ≤ maxLen) (hb : l.length * b' ≤ 140737488355328) (hN : H.length = N) :
    SpecM P i0 .dead ⟨dst, .call { callee := .builtin .append, args := #[s, x], argTypes := #[t, t] }, ty, ps, af, none⟩ (.slice (some ⟨N, 0, none⟩) l.length l.length) [.row (l.map enc).flatten w true] T H := by
  subst hN
  obtain ⟨_, h⟩ := hr
  rcases h with ⟨i, o, c, row, es', own, a, b1, b2, b3⟩ | ⟨h, _⟩
  · rw [List.length_map] at a b2 b3
    have hall : (l.map enc).flatten.all cellOk = true := by
      rw [List.all_eq_true]
      intro u hu
      obtain ⟨q, hq, huq⟩ := List.mem_flatten.1 hu
      obtain ⟨p, _, rfl⟩ := List.mem_map.1 hq
      exact List.all_eq_true.1 (hok p) u huq
    have k := runs_appendOwn (dst := dst) (ty := ty) (ps := ps) (af := af) (gd := none) (P := P) (T := T) ht.ty he.ty hz' hs_ hi0 (by simp) (hx.trans a) (hext _ _ b1) b2 b3 hall (by omega) (by rw [Nat.zero_add]; exact hb)
    refine spec_of_runs ?_ rfl rfl
    simpa using k
  · exact absurd (List.map_eq_nil_iff.1 h) hne
end
end Go.Abs
namespace Go.Proofs.Ytehobnpoeodhkaa
open Go Go.Abs Go.Proofs
set_option maxHeartbeats 8000000
set_option maxRecDepth 20000
attribute [local irreducible] CallJ OpsJ WPJ CallV MonoJ SpecJ

theorem house_ym {H : AHeap} {m : HouseM} {cl : ClipM} {s1 s2 s3 : Value} {j c : Nat} (hI : HouseIs H m s1 s2 s3) (hn : m.clips.length ≤ 1000) (hj : H[j]? = some (.row ((m.clips ++ [cl]).map encC).flatten 3 true)) : HouseY H (moreM m cl) s1 s2 (.slice (some ⟨j, 0, none⟩) (m.clips.length + 1) c) := by
  have hok := hI.ok
  have h1 := rowY (c := c) encC_len hj
  rw [show (m.clips ++ [cl]).length = m.clips.length + 1 by simp] at h1
  refine ⟨hI.clocks, hI.tickets, h1, ?_, hI.n1, hI.n2, by show (m.clips ++ [cl]).length ≤ _; simp; omega⟩
  simp [cellOk] at hok ⊢
  exact ⟨hok.1, hok.2.1⟩
section
variable {γ : Type} (E : Env γ) (g : γ) (H : AHeap)
theorem more_law (m : HouseM) (s1 s2 s3 : Value) (cl : ClipM) (hm : HouseW H m s1 s2 s3) (hsz : m.clips.length * 24 ≤ reachBytes) : CallJ Try.prog E 15 [hv m s1 s2 s3, .agg ⟨encC cl⟩] (fun v H' g' => v = .bool true ∧ H' = H ∧ g' = g) H g := by
  have hok : [Value.int .i64 m.hour, Value.int .i64 m.grace, s1, s2, s3].all cellOk = true := by have := hm.ok; simp [cellOk] at this ⊢; exact this
  have hsz2 : m.clips.length * 24 + 4096 ≤ 140737488355328 := by have h : reachBytes = 140737488351232 := by decide
                                                                 omega
  have hmax : maxLen = 9223372036854775807 := by decide
  have hst := hm.clips
  refine CallJ.tidy ?_
  unfold hv
  refine CallJ.enter Try.func15 rfl (by simp only [Try.ntmps15, List.length_cons, List.length_nil, Nat.zero_add, Nat.reduceAdd, Nat.reduceSub, List.replicate_succ, List.replicate_zero, List.cons_append, List.nil_append]; rfl) ?_
  repeat' (first
    | (refine is_ucall ?_; first
      | refine st_callP (h := readyW_spec _ _ _ m s1 s2 s3 (hm.ext extA)) (k := ?_)
      | refine st_callP (h := awake_spec _ _ _) (k := ?_)
      | fail)
    | (refine is_umcall ?_; first
      | refine mj_callP (h := readyW_spec _ _ _ m s1 s2 s3 (hm.ext extA)) (k := ?_)
      | refine mj_callP (h := awake_spec _ _ _) (k := ?_)
      | fail)
    | refine W1 ?_ | refine Wc ?_ | refine W2c ?_ ?_ | refine Wg ?_ | refine W2 ?_ ?_ | exact Wdead | refine Wlive (fun hb => ?_) | intro _ _ _ _ _ _ _ _ | refine We ?_ | refine Wx ?_ | refine Wt ?_ | refine Wm ?_ | refine W2m ?_ ?_ | refine Wl ?_
    | fail)
  obtain ⟨Hc, hHc⟩ : ∃ Hc : AHeap, Hc = H ++ [AObj.row [.int .i64 m.hour, .int .i64 m.grace, s1, s2, s3] 1 true, .row (encC cl) 1 true, .row [.int .i64 m.hour, .int .i64 m.grace, s1, s2, s3] 1 true] := ⟨_, rfl⟩
  have hNc : Hc.length = H.length + 3 := by rw [hHc]; simp
  have hc0 : Hc[H.length]? = some (.row [.int .i64 m.hour, .int .i64 m.grace, s1, s2, s3] 1 true) := by rw [hHc]; exact get_new0 rfl
  have hc1 : Hc[H.length + 1]? = some (.row (encC cl) 1 true) := by rw [hHc]; exact get_new rfl
  have hc2 : Hc[H.length + 2]? = some (.row [.int .i64 m.hour, .int .i64 m.grace, s1, s2, s3] 1 true) := by rw [hHc]; exact get_new rfl
  have hcx : Ext H Hc := by rw [hHc]; exact ⟨_, rfl⟩
  rw [← hHc]
  have hst5 := hst.ext hcx
  obtain ⟨LA, oA, jA, cA, hAf, hAc⟩ : ∃ (LA : AHeap) (oA : AObj) (jA cA : Nat), flatRow oA = true ∧
      ((m.clips = [] ∧ jA = H.length + 3 ∧ cA = 0 ∧ LA = [] ∧ oA = .row [] 3 true) ∨ (m.clips ≠ [] ∧ jA = H.length + 4 ∧ cA = m.clips.length ∧ LA = [.row (m.clips.map encC).flatten 3 true] ∧ oA = .dead)) := by
    by_cases he : m.clips = []
    · exact ⟨_, _, _, _, rfl, .inl ⟨he, rfl, rfl, rfl, rfl⟩⟩
    · exact ⟨_, _, _, _, rfl, .inr ⟨he, rfl, rfl, rfl, rfl⟩⟩
  obtain ⟨jC, hjC⟩ : ∃ j : Nat, j = H.length + 4 + LA.length := ⟨_, rfl⟩
  have e3 : HK [(.slice (some ⟨H.length + 3, 0, none⟩) 0 0, [.row [] 3 true]), (.pointer (some ⟨H.length, 0 + 4, none⟩), []), (s3, []), (.slice (some ⟨jA, 0, none⟩) m.clips.length cA, LA), (.agg ⟨encC cl⟩, []), (.slice (some ⟨jC, 0, none⟩) 1 1, [.row (encC cl) 3 true])] Hc 3 = Hc ++ [.row [] 3 true] := by simp [HK, lD]
  have e4 : HK [(.slice (some ⟨H.length + 3, 0, none⟩) 0 0, [.row [] 3 true]), (.pointer (some ⟨H.length, 0 + 4, none⟩), []), (s3, []), (.slice (some ⟨jA, 0, none⟩) m.clips.length cA, LA), (.agg ⟨encC cl⟩, []), (.slice (some ⟨jC, 0, none⟩) 1 1, [.row (encC cl) 3 true])] Hc 4 = Hc ++ [.row [] 3 true] ++ LA := by simp [HK, lD]
  have e5 : HK [(.slice (some ⟨H.length + 3, 0, none⟩) 0 0, [.row [] 3 true]), (.pointer (some ⟨H.length, 0 + 4, none⟩), []), (s3, []), (.slice (some ⟨jA, 0, none⟩) m.clips.length cA, LA), (.agg ⟨encC cl⟩, []), (.slice (some ⟨jC, 0, none⟩) 1 1, [.row (encC cl) 3 true])] Hc 5 = Hc ++ [.row [] 3 true] ++ LA := by simp [HK, lD]
  have e6 : HK [(.slice (some ⟨H.length + 3, 0, none⟩) 0 0, [.row [] 3 true]), (.pointer (some ⟨H.length, 0 + 4, none⟩), []), (s3, []), (.slice (some ⟨jA, 0, none⟩) m.clips.length cA, LA), (.agg ⟨encC cl⟩, []), (.slice (some ⟨jC, 0, none⟩) 1 1, [.row (encC cl) 3 true])] Hc 6 = Hc ++ [.row [] 3 true] ++ LA ++ [.row (encC cl) 3 true] := by simp [HK, lD]
  refine WPJ.drawP 6 [3] [(.slice (some ⟨H.length + 3, 0, none⟩) 0 0, [.row [] 3 true]), (.pointer (some ⟨H.length, 0 + 4, none⟩), []), (s3, []), (.slice (some ⟨jA, 0, none⟩) m.clips.length cA, LA), (.agg ⟨encC cl⟩, []), (.slice (some ⟨jC, 0, none⟩) 1 1, [.row (encC cl) 3 true])] mixed (by kernel_rfl) (by kernel_rfl) (by kernel_rfl) (by decide) ?_
  refine PhJ.next [0, 1, 2, 4, 5] (H.length + 3) (.row [] 3 true) oA (by kernel_rfl) (by decide) (by kernel_rfl) ?_ ?_ rfl hAf ?_ ?_
  · exact ⟨⟨_, rfl, sm_buildE hNc⟩, ⟨_, rfl, sm_fieldAddr rfl⟩, ⟨_, rfl, sm_load1 rfl rfl (hk_old hc0 2) rfl⟩, ⟨_, rfl, sm_loadN rfl rfl (hk_old hc1 4) (Nat.le_refl 3) rfl⟩, ⟨_, rfl, sm_buildS (by rw [e5]; simp [hNc]; omega) (by decide) rfl⟩, trivial⟩
  · rw [e3, List.getElem?_append_right (by omega)]; simp [hNc]
  · have hg : (HK [(.slice (some ⟨H.length + 3, 0, none⟩) 0 0, [.row [] 3 true]), (.pointer (some ⟨H.length, 0 + 4, none⟩), []), (s3, []), (.slice (some ⟨jA, 0, none⟩) m.clips.length cA, LA), (.agg ⟨encC cl⟩, []), (.slice (some ⟨jC, 0, none⟩) 1 1, [.row (encC cl) 3 true])] Hc 3)[H.length + 3]? = some (.row [] 3 true) := by rw [e3, List.getElem?_append_right (by omega)]; simp [hNc]
    rcases hAc with ⟨he, rfl, rfl, rfl, rfl⟩ | ⟨he, rfl, rfl, rfl, rfl⟩
    · have hst0 := hst5
      rw [he] at hst0
      exact ⟨_, rfl, spec_appendNone (k := m.clips.length) (by rw [he]; rfl) hst0 rfl hg rfl⟩
    · exact ⟨_, rfl, spec_appendBig hst5 he (fun i o h => hk_old h 3) rfl (fun _ => rfl) rfl hg rfl (by omega) (by omega) (by rw [e3]; simp [hNc])⟩
  refine PhJ.last [4, 5] (by kernel_rfl) ⟨⟨_, rfl, chg_step (by rw [e4]; simp only [List.length_append, List.length_cons, List.length_nil]; omega) (sm_loadN rfl rfl (get_setne (by omega) (hk_old hc1 4)) (by simp) rfl)⟩,
    ⟨_, rfl, chg_step (by rw [e5]; simp only [List.length_append, List.length_cons, List.length_nil]; omega) (sm_buildS (by rw [List.length_set, e5]; simp only [List.length_append, List.length_cons, List.length_nil]; omega) (by decide) rfl)⟩, trivial⟩ ?_
  rw [chgD_TK, chgD_HK, e6]
  obtain ⟨H5, hH5⟩ : ∃ H5 : AHeap, H5 = List.set (Hc ++ [AObj.row [] 3 true] ++ LA ++ [.row (encC cl) 3 true]) (H.length + 3) oA := ⟨_, rfl⟩
  rw [← hH5]
  have f0 : H5[H.length]? = some (.row [.int .i64 m.hour, .int .i64 m.grace, s1, s2, s3] 1 true) := by rw [hH5]; exact get_setne (by omega) (get_old (get_old (get_old hc0)))
  have f1 : H5[H.length + 1]? = some (.row (encC cl) 1 true) := by rw [hH5]; exact get_setne (by omega) (get_old (get_old (get_old hc1)))
  have f2 : H5[H.length + 2]? = some (.row [.int .i64 m.hour, .int .i64 m.grace, s1, s2, s3] 1 true) := by rw [hH5]; exact get_setne (by omega) (get_old (get_old (get_old hc2)))
  have x5 : Ext H H5 := by rw [hH5]; exact Ext.set (((hcx.app _).app _).app _) (by omega) _
  have fC : H5[jC]? = some (.row (encC cl) 3 true) := by
    rw [hH5]
    refine get_setne (by omega) ?_
    rw [List.getElem?_append_right (by simp only [List.length_append, List.length_cons, List.length_nil]; omega), show jC - (Hc ++ [AObj.row [] 3 true] ++ LA).length = 0 by simp only [List.length_append, List.length_cons, List.length_nil]; omega]; rfl
  have fA : H5[jA]? = some (.row (m.clips.map encC).flatten 3 true) := by
    rw [hH5]
    rcases hAc with ⟨he, rfl, rfl, rfl, rfl⟩ | ⟨he, rfl, rfl, rfl, rfl⟩
    · rw [he, List.getElem?_set_self (by simp [hNc])]; rfl
    · refine get_setne (by omega) (get_old ?_)
      rw [List.getElem?_append_right (by simp [hNc]), show H.length + 4 - (Hc ++ [AObj.row [] 3 true]).length = 0 by simp [hNc]]; rfl
  have hjA : H.length + 3 ≤ jA := by rcases hAc with ⟨_, h, _⟩ | ⟨_, h, _⟩ <;> omega
  have hjAC : jA ≠ jC := by rcases hAc with ⟨_, h, _, h2, _⟩ | ⟨_, h, _, h2, _⟩ <;> rw [h2] at hjC <;> simp at hjC <;> omega
  have hjal := (List.getElem?_eq_some_iff.1 fA).1
  have hfl3 : (m.clips.map encC).flatten.length = m.clips.length * 3 := flatten_lenG encC_len _
  clear hAc hH5 hAf e3 e4 e5 e6 hHc hc0 hc1 hc2 hcx hst5 hNc hjC
  refine OpsJ.norm (by simp only [TK, dstA, vD, List.getElem?_toArray, List.getElem?_cons_zero, List.getElem?_cons_succ, Option.map_some, Option.getD_some, Option.bind_some, putT, List.set_cons_succ, List.set_cons_zero]; rfl) rfl ?_
  clear oA LA
  refine st_appendOwn (n' := 3) (b' := 24) ?_ rfl rfl fA (by omega) fC (Nat.le_refl 3) rfl rfl ⟨by omega, by omega⟩ ?_
  · rfl
  rw [show List.take (m.clips.length * 3) (m.clips.map encC).flatten ++ List.take (1 * 3) (List.drop 0 (encC cl)) = ((m.clips ++ [cl]).map encC).flatten by rw [List.take_of_length_le (by omega)]; simp]
  obtain ⟨j, hj⟩ : ∃ j : Nat, j = H5.length := ⟨_, rfl⟩
  rw [← hj]
  obtain ⟨Hq, hHq⟩ : ∃ Hq : AHeap, Hq = List.set H5 jA .dead ++ [AObj.row ((m.clips ++ [cl]).map encC).flatten 3 true] := ⟨_, rfl⟩
  rw [← hHq]
  have q0 : Hq[H.length]? = some (.row [.int .i64 m.hour, .int .i64 m.grace, s1, s2, s3] 1 true) := by rw [hHq]; exact get_old (get_setne (by omega) f0)
  have q2 : Hq[H.length + 2]? = some (.row [.int .i64 m.hour, .int .i64 m.grace, s1, s2, s3] 1 true) := by rw [hHq]; exact get_old (get_setne (by omega) f2)
  have qx : Hq[j]? = some (.row ((m.clips ++ [cl]).map encC).flatten 3 true) := by rw [hHq, hj, List.getElem?_append_right (by simp)]; simp
  have xq : Ext H Hq := by rw [hHq]; exact Ext.app (Ext.set x5 (by omega) _) _
  have hjn : H.length + 3 ≤ j := by omega
  clear f0 f1 f2 fA fC x5 hHq hj hjA hjAC hjal hfl3
  clear H5
  refine OpsJ.normA ?_
  repeat' (first
    | (refine is_ucall ?_; first
      | refine st_callP (h := readyW_spec _ _ _ m s1 s2 s3 (hm.ext extA)) (k := ?_)
      | refine st_callP (h := awake_spec _ _ _) (k := ?_)
      | fail)
    | (refine is_umcall ?_; first
      | refine mj_callP (h := readyW_spec _ _ _ m s1 s2 s3 (hm.ext extA)) (k := ?_)
      | refine mj_callP (h := awake_spec _ _ _) (k := ?_)
      | fail)
    | refine W1 ?_ | refine Wc ?_ | refine W2c ?_ ?_ | refine Wg ?_ | refine W2 ?_ ?_ | exact Wdead | refine Wlive (fun hb => ?_) | intro _ _ _ _ _ _ _ _ | refine We ?_ | refine Wx ?_ | refine Wt ?_ | refine Wm ?_ | refine W2m ?_ ?_ | refine Wl ?_
    | fail)
  · have hr : thinS m = true ∧ checkS m = 0 := by assumption
    have hI := hm.is hr.1
    have hG := good_of hr.2
    have hn3 := hG.n3
    refine st_callP (h := ready_y E _ _ (moreM m cl) s1 s2 (.slice (some ⟨j, 0, none⟩) (m.clips.length + 1) (m.clips.length + 1)) (house_ym (hI.ext extA) (by omega) getA)) (k := ?_)
    refine OpsJ.normA ?_
    repeat' (first
      | (refine is_ucall ?_; first
        | refine st_callP (h := readyW_spec _ _ _ m s1 s2 s3 (hm.ext extA)) (k := ?_)
        | refine st_callP (h := awake_spec _ _ _) (k := ?_)
        | fail)
      | (refine is_umcall ?_; first
        | refine mj_callP (h := readyW_spec _ _ _ m s1 s2 s3 (hm.ext extA)) (k := ?_)
        | refine mj_callP (h := awake_spec _ _ _) (k := ?_)
        | fail)
      | refine W1 ?_ | refine Wc ?_ | refine W2c ?_ ?_ | refine Wg ?_ | refine W2 ?_ ?_ | exact Wdead | refine Wlive (fun hb => ?_) | intro _ _ _ _ _ _ _ _ | refine We ?_ | refine Wx ?_ | refine Wt ?_ | refine Wm ?_ | refine W2m ?_ ?_ | refine Wl ?_
      | fail)
    · exact ⟨rfl, rfl, rfl⟩
    have hrx : thinS (moreM m cl) = true ∧ checkS (moreM m cl) = 0 := by assumption
    have hgx := good_of hrx.2
    have hlv := more_leave hG hgx
    have hmn := more_sub m cl
    have hca := fun (t : Nat) (ht : t < m.clocks.length) => more_clock_at m cl ht
    have hlk := more_look m cl
    have hcl0 : 0 < m.clocks.length := by
      have := (hgx.clip cl (by simp [moreM])).2.1
      have h2 : (moreM m cl).clocks = m.clocks := rfl
      rw [h2] at this
      omega
    have hxc : (moreM m cl).clocks.length = m.clocks.length := rfl
    refine st_call rfl (House_w E _ _ m s1 s2 s3 (hI.ext extA) hr.1) ?_
    rintro _ H6 g6 ⟨⟨t1, t2, t3, rfl, hmh, e6⟩, rfl⟩
    have x6 : Ext H H6 := Ext.trans extA e6
    have hb6 : H6[H.length]? = some (.row [.int .i64 m.hour, .int .i64 m.grace, s1, s2, s3] 1 true) := e6.get getA
    have hc6 : H6[H.length + 2]? = some (.row [.int .i64 (moreM m cl).hour, .int .i64 (moreM m cl).grace, s1, s2, .slice (some ⟨j, 0, none⟩) (m.clips.length + 1) (m.clips.length + 1)] 1 true) := e6.get getA
    have hj6 : H6[j]? = some (.row ((m.clips ++ [cl]).map encC).flatten 3 true) := e6.get getA
    have hY := house_ym (c := m.clips.length + 1) (hI.ext x6) (by omega) hj6
    have hzx := leave_zero hgx
    generalize moreM m cl = x at *
    have hthx := hrx.1
    clear e6 hj6 q0 q2 qx xq
    refine OpsJ.normA ?_
    repeat' (first
      | (refine is_ucall ?_; first
        | refine st_callP (h := readyW_spec _ _ _ m s1 s2 s3 (hm.ext extA)) (k := ?_)
        | refine st_callP (h := awake_spec _ _ _) (k := ?_)
        | fail)
      | (refine is_umcall ?_; first
        | refine mj_callP (h := readyW_spec _ _ _ m s1 s2 s3 (hm.ext extA)) (k := ?_)
        | refine mj_callP (h := awake_spec _ _ _) (k := ?_)
        | fail)
      | refine W1 ?_ | refine Wc ?_ | refine W2c ?_ ?_ | refine Wg ?_ | refine W2 ?_ ?_ | exact Wdead | refine Wlive (fun hb => ?_) | intro _ _ _ _ _ _ _ _ | refine We ?_ | refine Wx ?_ | refine Wt ?_ | refine Wm ?_ | refine W2m ?_ ?_ | refine Wl ?_
      | fail)
    refine st_call rfl (LeaveY E _ _ m t1 t2 t3 hr.2 (hmh.ext extA)) ?_
    rintro _ H7 g7 ⟨⟨lv, rfl, hLm, e7⟩, rfl⟩
    have x7 : Ext H H7 := x6.trans e7
    have hb7 := e7.get hb6
    have hc7 := e7.get hc6
    replace hY := hY.ext e7
    refine OpsJ.normA ?_
    repeat' (first
      | (refine is_ucall ?_; first
        | refine st_callP (h := readyW_spec _ _ _ m s1 s2 s3 (hm.ext extA)) (k := ?_)
        | refine st_callP (h := awake_spec _ _ _) (k := ?_)
        | fail)
      | (refine is_umcall ?_; first
        | refine mj_callP (h := readyW_spec _ _ _ m s1 s2 s3 (hm.ext extA)) (k := ?_)
        | refine mj_callP (h := awake_spec _ _ _) (k := ?_)
        | fail)
      | refine W1 ?_ | refine Wc ?_ | refine W2c ?_ ?_ | refine Wg ?_ | refine W2 ?_ ?_ | exact Wdead | refine Wlive (fun hb => ?_) | intro _ _ _ _ _ _ _ _ | refine We ?_ | refine Wx ?_ | refine Wt ?_ | refine Wm ?_ | refine W2m ?_ ?_ | refine Wl ?_
      | fail)
    refine st_call rfl (House_wy E _ _ x _ _ _ hY hthx) ?_
    rintro _ H8 g8 ⟨⟨t1, t2, t3, rfl, hmh, e8⟩, rfl⟩
    have x8 : Ext H H8 := x7.trans e8
    have hb8 := e8.get hb7
    have hc8 := e8.get hc7
    replace hY := hY.ext e8
    replace hLm := hLm.ext e8
    refine OpsJ.normA ?_
    repeat' (first
      | (refine is_ucall ?_; first
        | refine st_callP (h := readyW_spec _ _ _ m s1 s2 s3 (hm.ext extA)) (k := ?_)
        | refine st_callP (h := awake_spec _ _ _) (k := ?_)
        | fail)
      | (refine is_umcall ?_; first
        | refine mj_callP (h := readyW_spec _ _ _ m s1 s2 s3 (hm.ext extA)) (k := ?_)
        | refine mj_callP (h := awake_spec _ _ _) (k := ?_)
        | fail)
      | refine W1 ?_ | refine Wc ?_ | refine W2c ?_ ?_ | refine Wg ?_ | refine W2 ?_ ?_ | exact Wdead | refine Wlive (fun hb => ?_) | intro _ _ _ _ _ _ _ _ | refine We ?_ | refine Wx ?_ | refine Wt ?_ | refine Wm ?_ | refine W2m ?_ ?_ | refine Wl ?_
      | fail)
    refine st_call rfl (LeaveY E _ _ x t1 t2 t3 hrx.2 (hmh.ext extA)) ?_
    rintro _ H9 g9 ⟨⟨mv, rfl, hLx, e9⟩, rfl⟩
    have x9 : Ext H H9 := x8.trans e9
    have hb9 := e9.get hb8
    have hc9 := e9.get hc8
    replace hY := hY.ext e9
    replace hLm := hLm.ext e9
    have hle1 : (leaveS m).length ≤ (leaveS x).length := hlv.1
    have hle2 : (leaveS x).length ≤ (leaveS m).length + 1 := hlv.2
    have hel : (encI (leaveS m)).length = (leaveS m).length := by simp [encI]
    have hel2 : (encI (leaveS x)).length = (leaveS x).length := by simp [encI]
    have hlen : (leaveS m).length ≤ 1000000 := by
      obtain ⟨⟨l, e, hp, hb⟩, _⟩ := leave_is hG
      have := inc_len l 0 m.clips.length hp fun y hy => ⟨Nat.zero_le _, hb y hy⟩
      rw [e, List.length_map]; omega
    cases hTX : hasS x with
    | false =>
      have hz2 : (leaveS x).length ≠ 0 := fun e => by rw [hzx.1 e] at hTX; cases hTX
      refine OpsJ.normA ?_
      repeat' (first
        | (refine is_ucall ?_; first
          | refine st_callP (h := awake_spec _ _ _) (k := ?_)
          | fail)
        | (refine is_umcall ?_; first
          | refine mj_callP (h := awake_spec _ _ _) (k := ?_)
          | fail)
        | refine W1 ?_ | refine Wc ?_ | refine W2c ?_ ?_ | refine Wg ?_ | refine W2 ?_ ?_ | exact Wdead | refine Wlive (fun hb => ?_) | intro _ _ _ _ _ _ _ _ | refine We ?_ | refine Wx ?_ | refine Wt ?_ | refine Wm ?_ | refine W2m ?_ ?_ | refine Wl ?_
        | fail)
      all_goals first | exact ⟨rfl, rfl, rfl⟩ | (exfalso; omega)
    | true =>
      have hz2 := hzx.2 hTX
      have hT : hasS m = true := has_mono (fun es h => hmn.subset h) hTX
      have hT0 : checkT m = 0 := by unfold checkT; rw [if_pos hr.2, if_pos hT]
      have hTx : checkT x = 0 := by unfold checkT; rw [if_pos hrx.2, if_pos hTX]
      refine OpsJ.normA ?_
      repeat' (first
        | (refine is_ucall ?_; first
          | refine st_callP (h := awake_spec _ _ _) (k := ?_)
          | fail)
        | (refine is_umcall ?_; first
          | refine mj_callP (h := awake_spec _ _ _) (k := ?_)
          | fail)
        | refine W1 ?_ | refine Wc ?_ | refine W2c ?_ ?_ | refine Wg ?_ | refine W2 ?_ ?_ | exact Wdead | refine Wlive (fun hb => ?_) | intro _ _ _ _ _ _ _ _ | refine We ?_ | refine Wx ?_ | refine Wt ?_ | refine Wm ?_ | refine W2m ?_ ?_ | refine Wl ?_
        | fail)
      clear hLm hLx hel hel2 hle1 hle2 hlv hzx
      refine st_call rfl (House_w E _ _ m s1 s2 s3 (hI.ext x9) hr.1) ?_
      rintro _ H10 g10 ⟨⟨t1, t2, t3, rfl, hmh, e10⟩, rfl⟩
      have x10 : Ext H H10 := x9.trans e10
      have hb10 := e10.get hb9
      have hc10 := e10.get hc9
      replace hY := hY.ext e10
      refine OpsJ.normA ?_
      repeat' (first
        | (refine is_ucall ?_; first
          | refine st_callP (h := awake_spec _ _ _) (k := ?_)
          | fail)
        | (refine is_umcall ?_; first
          | refine mj_callP (h := awake_spec _ _ _) (k := ?_)
          | fail)
        | refine W1 ?_ | refine Wc ?_ | refine W2c ?_ ?_ | refine Wg ?_ | refine W2 ?_ ?_ | exact Wdead | refine Wlive (fun hb => ?_) | intro _ _ _ _ _ _ _ _ | refine We ?_ | refine Wx ?_ | refine Wt ?_ | refine Wm ?_ | refine W2m ?_ ?_ | refine Wl ?_
        | fail)
      refine st_call rfl (ClocksRY E _ _ m t1 t2 t3 hT0 (hmh.ext extA)) ?_
      rintro _ H11 g11 ⟨⟨cv, rfl, hC, e11⟩, rfl⟩
      have x11 : Ext H H11 := x10.trans e11
      have hb11 := e11.get hb10
      have hc11 := e11.get hc10
      replace hY := hY.ext e11
      refine OpsJ.normA ?_
      repeat' (first
        | (refine is_ucall ?_; first
          | refine st_callP (h := awake_spec _ _ _) (k := ?_)
          | fail)
        | (refine is_umcall ?_; first
          | refine mj_callP (h := awake_spec _ _ _) (k := ?_)
          | fail)
        | refine W1 ?_ | refine Wc ?_ | refine W2c ?_ ?_ | refine Wg ?_ | refine W2 ?_ ?_ | exact Wdead | refine Wlive (fun hb => ?_) | intro _ _ _ _ _ _ _ _ | refine We ?_ | refine Wx ?_ | refine Wt ?_ | refine Wm ?_ | refine W2m ?_ ?_ | refine Wl ?_
        | fail)
      refine st_call rfl (House_wy E _ _ x _ _ _ hY hthx) ?_
      rintro _ H12 g12 ⟨⟨t1, t2, t3, rfl, hmh, e12⟩, rfl⟩
      have x12 : Ext H H12 := x11.trans e12
      have hb12 := e12.get hb11
      have hc12 := e12.get hc11
      replace hY := hY.ext e12
      replace hC := hC.ext e12
      refine OpsJ.normA ?_
      repeat' (first
        | (refine is_ucall ?_; first
          | refine st_callP (h := awake_spec _ _ _) (k := ?_)
          | fail)
        | (refine is_umcall ?_; first
          | refine mj_callP (h := awake_spec _ _ _) (k := ?_)
          | fail)
        | refine W1 ?_ | refine Wc ?_ | refine W2c ?_ ?_ | refine Wg ?_ | refine W2 ?_ ?_ | exact Wdead | refine Wlive (fun hb => ?_) | intro _ _ _ _ _ _ _ _ | refine We ?_ | refine Wx ?_ | refine Wt ?_ | refine Wm ?_ | refine W2m ?_ ?_ | refine Wl ?_
        | fail)
      refine st_call rfl (ClocksRY E _ _ x t1 t2 t3 hTx (hmh.ext extA)) ?_
      rintro _ H13 g13 ⟨⟨dv, rfl, hD, e13⟩, rfl⟩
      have x13 : Ext H H13 := x12.trans e13
      have hb13 := e13.get hb12
      have hc13 := e13.get hc12
      replace hY := hY.ext e13
      replace hC := hC.ext e13
      refine OpsJ.normA ?_
      repeat' (first
        | (refine is_ucall ?_; first
          | refine st_callP (h := awake_spec _ _ _) (k := ?_)
          | fail)
        | (refine is_umcall ?_; first
          | refine mj_callP (h := awake_spec _ _ _) (k := ?_)
          | fail)
        | refine W1 ?_ | refine Wc ?_ | refine W2c ?_ ?_ | refine Wg ?_ | refine W2 ?_ ?_ | exact Wdead | refine Wlive (fun hb => ?_) | intro _ _ _ _ _ _ _ _ | refine We ?_ | refine Wx ?_ | refine Wt ?_ | refine Wm ?_ | refine W2m ?_ ?_ | refine Wl ?_
        | fail)
      refine st_call rfl (House_w E _ _ m s1 s2 s3 (hI.ext x13) hr.1) ?_
      rintro _ H14 g14 ⟨⟨t1, t2, t3, rfl, hmh, e14⟩, rfl⟩
      have x14 : Ext H H14 := x13.trans e14
      have hb14 := e14.get hb13
      have hc14 := e14.get hc13
      replace hY := hY.ext e14
      replace hC := hC.ext e14
      replace hD := hD.ext e14
      refine OpsJ.normA ?_
      repeat' (first
        | (refine is_ucall ?_; first
          | refine st_callP (h := awake_spec _ _ _) (k := ?_)
          | fail)
        | (refine is_umcall ?_; first
          | refine mj_callP (h := awake_spec _ _ _) (k := ?_)
          | fail)
        | refine W1 ?_ | refine Wc ?_ | refine W2c ?_ ?_ | refine Wg ?_ | refine W2 ?_ ?_ | exact Wdead | refine Wlive (fun hb => ?_) | intro _ _ _ _ _ _ _ _ | refine We ?_ | refine Wx ?_ | refine Wt ?_ | refine Wm ?_ | refine W2m ?_ ?_ | refine Wl ?_
        | fail)
      have hzm : lookE m = 0 := by unfold lookE; rw [if_pos hT0, if_neg (by omega)]
      have hzx2 : lookE x = 0 := by unfold lookE; rw [if_pos hTx, if_neg (by omega)]
      have hlq := hlk hcl0
      obtain ⟨q, hq⟩ : ∃ q, lookV m = q := ⟨_, rfl⟩
      obtain ⟨q', hq'⟩ : ∃ q, lookV x = q := ⟨_, rfl⟩
      rw [hq, hq'] at hlq
      obtain ⟨c1, hq1⟩ : ∃ c, indexS (leavesS m) (lookV m) = c := ⟨_, rfl⟩
      obtain ⟨c2, hq2⟩ : ∃ c, indexS (leavesS x) (lookV x) = c := ⟨_, rfl⟩
      refine st_callP (h := LookY E _ _ m t1 t2 t3 0 c1 q hzm (by rw [if_pos rfl, hq1, hq]) (hmh.ext extA)) (k := ?_)
      refine OpsJ.normA ?_
      repeat' (first
        | (refine is_ucall ?_; first
          | refine st_callP (h := awake_spec _ _ _) (k := ?_)
          | fail)
        | (refine is_umcall ?_; first
          | refine mj_callP (h := awake_spec _ _ _) (k := ?_)
          | fail)
        | refine W1 ?_ | refine Wc ?_ | refine W2c ?_ ?_ | refine Wg ?_ | refine W2 ?_ ?_ | exact Wdead | refine Wlive (fun hb => ?_) | intro _ _ _ _ _ _ _ _ | refine We ?_ | refine Wx ?_ | refine Wt ?_ | refine Wm ?_ | refine W2m ?_ ?_ | refine Wl ?_
        | fail)
      refine st_call rfl (House_wy E _ _ x _ _ _ hY hthx) ?_
      rintro _ H15 g15 ⟨⟨t1, t2, t3, rfl, hmh, e15⟩, rfl⟩
      have x15 : Ext H H15 := x14.trans e15
      have hb15 := e15.get hb14
      have hc15 := e15.get hc14
      replace hY := hY.ext e15
      replace hC := hC.ext e15
      replace hD := hD.ext e15
      refine OpsJ.normA ?_
      repeat' (first
        | (refine is_ucall ?_; first
          | refine st_callP (h := awake_spec _ _ _) (k := ?_)
          | fail)
        | (refine is_umcall ?_; first
          | refine mj_callP (h := awake_spec _ _ _) (k := ?_)
          | fail)
        | refine W1 ?_ | refine Wc ?_ | refine W2c ?_ ?_ | refine Wg ?_ | refine W2 ?_ ?_ | exact Wdead | refine Wlive (fun hb => ?_) | intro _ _ _ _ _ _ _ _ | refine We ?_ | refine Wx ?_ | refine Wt ?_ | refine Wm ?_ | refine W2m ?_ ?_ | refine Wl ?_
        | fail)
      refine st_callP (h := LookY E _ _ x t1 t2 t3 0 c2 q' hzx2 (by rw [if_pos rfl, hq2, hq']) (hmh.ext extA)) (k := ?_)
      have hn1 := hG.n1
      have hcl : (clocksS m).length = (clocksS x).length := by simp [clocksS, hxc]
      have hdl : (clocksS x).length = m.clocks.length := by simp [clocksS, hxc]
      have hdn : (clocksS x).length ≤ 1000000 := by omega
      have hci : ∀ j, j < (clocksS x).length → ∃ r s : Int × Int, ((clocksS x).map encR)[(j : Int).toNat]? = some (encR r) ∧ ((clocksS m).map encR)[(j : Int).toNat]? = some (encR s) ∧ s.1 ≤ r.1 ∧ r.2 ≤ s.2 := fun j h => by
        obtain ⟨r, s, h1, h2, h3, h4⟩ := hca j (by omega)
        exact ⟨s, r, h2, h1, h3, h4⟩
      clear e10 e11 e12 e13 e14 e15 x10 x11 x12 x13 x14 hb10 hb11 hb12 hb13 hb14 hc10 hc11 hc12 hc13 hc14 hmh
      refine OpsJ.normA ?_
      repeat' (first
        | (refine is_ucall ?_; first
          | refine st_callP (h := awake_spec _ _ _) (k := ?_)
          | refine st_callP (h := inside_true _ _ _ dv cv _ _ (hD.ext extA) (hC.ext extA) hdn hcl hci) (k := ?_)
          | fail)
        | (refine is_umcall ?_; first
          | refine mj_callP (h := awake_spec _ _ _) (k := ?_)
          | refine mj_callP (h := inside_true _ _ _ dv cv _ _ (hD.ext extA) (hC.ext extA) hdn hcl hci) (k := ?_)
          | fail)
        | refine W1 ?_ | refine Wc ?_ | refine W2c ?_ ?_ | refine Wg ?_ | refine W2 ?_ ?_ | exact Wdead | refine Wlive (fun hb => ?_) | intro _ _ _ _ _ _ _ _ | refine We ?_ | refine Wx ?_ | refine Wt ?_ | refine Wm ?_ | refine W2m ?_ ?_ | refine Wl ?_
        | fail)
      all_goals first | exact ⟨rfl, rfl, rfl⟩ | (exfalso; omega)
  · exact ⟨rfl, rfl, rfl⟩
end
end Go.Proofs.Ytehobnpoeodhkaa
