import Derived.Test.YtehobnpoeodhkaaR3
namespace Go.Proofs.Ytehobnpoeodhkaa
open Go Go.Abs Go.Proofs
set_option maxHeartbeats 1600000
attribute [local irreducible] CallJ OpsJ WPJ CallV MonoJ SpecJ

theorem rd_row {α : Type} {enc : α → List Value} {w : Nat} (hw : ∀ a, (enc a).length = w) {H : AHeap} {i c : Nat} {own : Bool} {l : List α} (h : H[i]? = some (.row (l.map enc).flatten w own)) : RdS H (.slice (some ⟨i, 0, none⟩) l.length c) w (l.map enc) := by
  have h1 := flatten_lenG hw l
  refine ⟨fun x hx => by obtain ⟨a, _, rfl⟩ := List.mem_map.1 hx; exact hw a, .inl ⟨i, 0, c, _, w, own, by simp, h, by simp only [List.length_map]; omega, ?_⟩⟩
  rw [List.drop_zero]
  exact List.take_of_length_le (by simp only [List.length_map]; omega)
theorem rangesT {H H' : AHeap} {e : Int} {l : List (Int × Int)} {v : Value} (h : RangesW H e l v H') (he : e = 0) : ∃ sv, v = .tuple #[sv, .int .i64 0] ∧ RdS H' sv 2 (l.map encR) := by
  obtain ⟨_, ⟨_, i, c, own, rfl, h2⟩ | ⟨h1, _⟩⟩ := h
  · exact ⟨_, rfl, rd_row (enc := encR) (w := 2) (fun _ => rfl) h2⟩
  · exact absurd he h1
theorem rangesN {H H' : AHeap} {e : Int} {l : List (Int × Int)} {v : Value} (h : RangesW H e l v H') (he : e ≠ 0) : v = .tuple #[.slice none 0 0, .int .i64 e] := by
  obtain ⟨_, ⟨h1, _⟩ | ⟨_, h1⟩⟩ := h
  · exact absurd h1 he
  · exact h1
theorem intsT {H H' : AHeap} {e : Int} {l : List Int} {v : Value} (h : IntsW H e l v H') (he : e = 0) : ∃ sv, v = .tuple #[sv, .int .i64 0] ∧ RdS H' sv 1 (encI l) := by
  obtain ⟨_, ⟨_, i, c, own, rfl, h2⟩ | ⟨h1, _⟩⟩ := h
  · rw [← enc1_flat] at h2
    exact ⟨_, rfl, rd_row (enc := enc1) (w := 1) (fun _ => rfl) h2⟩
  · exact absurd he h1
theorem intsN {H H' : AHeap} {e : Int} {l : List Int} {v : Value} (h : IntsW H e l v H') (he : e ≠ 0) : v = .tuple #[.slice none 0 0, .int .i64 e] := by
  obtain ⟨_, ⟨h1, _⟩ | ⟨_, h1⟩⟩ := h
  · exact absurd h1 he
  · exact h1
theorem sure_zero {m : HouseM} (h : checkT m = 0) : checkS m = 0 ∧ hasS m = true := by
  unfold checkT at h
  split at h
  · rename_i h1
    split at h
    · rename_i h2; exact ⟨h1, h2⟩
    · cases h
  · rename_i h1; exact absurd h h1
theorem checkT_valid {m : HouseM} (hS : checkS m = 0) (h : checkT m ≠ 0) : checkT m = 11 ∧ hasS m = false := by
  unfold checkT at h ⊢
  rw [if_pos hS] at h ⊢
  cases h2 : hasS m with
  | true => rw [h2] at h; exact absurd rfl h
  | false => exact ⟨rfl, rfl⟩
theorem checkT_not {m : HouseM} (hS : checkS m ≠ 0) : checkT m = checkS m := by unfold checkT; rw [if_neg hS]
section
variable {γ : Type} (E : Env γ) (g : γ) (H : AHeap)
theorem ClocksR (m : HouseM) (s1 s2 s3 : Value) (hT : checkT m = 0) (hm : HouseIs H m s1 s2 s3) : CallJ Try.prog E 34 [hv m s1 s2 s3] (fun v H' g' => (∃ sv, v = .tuple #[sv, .int .i64 0] ∧ RdS H' sv 2 ((clocksS m).map encR) ∧ Ext H H') ∧ g' = g) H g :=
  (ClocksW_spec E g H m s1 s2 s3 hm).mono (by rintro v H' g' ⟨h, rfl⟩; obtain ⟨sv, h1, h2⟩ := rangesT h hT; exact ⟨⟨sv, h1, h2, h.1⟩, rfl⟩)
theorem ClocksE (m : HouseM) (s1 s2 s3 : Value) (e : Int) (he : checkT m = e) (h0 : e ≠ 0) (hm : HouseIs H m s1 s2 s3) : CallJ Try.prog E 34 [hv m s1 s2 s3] (fun v H' g' => (v = .tuple #[.slice none 0 0, .int .i64 e] ∧ Ext H H') ∧ g' = g) H g :=
  (ClocksW_spec E g H m s1 s2 s3 hm).mono (by rintro v H' g' ⟨h, rfl⟩; rw [he] at h; exact ⟨⟨rangesN h h0, h.1⟩, rfl⟩)
theorem HoursR (m : HouseM) (s1 s2 s3 : Value) (hT : checkT m = 0) (hm : HouseIs H m s1 s2 s3) : CallJ Try.prog E 35 [hv m s1 s2 s3] (fun v H' g' => (∃ sv, v = .tuple #[sv, .int .i64 0] ∧ RdS H' sv 2 ((hrsS m).map encR) ∧ Ext H H') ∧ g' = g) H g :=
  (HoursW_spec E g H m s1 s2 s3 hm).mono (by rintro v H' g' ⟨h, rfl⟩; obtain ⟨sv, h1, h2⟩ := rangesT h hT; exact ⟨⟨sv, h1, h2, h.1⟩, rfl⟩)
theorem HoursE (m : HouseM) (s1 s2 s3 : Value) (e : Int) (he : checkT m = e) (h0 : e ≠ 0) (hm : HouseIs H m s1 s2 s3) : CallJ Try.prog E 35 [hv m s1 s2 s3] (fun v H' g' => (v = .tuple #[.slice none 0 0, .int .i64 e] ∧ Ext H H') ∧ g' = g) H g :=
  (HoursW_spec E g H m s1 s2 s3 hm).mono (by rintro v H' g' ⟨h, rfl⟩; rw [he] at h; exact ⟨⟨rangesN h h0, h.1⟩, rfl⟩)
theorem LongR (m : HouseM) (s1 s2 s3 : Value) (hT : checkT m = 0) (hm : HouseIs H m s1 s2 s3) : CallJ Try.prog E 40 [hv m s1 s2 s3] (fun v H' g' => (∃ sv, v = .tuple #[sv, .int .i64 0] ∧ RdS H' sv 1 (encI (longS m)) ∧ Ext H H') ∧ g' = g) H g :=
  (LongW_spec E g H m s1 s2 s3 hm).mono (by rintro v H' g' ⟨h, rfl⟩; obtain ⟨sv, h1, h2⟩ := intsT h hT; exact ⟨⟨sv, h1, h2, h.1⟩, rfl⟩)
theorem LongE (m : HouseM) (s1 s2 s3 : Value) (e : Int) (he : checkT m = e) (h0 : e ≠ 0) (hm : HouseIs H m s1 s2 s3) : CallJ Try.prog E 40 [hv m s1 s2 s3] (fun v H' g' => (v = .tuple #[.slice none 0 0, .int .i64 e] ∧ Ext H H') ∧ g' = g) H g :=
  (LongW_spec E g H m s1 s2 s3 hm).mono (by rintro v H' g' ⟨h, rfl⟩; rw [he] at h; exact ⟨⟨intsN h h0, h.1⟩, rfl⟩)
theorem faultC (m : HouseM) (s1 s2 s3 : Value) (c : Int) (hc : checkS m = c) (hm : HouseIs H m s1 s2 s3) : CallJ Try.prog E 29 [hv m s1 s2 s3] (fun v H' g' => v = .int .i64 c ∧ H' = H ∧ g' = g) H g := by
  rw [← hc]; exact fault_spec E g H m s1 s2 s3 hm
theorem sureT (m : HouseM) (s1 s2 s3 : Value) (hT : checkT m = 0) (hm : HouseIs H m s1 s2 s3) : CallJ Try.prog E 36 [hv m s1 s2 s3] (fun v H' g' => (∃ lv, v = .tuple #[lv, .int .i64 0] ∧ LL H' lv (refL m) ∧ Ext H H') ∧ g' = g) H g := by
  have hok := hm.cells
  obtain ⟨hS, hT2⟩ := sure_zero hT
  have hG := good_of hS
  unfold hv
  refine CallJ.enter Try.func36 rfl (by simp only [Try.ntmps36, List.length_cons, List.length_nil, Nat.zero_add, Nat.reduceSub, List.replicate_succ, List.replicate_zero, List.cons_append, List.nil_append]; rfl) ?_
  repeat' (first
    | (refine is_ucall ?_; first
      | refine st_callP (h := faultC _ _ _ m s1 s2 s3 _ hS (hm.ext extA)) (k := ?_)
      | fail)
    | (refine is_umcall ?_; first
      | refine mj_callP (h := faultC _ _ _ m s1 s2 s3 _ hS (hm.ext extA)) (k := ?_)
      | fail)
    | refine W1 ?_ | refine Wc ?_ | refine W2c ?_ ?_ | refine Wg ?_ | refine W2 ?_ ?_ | exact Wdead | refine Wlive (fun hb => ?_) | intro _ _ _ _ _ _ _ _ | refine We ?_ | refine Wx ?_ | refine Wt ?_ | refine Wm ?_ | refine W2m ?_ ?_ | refine Wl ?_
    | fail)
  refine st_call rfl (Truths_spec E _ _ m s1 s2 s3 (hm.ext extA) hG) ?_
  rintro lv H1 g1 ⟨⟨hL, e1⟩, rfl⟩
  have x1 : Ext H H1 := Ext.trans extA e1
  obtain ⟨vs, hvs, hvl, hin⟩ := hL
  have hne : vs.length ≠ 0 := by
    rw [hvl]
    intro e
    have := (ref_ne hG).1 (List.length_eq_zero_iff.1 e)
    rw [this] at hT2; cases hT2
  refine OpsJ.normA ?_
  repeat' (first
    | (refine is_ucall ?_; first
      | refine st_callP (h := faultC _ _ _ m s1 s2 s3 _ hS (hm.ext extA)) (k := ?_)
      | fail)
    | (refine is_umcall ?_; first
      | refine mj_callP (h := faultC _ _ _ m s1 s2 s3 _ hS (hm.ext extA)) (k := ?_)
      | fail)
    | refine W1 ?_ | refine Wc ?_ | refine W2c ?_ ?_ | refine Wg ?_ | refine W2 ?_ ?_ | exact Wdead | refine Wlive (fun hb => ?_) | intro _ _ _ _ _ _ _ _ | refine We ?_ | refine Wx ?_ | refine Wt ?_ | refine Wm ?_ | refine W2m ?_ ?_ | refine Wl ?_
    | fail)
  exact ⟨⟨lv, rfl, ⟨vs, hvs, hvl, hin⟩, x1⟩, rfl⟩
theorem sureN (m : HouseM) (s1 s2 s3 : Value) (e : Int) (he : checkT m = e) (h0 : e ≠ 0) (hm : HouseIs H m s1 s2 s3) : CallJ Try.prog E 36 [hv m s1 s2 s3] (fun v H' g' => (v = .tuple #[.slice none 0 0, .int .i64 e] ∧ Ext H H') ∧ g' = g) H g := by
  have hok := hm.cells
  subst he
  unfold hv
  by_cases hS : checkS m = 0
  · obtain ⟨hT1, hT2⟩ := checkT_valid hS h0
    have hG := good_of hS
    rw [hT1]
    refine CallJ.enter Try.func36 rfl (by simp only [Try.ntmps36, List.length_cons, List.length_nil, Nat.zero_add, Nat.reduceSub, List.replicate_succ, List.replicate_zero, List.cons_append, List.nil_append]; rfl) ?_
    repeat' (first
      | (refine is_ucall ?_; first
        | refine st_callP (h := faultC _ _ _ m s1 s2 s3 _ hS (hm.ext extA)) (k := ?_)
        | fail)
      | (refine is_umcall ?_; first
        | refine mj_callP (h := faultC _ _ _ m s1 s2 s3 _ hS (hm.ext extA)) (k := ?_)
        | fail)
      | refine W1 ?_ | refine Wc ?_ | refine W2c ?_ ?_ | refine Wg ?_ | refine W2 ?_ ?_ | exact Wdead | refine Wlive (fun hb => ?_) | intro _ _ _ _ _ _ _ _ | refine We ?_ | refine Wx ?_ | refine Wt ?_ | refine Wm ?_ | refine W2m ?_ ?_ | refine Wl ?_
      | fail)
    refine st_call rfl (Truths_spec E _ _ m s1 s2 s3 (hm.ext extA) hG) ?_
    rintro lv H1 g1 ⟨⟨hL, e1⟩, rfl⟩
    have x1 : Ext H H1 := Ext.trans extA e1
    obtain ⟨vs, hvs, hvl, hin⟩ := hL
    have hne : vs.length = 0 := by
      rw [hvl, (ref_ne hG).2 hT2]; rfl
    refine OpsJ.normA ?_
    repeat' (first
      | (refine is_ucall ?_; first
        | refine st_callP (h := faultC _ _ _ m s1 s2 s3 _ hS (hm.ext extA)) (k := ?_)
        | fail)
      | (refine is_umcall ?_; first
        | refine mj_callP (h := faultC _ _ _ m s1 s2 s3 _ hS (hm.ext extA)) (k := ?_)
        | fail)
      | refine W1 ?_ | refine Wc ?_ | refine W2c ?_ ?_ | refine Wg ?_ | refine W2 ?_ ?_ | exact Wdead | refine Wlive (fun hb => ?_) | intro _ _ _ _ _ _ _ _ | refine We ?_ | refine Wx ?_ | refine Wt ?_ | refine Wm ?_ | refine W2m ?_ ?_ | refine Wl ?_
      | fail)
    exact ⟨⟨rfl, x1⟩, rfl⟩
  · rw [checkT_not hS] at h0 ⊢
    obtain ⟨c, hc⟩ : ∃ c, c = checkS m := ⟨_, rfl⟩
    rw [← hc] at h0 ⊢
    have hS' := hc.symm
    refine CallJ.enter Try.func36 rfl (by simp only [Try.ntmps36, List.length_cons, List.length_nil, Nat.zero_add, Nat.reduceSub, List.replicate_succ, List.replicate_zero, List.cons_append, List.nil_append]; rfl) ?_
    repeat' (first
      | (refine is_ucall ?_; first
        | refine st_callP (h := faultC _ _ _ m s1 s2 s3 _ hS' (hm.ext extA)) (k := ?_)
        | fail)
      | (refine is_umcall ?_; first
        | refine mj_callP (h := faultC _ _ _ m s1 s2 s3 _ hS' (hm.ext extA)) (k := ?_)
        | fail)
      | refine W1 ?_ | refine Wc ?_ | refine W2c ?_ ?_ | refine Wg ?_ | refine W2 ?_ ?_ | exact Wdead | refine Wlive (fun hb => ?_) | intro _ _ _ _ _ _ _ _ | refine We ?_ | refine Wx ?_ | refine Wt ?_ | refine Wm ?_ | refine W2m ?_ ?_ | refine Wl ?_
      | fail)
    exact ⟨⟨rfl, extA⟩, rfl⟩
end
theorem refL_len (m : HouseM) : (refL m).length ≤ 3000 := by
  have := refN_len m (min 3000 (prodS m.clocks)).toNat
  unfold refL
  omega
theorem clocks_at {m : HouseM} (hT : checkT m = 0) {j : Nat} (hj : j < m.clocks.length) : ((clocksS m).map encR)[(j : Int).toNat]? = some (encR (boundsR ((refL m).map fun l => l.getD j 0))) := by
  obtain ⟨hS, hT2⟩ := sure_zero hT
  have hG := good_of hS
  have h1 : ∀ l ∈ refL m, isE m l = true := fun l hl => ((mem_ref hG l).1 hl).1
  rw [← bounds_eq hG hT2 (q := fun es => es.getD j 0) (fun l hl => by
    have := h1 l hl
    simp only [isE, Bool.and_eq_true, decide_eq_true_eq] at this
    unfold padL
    simp [List.getD, List.getElem?_append_left (show j < l.length by omega)]) (fun l hl => by
    have h2 := isE_bd hG (h1 l hl)
    have h3 := h1 l hl
    simp only [isE, Bool.and_eq_true, decide_eq_true_eq] at h3
    have h4 : j < l.length := by omega
    have := h2.2 _ (List.getElem_mem h4)
    simpa [List.getD, h4] using this)]
  simp [clocksS, hj]
theorem hoursR_bd {m : HouseM} (hG : Good m) {l : List Int} (hE : isE m l = true) (t : Int) : -1000000 ≤ hoursR m l t ∧ hoursR m l t ≤ 1000000 := by
  unfold hoursR
  rcases of_cases hG t with ⟨_, e⟩ | ⟨k, a, _, e, _⟩ | ⟨k0, k1, a, b, _, e, ha, hb⟩
  · rw [e]; exact ⟨show (-1000000 : Int) ≤ 0 by decide, show (0 : Int) ≤ 1000000 by decide⟩
  · rw [e]; exact ⟨show (-1000000 : Int) ≤ 0 by decide, show (0 : Int) ≤ 1000000 by decide⟩
  · rw [e]
    have hh := hG.hour
    have hg := hG.grace
    have h1 := ceil_bd (stay := trueM l b - trueM l a - m.grace) hh.1
    have tb : ∀ c ∈ m.clips, -30 ≤ trueM l c ∧ trueM l c ≤ 1469 := fun c hc => by
      obtain ⟨i, hi, rfl⟩ := List.getElem_of_mem hc
      obtain ⟨x, h2, h3, h4, _⟩ := true_at hG hE (List.getElem?_eq_getElem hi)
      have h5 := hG.clip _ hc
      have h6 := (isE_bd hG hE).1 _ hc
      have h7 : m.clips[i].clock.toNat < m.clocks.length := by have := hE; simp only [isE, Bool.and_eq_true, decide_eq_true_eq] at this; omega
      have h8 : (m.clocks[m.clips[i].clock.toNat], x) ∈ m.clocks.zip l := List.mem_of_getElem? (i := m.clips[i].clock.toNat) (by simp [List.getElem?_zip_eq_some, h3, h7])
      have h9 := hE
      simp only [isE, Bool.and_eq_true, List.all_eq_true] at h9
      have h10 := h9.2 _ h8
      have h11 := hG.clock _ (List.getElem_mem h7)
      simp only [inR, Bool.and_eq_true, decide_eq_true_eq] at h10
      rw [h4]
      omega
    have h2 := tb a (List.mem_of_getElem? ha)
    have h3 := tb b (List.mem_of_getElem? hb)
    show -1000000 ≤ ceilH _ _ ∧ ceilH _ _ ≤ 1000000
    omega
theorem hrs_at {m : HouseM} (hT : checkT m = 0) {j : Nat} (hj : j < m.tickets.length) : ((hrsS m).map encR)[(j : Int).toNat]? = some (encR (boundsR ((refL m).map fun l => hoursR m l j))) := by
  obtain ⟨hS, hT2⟩ := sure_zero hT
  have hG := good_of hS
  have h1 : ∀ l ∈ refL m, isE m l = true := fun l hl => ((mem_ref hG l).1 hl).1
  rw [← bounds_eq hG hT2 (q := hoursQ m j) (fun l hl => hours_pad hG (h1 l hl) hj) (fun l hl => hoursR_bd hG (h1 l hl) j)]
  simp [hrsS, hj]
end Go.Proofs.Ytehobnpoeodhkaa
