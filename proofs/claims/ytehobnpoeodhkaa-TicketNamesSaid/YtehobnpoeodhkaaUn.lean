import Derived.Test.YtehobnpoeodhkaaUz
namespace Go.Proofs.Ytehobnpoeodhkaa
open Go Go.Abs Go.Proofs
set_option maxHeartbeats 16000000
set_option maxRecDepth 20000
attribute [local irreducible] CallJ OpsJ WPJ CallV MonoJ SpecJ

theorem enc1_row {H : AHeap} {i c : Nat} {own : Bool} {l : List Int} {n : Nat} (hn : n = l.length) (h : H[i]? = some (.row (l.map enc1).flatten 1 own)) : RdS H (.slice (some ⟨i, 0, none⟩) n c) 1 (encI l) := by
  subst hn
  exact rowY (enc := enc1) (w := 1) (fun _ => rfl) h
theorem encC_row {H : AHeap} {i c : Nat} {own : Bool} {x : ClipM} (h : H[i]? = some (.row (encC x) 3 own)) : RdS H (.slice (some ⟨i, 0, none⟩) 1 c) 3 [encC x] := by
  have := rowY (enc := encC) (w := 3) (c := c) (l := [x]) (fun _ => rfl) (H := H) (i := i) (own := own) (by simpa using h)
  simpa using this
theorem regl {γ : Type} {P : Program} {E : Env γ} {i : Nat} {a b : List Oper} {Q : _} {T : List Value} {H : AHeap} {g : γ} (h : a = b) (k : WPJ P E (.region i b.toArray false) Q T H g) : WPJ P E (.region i a.toArray false) Q T H g := h ▸ k
section
variable {γ : Type} (E : Env γ) (g : γ) (H : AHeap)
theorem ints_sameN (sv tv : Value) (a : List Int) (ha : RdS H sv 1 (encI a)) (hb : RdS H tv 1 (encI a)) (hn : a.length ≤ 1000000) : CallJ Try.prog E 54 [sv, tv] (fun v H' g' => v = .bool true ∧ H' = H ∧ g' = g) H g :=
  (ints_spec E g H sv tv a a ha hb hn hn).mono (by rintro v H' g' ⟨rfl, rfl, rfl⟩; exact ⟨by rw [decide_eq_true rfl], rfl, rfl⟩)
theorem names_law : CallJ Try.prog E 10 [] (fun v H' g' => v = .bool true ∧ H' = H ∧ g' = g) H g := by
  refine CallJ.tidy ?_
  refine CallJ.enter Try.func10 rfl (by simp only [Try.ntmps10, List.length_cons, List.length_nil, Nat.zero_add, Nat.reduceAdd, Nat.reduceSub, List.replicate_succ, List.replicate_zero, List.cons_append, List.nil_append]; rfl) ?_
  repeat' (first
    | (refine is_ucall ?_; first
      | refine st_callP (h := late_spec _ _ _) (k := ?_)
      | refine st_callP (h := awake_spec _ _ _) (k := ?_)
      | refine st_callP (h := between_spec _ _ _ _ _) (k := ?_)
      | fail)
    | (refine is_umcall ?_; first
      | refine mj_callP (h := late_spec _ _ _) (k := ?_)
      | refine mj_callP (h := awake_spec _ _ _) (k := ?_)
      | refine mj_callP (h := between_spec _ _ _ _ _) (k := ?_)
      | fail)
    | ((fail_if_success (first | refine is_ucall ?_ | refine is_umcall ?_)); first | refine W1 ?_ | refine Wc ?_ | refine W2c ?_ ?_ | refine Wg ?_ | refine W2 ?_ ?_ | exact Wdead | refine Wlive (fun hb => ?_) | intro _ _ _ _ _ _ _ _ | refine We ?_ | refine Wx ?_ | refine Wt ?_ | refine Wm ?_ | refine W2m ?_ ?_ | refine Wl ?_)
    | fail)
  have x0 : Ext H H := Ext.refl _
  refine st_call rfl (two_w E _ _ 5) ?_
  rintro _ H1 g1 ⟨⟨t1, t2, t3, rfl, hmh, e1⟩, rfl⟩
  have x1 : Ext H H1 := Ext.trans extA e1
  clear x0 e1
  refine OpsJ.normA ?_
  repeat' (first
    | (refine is_ucall ?_; first
      | refine st_callP (h := late_spec _ _ _) (k := ?_)
      | refine st_callP (h := awake_spec _ _ _) (k := ?_)
      | refine st_callP (h := between_spec _ _ _ _ _) (k := ?_)
      | fail)
    | (refine is_umcall ?_; first
      | refine mj_callP (h := late_spec _ _ _) (k := ?_)
      | refine mj_callP (h := awake_spec _ _ _) (k := ?_)
      | refine mj_callP (h := between_spec _ _ _ _ _) (k := ?_)
      | fail)
    | ((fail_if_success (first | refine is_ucall ?_ | refine is_umcall ?_)); first | refine W1 ?_ | refine Wc ?_ | refine W2c ?_ ?_ | refine Wg ?_ | refine W2 ?_ ?_ | exact Wdead | refine Wlive (fun hb => ?_) | intro _ _ _ _ _ _ _ _ | refine We ?_ | refine Wx ?_ | refine Wt ?_ | refine Wm ?_ | refine W2m ?_ ?_ | refine Wl ?_)
    | fail)
  refine st_call rfl (ClocksRY E _ _ two5 t1 t2 t3 a_T5 (hmh.ext extA)) ?_
  rintro _ H2 g2 ⟨⟨cv, rfl, hC, e2⟩, rfl⟩
  have x2 : Ext H H2 := Ext.trans extA e2
  clear x1 e2
  refine OpsJ.normA ?_
  repeat' (first
    | (refine is_ucall ?_; first
      | refine st_callP (h := late_spec _ _ _) (k := ?_)
      | refine st_callP (h := awake_spec _ _ _) (k := ?_)
      | refine st_callP (h := between_spec _ _ _ _ _) (k := ?_)
      | fail)
    | (refine is_umcall ?_; first
      | refine mj_callP (h := late_spec _ _ _) (k := ?_)
      | refine mj_callP (h := awake_spec _ _ _) (k := ?_)
      | refine mj_callP (h := between_spec _ _ _ _ _) (k := ?_)
      | fail)
    | ((fail_if_success (first | refine is_ucall ?_ | refine is_umcall ?_)); first | refine W1 ?_ | refine Wc ?_ | refine W2c ?_ ?_ | refine Wg ?_ | refine W2 ?_ ?_ | exact Wdead | refine Wlive (fun hb => ?_) | intro _ _ _ _ _ _ _ _ | refine We ?_ | refine Wx ?_ | refine Wt ?_ | refine Wm ?_ | refine W2m ?_ ?_ | refine Wl ?_)
    | fail)
  refine st_call rfl (two_w E _ _ 5) ?_
  rintro _ H3 g3 ⟨⟨t1, t2, t3, rfl, hmh, e3⟩, rfl⟩
  have x3 : Ext H H3 := Ext.trans extA e3
  replace hC := hC.ext (Ext.trans extA e3)
  clear x2 e3
  refine OpsJ.normA ?_
  repeat' (first
    | (refine is_ucall ?_; first
      | refine st_callP (h := late_spec _ _ _) (k := ?_)
      | refine st_callP (h := awake_spec _ _ _) (k := ?_)
      | refine st_callP (h := between_spec _ _ _ _ _) (k := ?_)
      | fail)
    | (refine is_umcall ?_; first
      | refine mj_callP (h := late_spec _ _ _) (k := ?_)
      | refine mj_callP (h := awake_spec _ _ _) (k := ?_)
      | refine mj_callP (h := between_spec _ _ _ _ _) (k := ?_)
      | fail)
    | ((fail_if_success (first | refine is_ucall ?_ | refine is_umcall ?_)); first | refine W1 ?_ | refine Wc ?_ | refine W2c ?_ ?_ | refine Wg ?_ | refine W2 ?_ ?_ | exact Wdead | refine Wlive (fun hb => ?_) | intro _ _ _ _ _ _ _ _ | refine We ?_ | refine Wx ?_ | refine Wt ?_ | refine Wm ?_ | refine W2m ?_ ?_ | refine Wl ?_)
    | fail)
  refine st_call rfl (HoursRY E _ _ two5 t1 t2 t3 a_T5 (hmh.ext extA)) ?_
  rintro _ H4 g4 ⟨⟨rv, rfl, hR, e4⟩, rfl⟩
  have x4 : Ext H H4 := Ext.trans extA e4
  replace hC := hC.ext (Ext.trans extA e4)
  clear x3 e4
  refine OpsJ.normA ?_
  repeat' (first
    | (refine is_ucall ?_; first
      | refine st_callP (h := late_spec _ _ _) (k := ?_)
      | refine st_callP (h := awake_spec _ _ _) (k := ?_)
      | refine st_callP (h := between_spec _ _ _ _ _) (k := ?_)
      | fail)
    | (refine is_umcall ?_; first
      | refine mj_callP (h := late_spec _ _ _) (k := ?_)
      | refine mj_callP (h := awake_spec _ _ _) (k := ?_)
      | refine mj_callP (h := between_spec _ _ _ _ _) (k := ?_)
      | fail)
    | ((fail_if_success (first | refine is_ucall ?_ | refine is_umcall ?_)); first | refine W1 ?_ | refine Wc ?_ | refine W2c ?_ ?_ | refine Wg ?_ | refine W2 ?_ ?_ | exact Wdead | refine Wlive (fun hb => ?_) | intro _ _ _ _ _ _ _ _ | refine We ?_ | refine Wx ?_ | refine Wt ?_ | refine Wm ?_ | refine W2m ?_ ?_ | refine Wl ?_)
    | fail)
  refine st_call rfl (two_w E _ _ 5) ?_
  rintro _ H5 g5 ⟨⟨t1, t2, t3, rfl, hmh, e5⟩, rfl⟩
  have x5 : Ext H H5 := Ext.trans extA e5
  replace hC := hC.ext (Ext.trans extA e5)
  replace hR := hR.ext (Ext.trans extA e5)
  clear x4 e5
  refine OpsJ.normA ?_
  repeat' (first
    | (refine is_ucall ?_; first
      | refine st_callP (h := late_spec _ _ _) (k := ?_)
      | refine st_callP (h := awake_spec _ _ _) (k := ?_)
      | refine st_callP (h := between_spec _ _ _ _ _) (k := ?_)
      | fail)
    | (refine is_umcall ?_; first
      | refine mj_callP (h := late_spec _ _ _) (k := ?_)
      | refine mj_callP (h := awake_spec _ _ _) (k := ?_)
      | refine mj_callP (h := between_spec _ _ _ _ _) (k := ?_)
      | fail)
    | ((fail_if_success (first | refine is_ucall ?_ | refine is_umcall ?_)); first | refine W1 ?_ | refine Wc ?_ | refine W2c ?_ ?_ | refine Wg ?_ | refine W2 ?_ ?_ | exact Wdead | refine Wlive (fun hb => ?_) | intro _ _ _ _ _ _ _ _ | refine We ?_ | refine Wx ?_ | refine Wt ?_ | refine Wm ?_ | refine W2m ?_ ?_ | refine Wl ?_)
    | fail)
  refine st_call rfl (LongRY E _ _ two5 t1 t2 t3 a_T5 (hmh.ext extA)) ?_
  rintro _ H6 g6 ⟨⟨vv, rfl, hV, e6⟩, rfl⟩
  have x6 : Ext H H6 := Ext.trans extA e6
  replace hC := hC.ext (Ext.trans extA e6)
  replace hR := hR.ext (Ext.trans extA e6)
  clear x5 e6
  refine OpsJ.normA ?_
  repeat' (first
    | (refine is_ucall ?_; first
      | refine st_callP (h := late_spec _ _ _) (k := ?_)
      | refine st_callP (h := awake_spec _ _ _) (k := ?_)
      | refine st_callP (h := between_spec _ _ _ _ _) (k := ?_)
      | fail)
    | (refine is_umcall ?_; first
      | refine mj_callP (h := late_spec _ _ _) (k := ?_)
      | refine mj_callP (h := awake_spec _ _ _) (k := ?_)
      | refine mj_callP (h := between_spec _ _ _ _ _) (k := ?_)
      | fail)
    | ((fail_if_success (first | refine is_ucall ?_ | refine is_umcall ?_)); first | refine W1 ?_ | refine Wc ?_ | refine W2c ?_ ?_ | refine Wg ?_ | refine W2 ?_ ?_ | exact Wdead | refine Wlive (fun hb => ?_) | intro _ _ _ _ _ _ _ _ | refine We ?_ | refine Wx ?_ | refine Wt ?_ | refine Wm ?_ | refine W2m ?_ ?_ | refine Wl ?_)
    | fail)
  refine st_call rfl (two_w E _ _ 5) ?_
  rintro _ H7 g7 ⟨⟨t1, t2, t3, rfl, hmh, e7⟩, rfl⟩
  have x7 : Ext H H7 := Ext.trans extA e7
  replace hC := hC.ext (Ext.trans extA e7)
  replace hR := hR.ext (Ext.trans extA e7)
  replace hV := hV.ext (Ext.trans extA e7)
  clear x6 e7
  refine OpsJ.normA ?_
  repeat' (first
    | (refine is_ucall ?_; first
      | refine st_callP (h := late_spec _ _ _) (k := ?_)
      | refine st_callP (h := awake_spec _ _ _) (k := ?_)
      | refine st_callP (h := between_spec _ _ _ _ _) (k := ?_)
      | fail)
    | (refine is_umcall ?_; first
      | refine mj_callP (h := late_spec _ _ _) (k := ?_)
      | refine mj_callP (h := awake_spec _ _ _) (k := ?_)
      | refine mj_callP (h := between_spec _ _ _ _ _) (k := ?_)
      | fail)
    | ((fail_if_success (first | refine is_ucall ?_ | refine is_umcall ?_)); first | refine W1 ?_ | refine Wc ?_ | refine W2c ?_ ?_ | refine Wg ?_ | refine W2 ?_ ?_ | exact Wdead | refine Wlive (fun hb => ?_) | intro _ _ _ _ _ _ _ _ | refine We ?_ | refine Wx ?_ | refine Wt ?_ | refine Wm ?_ | refine W2m ?_ ?_ | refine Wl ?_)
    | fail)
  refine st_callP (h := ClashP E _ _ two5 t1 t2 t3 1 0 0 2 a_u (by rw [if_pos rfl]; exact a_u2) (hmh.ext extA)) (k := ?_)
  refine OpsJ.normA ?_
  repeat' (first
    | (refine is_ucall ?_; first
      | refine st_callP (h := late_spec _ _ _) (k := ?_)
      | refine st_callP (h := awake_spec _ _ _) (k := ?_)
      | refine st_callP (h := between_spec _ _ _ _ _) (k := ?_)
      | fail)
    | (refine is_umcall ?_; first
      | refine mj_callP (h := late_spec _ _ _) (k := ?_)
      | refine mj_callP (h := awake_spec _ _ _) (k := ?_)
      | refine mj_callP (h := between_spec _ _ _ _ _) (k := ?_)
      | fail)
    | ((fail_if_success (first | refine is_ucall ?_ | refine is_umcall ?_)); first | refine W1 ?_ | refine Wc ?_ | refine W2c ?_ ?_ | refine Wg ?_ | refine W2 ?_ ?_ | exact Wdead | refine Wlive (fun hb => ?_) | intro _ _ _ _ _ _ _ _ | refine We ?_ | refine Wx ?_ | refine Wt ?_ | refine Wm ?_ | refine W2m ?_ ?_ | refine Wl ?_)
    | fail)
  refine st_call rfl (two_w E _ _ 5) ?_
  rintro _ H8 g8 ⟨⟨t1, t2, t3, rfl, hmh, e8⟩, rfl⟩
  have x8 : Ext H H8 := Ext.trans extA e8
  replace hC := hC.ext (Ext.trans extA e8)
  replace hR := hR.ext (Ext.trans extA e8)
  replace hV := hV.ext (Ext.trans extA e8)
  clear x7 e8
  refine OpsJ.normA ?_
  repeat' (first
    | (refine is_ucall ?_; first
      | refine st_callP (h := late_spec _ _ _) (k := ?_)
      | refine st_callP (h := awake_spec _ _ _) (k := ?_)
      | refine st_callP (h := between_spec _ _ _ _ _) (k := ?_)
      | fail)
    | (refine is_umcall ?_; first
      | refine mj_callP (h := late_spec _ _ _) (k := ?_)
      | refine mj_callP (h := awake_spec _ _ _) (k := ?_)
      | refine mj_callP (h := between_spec _ _ _ _ _) (k := ?_)
      | fail)
    | ((fail_if_success (first | refine is_ucall ?_ | refine is_umcall ?_)); first | refine W1 ?_ | refine Wc ?_ | refine W2c ?_ ?_ | refine Wg ?_ | refine W2 ?_ ?_ | exact Wdead | refine Wlive (fun hb => ?_) | intro _ _ _ _ _ _ _ _ | refine We ?_ | refine Wx ?_ | refine Wt ?_ | refine Wm ?_ | refine W2m ?_ ?_ | refine Wl ?_)
    | fail)
  refine st_callP (h := PaidPY E _ _ two5 t1 t2 t3 1 a_T5 a_p (hmh.ext extA)) (k := ?_)
  refine OpsJ.normA ?_
  repeat' (first
    | (refine is_ucall ?_; first
      | refine st_callP (h := late_spec _ _ _) (k := ?_)
      | refine st_callP (h := awake_spec _ _ _) (k := ?_)
      | refine st_callP (h := between_spec _ _ _ _ _) (k := ?_)
      | fail)
    | (refine is_umcall ?_; first
      | refine mj_callP (h := late_spec _ _ _) (k := ?_)
      | refine mj_callP (h := awake_spec _ _ _) (k := ?_)
      | refine mj_callP (h := between_spec _ _ _ _ _) (k := ?_)
      | fail)
    | ((fail_if_success (first | refine is_ucall ?_ | refine is_umcall ?_)); first | refine W1 ?_ | refine Wc ?_ | refine W2c ?_ ?_ | refine Wg ?_ | refine W2 ?_ ?_ | exact Wdead | refine Wlive (fun hb => ?_) | intro _ _ _ _ _ _ _ _ | refine We ?_ | refine Wx ?_ | refine Wt ?_ | refine Wm ?_ | refine W2m ?_ ?_ | refine Wl ?_)
    | fail)
  refine st_call rfl (two_w E _ _ 5) ?_
  rintro _ H9 g9 ⟨⟨t1, t2, t3, rfl, hmh, e9⟩, rfl⟩
  have x9 : Ext H H9 := Ext.trans extA e9
  replace hC := hC.ext (Ext.trans extA e9)
  replace hR := hR.ext (Ext.trans extA e9)
  replace hV := hV.ext (Ext.trans extA e9)
  clear x8 e9
  refine OpsJ.normA ?_
  repeat' (first
    | (refine is_ucall ?_; first
      | refine st_callP (h := late_spec _ _ _) (k := ?_)
      | refine st_callP (h := awake_spec _ _ _) (k := ?_)
      | refine st_callP (h := between_spec _ _ _ _ _) (k := ?_)
      | fail)
    | (refine is_umcall ?_; first
      | refine mj_callP (h := late_spec _ _ _) (k := ?_)
      | refine mj_callP (h := awake_spec _ _ _) (k := ?_)
      | refine mj_callP (h := between_spec _ _ _ _ _) (k := ?_)
      | fail)
    | ((fail_if_success (first | refine is_ucall ?_ | refine is_umcall ?_)); first | refine W1 ?_ | refine Wc ?_ | refine W2c ?_ ?_ | refine Wg ?_ | refine W2 ?_ ?_ | exact Wdead | refine Wlive (fun hb => ?_) | intro _ _ _ _ _ _ _ _ | refine We ?_ | refine Wx ?_ | refine Wt ?_ | refine Wm ?_ | refine W2m ?_ ?_ | refine Wl ?_)
    | fail)
  refine st_callP (h := FreeP E _ _ two5 t1 t2 t3 1 0 0 0 a_f (by rw [if_pos rfl]; exact a_f1) (by rw [if_pos rfl]; exact a_f2) (hmh.ext extA)) (k := ?_)
  refine OpsJ.normA ?_
  repeat' (first
    | (refine is_ucall ?_; first
      | refine st_callP (h := late_spec _ _ _) (k := ?_)
      | refine st_callP (h := awake_spec _ _ _) (k := ?_)
      | refine st_callP (h := between_spec _ _ _ _ _) (k := ?_)
      | fail)
    | (refine is_umcall ?_; first
      | refine mj_callP (h := late_spec _ _ _) (k := ?_)
      | refine mj_callP (h := awake_spec _ _ _) (k := ?_)
      | refine mj_callP (h := between_spec _ _ _ _ _) (k := ?_)
      | fail)
    | ((fail_if_success (first | refine is_ucall ?_ | refine is_umcall ?_)); first | refine W1 ?_ | refine Wc ?_ | refine W2c ?_ ?_ | refine Wg ?_ | refine W2 ?_ ?_ | exact Wdead | refine Wlive (fun hb => ?_) | intro _ _ _ _ _ _ _ _ | refine We ?_ | refine Wx ?_ | refine Wt ?_ | refine Wm ?_ | refine W2m ?_ ?_ | refine Wl ?_)
    | fail)
  refine st_call rfl (two_w E _ _ 0) ?_
  rintro _ H10 g10 ⟨⟨t1, t2, t3, rfl, hmh, e10⟩, rfl⟩
  have x10 : Ext H H10 := Ext.trans extA e10
  replace hC := hC.ext (Ext.trans extA e10)
  replace hR := hR.ext (Ext.trans extA e10)
  replace hV := hV.ext (Ext.trans extA e10)
  have hF : H10[H9.length]? = some (.row [.int .i64 0, .int .i64 0] 1 true) := e10.get getA
  clear x9 e10
  refine OpsJ.normA ?_
  repeat' (first
    | (refine is_ucall ?_; first
      | refine st_callP (h := late_spec _ _ _) (k := ?_)
      | refine st_callP (h := awake_spec _ _ _) (k := ?_)
      | refine st_callP (h := between_spec _ _ _ _ _) (k := ?_)
      | fail)
    | (refine is_umcall ?_; first
      | refine mj_callP (h := late_spec _ _ _) (k := ?_)
      | refine mj_callP (h := awake_spec _ _ _) (k := ?_)
      | refine mj_callP (h := between_spec _ _ _ _ _) (k := ?_)
      | fail)
    | ((fail_if_success (first | refine is_ucall ?_ | refine is_umcall ?_)); first | refine W1 ?_ | refine Wc ?_ | refine W2c ?_ ?_ | refine Wg ?_ | refine W2 ?_ ?_ | exact Wdead | refine Wlive (fun hb => ?_) | intro _ _ _ _ _ _ _ _ | refine We ?_ | refine Wx ?_ | refine Wt ?_ | refine Wm ?_ | refine W2m ?_ ?_ | refine Wl ?_)
    | fail)
  refine st_call rfl (HoursRY E _ _ two0 t1 t2 t3 a_T0 (hmh.ext extA)) ?_
  rintro _ H11 g11 ⟨⟨sv, rfl, hS, e11⟩, rfl⟩
  have x11 : Ext H H11 := Ext.trans extA e11
  replace hC := hC.ext (Ext.trans extA e11)
  replace hR := hR.ext (Ext.trans extA e11)
  replace hV := hV.ext (Ext.trans extA e11)
  replace hF := (Ext.trans extA e11).get hF
  clear x10 e11
  refine OpsJ.normA ?_
  repeat' (first
    | (refine is_ucall ?_; first
      | refine st_callP (h := late_spec _ _ _) (k := ?_)
      | refine st_callP (h := awake_spec _ _ _) (k := ?_)
      | refine st_callP (h := between_spec _ _ _ _ _) (k := ?_)
      | fail)
    | (refine is_umcall ?_; first
      | refine mj_callP (h := late_spec _ _ _) (k := ?_)
      | refine mj_callP (h := awake_spec _ _ _) (k := ?_)
      | refine mj_callP (h := between_spec _ _ _ _ _) (k := ?_)
      | fail)
    | ((fail_if_success (first | refine is_ucall ?_ | refine is_umcall ?_)); first | refine W1 ?_ | refine Wc ?_ | refine W2c ?_ ?_ | refine Wg ?_ | refine W2 ?_ ?_ | exact Wdead | refine Wlive (fun hb => ?_) | intro _ _ _ _ _ _ _ _ | refine We ?_ | refine Wx ?_ | refine Wt ?_ | refine Wm ?_ | refine W2m ?_ ?_ | refine Wl ?_)
    | fail)
  refine st_call rfl (two_w E _ _ 0) ?_
  rintro _ H12 g12 ⟨⟨t1, t2, t3, rfl, hmh, e12⟩, rfl⟩
  have x12 : Ext H H12 := Ext.trans extA e12
  replace hC := hC.ext (Ext.trans extA e12)
  replace hR := hR.ext (Ext.trans extA e12)
  replace hV := hV.ext (Ext.trans extA e12)
  replace hS := hS.ext (Ext.trans extA e12)
  replace hF := (Ext.trans extA e12).get hF
  clear x11 e12
  refine OpsJ.normA ?_
  repeat' (first
    | (refine is_ucall ?_; first
      | refine st_callP (h := late_spec _ _ _) (k := ?_)
      | refine st_callP (h := awake_spec _ _ _) (k := ?_)
      | refine st_callP (h := between_spec _ _ _ _ _) (k := ?_)
      | fail)
    | (refine is_umcall ?_; first
      | refine mj_callP (h := late_spec _ _ _) (k := ?_)
      | refine mj_callP (h := awake_spec _ _ _) (k := ?_)
      | refine mj_callP (h := between_spec _ _ _ _ _) (k := ?_)
      | fail)
    | ((fail_if_success (first | refine is_ucall ?_ | refine is_umcall ?_)); first | refine W1 ?_ | refine Wc ?_ | refine W2c ?_ ?_ | refine Wg ?_ | refine W2 ?_ ?_ | exact Wdead | refine Wlive (fun hb => ?_) | intro _ _ _ _ _ _ _ _ | refine We ?_ | refine Wx ?_ | refine Wt ?_ | refine Wm ?_ | refine W2m ?_ ?_ | refine Wl ?_)
    | fail)
  refine st_callP (h := PaidPY E _ _ two0 t1 t2 t3 2 a_T0 a_q (hmh.ext extA)) (k := ?_)
  refine OpsJ.normA ?_
  repeat' (first
    | (refine is_ucall ?_; first
      | refine st_callP (h := late_spec _ _ _) (k := ?_)
      | refine st_callP (h := awake_spec _ _ _) (k := ?_)
      | refine st_callP (h := between_spec _ _ _ _ _) (k := ?_)
      | fail)
    | (refine is_umcall ?_; first
      | refine mj_callP (h := late_spec _ _ _) (k := ?_)
      | refine mj_callP (h := awake_spec _ _ _) (k := ?_)
      | refine mj_callP (h := between_spec _ _ _ _ _) (k := ?_)
      | fail)
    | ((fail_if_success (first | refine is_ucall ?_ | refine is_umcall ?_)); first | refine W1 ?_ | refine Wc ?_ | refine W2c ?_ ?_ | refine Wg ?_ | refine W2 ?_ ?_ | exact Wdead | refine Wlive (fun hb => ?_) | intro _ _ _ _ _ _ _ _ | refine We ?_ | refine Wx ?_ | refine Wt ?_ | refine Wm ?_ | refine W2m ?_ ?_ | refine Wl ?_)
    | fail)
  refine st_call rfl (turned_w E _ _) ?_
  rintro _ H13 g13 ⟨⟨t1, t2, t3, rfl, hmh, e13⟩, rfl⟩
  have x13 : Ext H H13 := Ext.trans extA e13
  replace hC := hC.ext (Ext.trans extA e13)
  replace hR := hR.ext (Ext.trans extA e13)
  replace hV := hV.ext (Ext.trans extA e13)
  replace hS := hS.ext (Ext.trans extA e13)
  replace hF := (Ext.trans extA e13).get hF
  clear x12 e13
  refine OpsJ.normA ?_
  repeat' (first
    | (refine is_ucall ?_; first
      | refine st_callP (h := late_spec _ _ _) (k := ?_)
      | refine st_callP (h := awake_spec _ _ _) (k := ?_)
      | refine st_callP (h := between_spec _ _ _ _ _) (k := ?_)
      | fail)
    | (refine is_umcall ?_; first
      | refine mj_callP (h := late_spec _ _ _) (k := ?_)
      | refine mj_callP (h := awake_spec _ _ _) (k := ?_)
      | refine mj_callP (h := between_spec _ _ _ _ _) (k := ?_)
      | fail)
    | ((fail_if_success (first | refine is_ucall ?_ | refine is_umcall ?_)); first | refine W1 ?_ | refine Wc ?_ | refine W2c ?_ ?_ | refine Wg ?_ | refine W2 ?_ ?_ | exact Wdead | refine Wlive (fun hb => ?_) | intro _ _ _ _ _ _ _ _ | refine We ?_ | refine Wx ?_ | refine Wt ?_ | refine Wm ?_ | refine W2m ?_ ?_ | refine Wl ?_)
    | fail)
  refine st_callP (h := PaidPY E _ _ turnedM t1 t2 t3 3 a_Tt a_o (hmh.ext extA)) (k := ?_)
  refine OpsJ.normA ?_
  repeat' (first
    | (refine is_ucall ?_; first
      | refine st_callP (h := late_spec _ _ _) (k := ?_)
      | refine st_callP (h := awake_spec _ _ _) (k := ?_)
      | refine st_callP (h := between_spec _ _ _ _ _) (k := ?_)
      | fail)
    | (refine is_umcall ?_; first
      | refine mj_callP (h := late_spec _ _ _) (k := ?_)
      | refine mj_callP (h := awake_spec _ _ _) (k := ?_)
      | refine mj_callP (h := between_spec _ _ _ _ _) (k := ?_)
      | fail)
    | ((fail_if_success (first | refine is_ucall ?_ | refine is_umcall ?_)); first | refine W1 ?_ | refine Wc ?_ | refine W2c ?_ ?_ | refine Wg ?_ | refine W2 ?_ ?_ | exact Wdead | refine Wlive (fun hb => ?_) | intro _ _ _ _ _ _ _ _ | refine We ?_ | refine Wx ?_ | refine Wt ?_ | refine Wm ?_ | refine W2m ?_ ?_ | refine Wl ?_)
    | fail)
  refine st_call rfl (two_w E _ _ 5) ?_
  rintro _ H14 g14 ⟨⟨t1, t2, t3, rfl, hmh, e14⟩, rfl⟩
  have x14 : Ext H H14 := Ext.trans extA e14
  replace hC := hC.ext (Ext.trans extA e14)
  replace hR := hR.ext (Ext.trans extA e14)
  replace hV := hV.ext (Ext.trans extA e14)
  replace hS := hS.ext (Ext.trans extA e14)
  replace hF := (Ext.trans extA e14).get hF
  clear x13 e14
  refine OpsJ.normA ?_
  repeat' (first
    | (refine is_ucall ?_; first
      | refine st_callP (h := late_spec _ _ _) (k := ?_)
      | refine st_callP (h := awake_spec _ _ _) (k := ?_)
      | refine st_callP (h := between_spec _ _ _ _ _) (k := ?_)
      | fail)
    | (refine is_umcall ?_; first
      | refine mj_callP (h := late_spec _ _ _) (k := ?_)
      | refine mj_callP (h := awake_spec _ _ _) (k := ?_)
      | refine mj_callP (h := between_spec _ _ _ _ _) (k := ?_)
      | fail)
    | ((fail_if_success (first | refine is_ucall ?_ | refine is_umcall ?_)); first | refine W1 ?_ | refine Wc ?_ | refine W2c ?_ ?_ | refine Wg ?_ | refine W2 ?_ ?_ | exact Wdead | refine Wlive (fun hb => ?_) | intro _ _ _ _ _ _ _ _ | refine We ?_ | refine Wx ?_ | refine Wt ?_ | refine Wm ?_ | refine W2m ?_ ?_ | refine Wl ?_)
    | fail)
  refine st_call rfl (LeaveY E _ _ two5 t1 t2 t3 a_S5 (hmh.ext extA)) ?_
  rintro _ H15 g15 ⟨⟨nv, rfl, hN, e15⟩, rfl⟩
  have x15 : Ext H H15 := Ext.trans extA e15
  replace hC := hC.ext (Ext.trans extA e15)
  replace hR := hR.ext (Ext.trans extA e15)
  replace hV := hV.ext (Ext.trans extA e15)
  replace hS := hS.ext (Ext.trans extA e15)
  replace hF := (Ext.trans extA e15).get hF
  clear x14 e15
  rw [a_c] at hC
  rw [a_r] at hR
  rw [a_v] at hV
  rw [a_s] at hS
  rw [a_l] at hN
  have j00 : (List.map encR [((0 : Int), (0 : Int)), (1, 5)])[(0 : Int).toNat]? = some (encR (0, 0)) := rfl
  have j10 : (List.map encR [((1 : Int), (1 : Int)), (2, 2), (0, 0)])[(0 : Int).toNat]? = some (encR (1, 1)) := rfl
  have j11 : (List.map encR [((1 : Int), (1 : Int)), (2, 2), (0, 0)])[(1 : Int).toNat]? = some (encR (2, 2)) := rfl
  have j12 : (List.map encR [((1 : Int), (1 : Int)), (2, 2), (0, 0)])[(2 : Int).toNat]? = some (encR (0, 0)) := rfl
  have j20 : (List.map encR [((2 : Int), (2 : Int)), (2, 3), (0, 0)])[(0 : Int).toNat]? = some (encR (2, 2)) := rfl
  have j21 : (List.map encR [((2 : Int), (2 : Int)), (2, 3), (0, 0)])[(1 : Int).toNat]? = some (encR (2, 3)) := rfl
  have hi3 : ([2, 2, 2] : List Int).length ≤ 1000000 := by decide
  refine OpsJ.normA ?_
  repeat' (first
    | (refine is_ucall ?_; first
      | refine st_callP (h := late_spec _ _ _) (k := ?_)
      | refine st_callP (h := awake_spec _ _ _) (k := ?_)
      | refine st_callP (h := between_spec _ _ _ _ _) (k := ?_)
      | refine st_callP (h := ints_sameN _ _ _ vv _ [2, 2, 2] (hV.ext extA) (enc1_row rfl getA) hi3) (k := ?_)
      | fail)
    | (refine is_umcall ?_; first
      | refine mj_callP (h := late_spec _ _ _) (k := ?_)
      | refine mj_callP (h := awake_spec _ _ _) (k := ?_)
      | refine mj_callP (h := between_spec _ _ _ _ _) (k := ?_)
      | refine mj_callP (h := ints_sameN _ _ _ vv _ [2, 2, 2] (hV.ext extA) (enc1_row rfl getA) hi3) (k := ?_)
      | fail)
    | ((fail_if_success (first | refine is_ucall ?_ | refine is_umcall ?_)); first | refine W1 ?_ | refine Wc ?_ | refine W2c ?_ ?_ | refine Wg ?_ | refine W2 ?_ ?_ | exact Wdead | refine Wlive (fun hb => ?_) | intro _ _ _ _ _ _ _ _ | refine We ?_ | refine Wx ?_ | refine Wt ?_ | refine Wm ?_ | refine W2m ?_ ?_ | refine Wl ?_)
    | fail)
  refine WPJ.draw 127 mixed (by kernel_rfl) (by kernel_rfl) (by kernel_rfl) (by decide) ?_
  refine MonoJ.normA ?_
  repeat' (first
    | (refine is_ucall ?_; first
      | refine st_callP (h := late_spec _ _ _) (k := ?_)
      | refine st_callP (h := awake_spec _ _ _) (k := ?_)
      | refine st_callP (h := between_spec _ _ _ _ _) (k := ?_)
      | refine st_callP (h := ints_sameN _ _ _ vv _ [2, 2, 2] (hV.ext extA) (enc1_row rfl getA) hi3) (k := ?_)
      | fail)
    | (refine is_umcall ?_; first
      | refine mj_callP (h := late_spec _ _ _) (k := ?_)
      | refine mj_callP (h := awake_spec _ _ _) (k := ?_)
      | refine mj_callP (h := between_spec _ _ _ _ _) (k := ?_)
      | refine mj_callP (h := ints_sameN _ _ _ vv _ [2, 2, 2] (hV.ext extA) (enc1_row rfl getA) hi3) (k := ?_)
      | fail)
    | ((fail_if_success (first | refine is_ucall ?_ | refine is_umcall ?_)); first | refine W1 ?_ | refine Wc ?_ | refine W2c ?_ ?_ | refine Wg ?_ | refine W2 ?_ ?_ | exact Wdead | refine Wlive (fun hb => ?_) | intro _ _ _ _ _ _ _ _ | refine We ?_ | refine Wx ?_ | refine Wt ?_ | refine Wm ?_ | refine W2m ?_ ?_ | refine Wl ?_)
    | fail)
  refine mj_neI (n := 2) (xs := [0, 0]) (ys := [0, 0]) rfl rfl rfl rfl ?_
  rw [show decide (([0, 0] : List Int) = [0, 0]) = true from rfl]
  refine MonoJ.normA ?_
  repeat' (first
    | (refine is_ucall ?_; first
      | refine st_callP (h := late_spec _ _ _) (k := ?_)
      | refine st_callP (h := awake_spec _ _ _) (k := ?_)
      | refine st_callP (h := between_spec _ _ _ _ _) (k := ?_)
      | refine st_callP (h := ints_sameN _ _ _ vv _ [2, 2, 2] (hV.ext extA) (enc1_row rfl getA) hi3) (k := ?_)
      | fail)
    | (refine is_umcall ?_; first
      | refine mj_callP (h := late_spec _ _ _) (k := ?_)
      | refine mj_callP (h := awake_spec _ _ _) (k := ?_)
      | refine mj_callP (h := between_spec _ _ _ _ _) (k := ?_)
      | refine mj_callP (h := ints_sameN _ _ _ vv _ [2, 2, 2] (hV.ext extA) (enc1_row rfl getA) hi3) (k := ?_)
      | fail)
    | ((fail_if_success (first | refine is_ucall ?_ | refine is_umcall ?_)); first | refine W1 ?_ | refine Wc ?_ | refine W2c ?_ ?_ | refine Wg ?_ | refine W2 ?_ ?_ | exact Wdead | refine Wlive (fun hb => ?_) | intro _ _ _ _ _ _ _ _ | refine We ?_ | refine Wx ?_ | refine Wt ?_ | refine Wm ?_ | refine W2m ?_ ?_ | refine Wl ?_)
    | fail)
  refine mj_neI (n := 2) (xs := [1, 1]) (ys := [1, 1]) rfl rfl rfl rfl ?_
  rw [show decide (([1, 1] : List Int) = [1, 1]) = true from rfl]
  refine MonoJ.normA ?_
  repeat' (first
    | (refine is_ucall ?_; first
      | refine st_callP (h := late_spec _ _ _) (k := ?_)
      | refine st_callP (h := awake_spec _ _ _) (k := ?_)
      | refine st_callP (h := between_spec _ _ _ _ _) (k := ?_)
      | refine st_callP (h := ints_sameN _ _ _ vv _ [2, 2, 2] (hV.ext extA) (enc1_row rfl getA) hi3) (k := ?_)
      | fail)
    | (refine is_umcall ?_; first
      | refine mj_callP (h := late_spec _ _ _) (k := ?_)
      | refine mj_callP (h := awake_spec _ _ _) (k := ?_)
      | refine mj_callP (h := between_spec _ _ _ _ _) (k := ?_)
      | refine mj_callP (h := ints_sameN _ _ _ vv _ [2, 2, 2] (hV.ext extA) (enc1_row rfl getA) hi3) (k := ?_)
      | fail)
    | ((fail_if_success (first | refine is_ucall ?_ | refine is_umcall ?_)); first | refine W1 ?_ | refine Wc ?_ | refine W2c ?_ ?_ | refine Wg ?_ | refine W2 ?_ ?_ | exact Wdead | refine Wlive (fun hb => ?_) | intro _ _ _ _ _ _ _ _ | refine We ?_ | refine Wx ?_ | refine Wt ?_ | refine Wm ?_ | refine W2m ?_ ?_ | refine Wl ?_)
    | fail)
  refine mj_neI (n := 2) (xs := [2, 2]) (ys := [2, 2]) rfl rfl rfl rfl ?_
  rw [show decide (([2, 2] : List Int) = [2, 2]) = true from rfl]
  refine MonoJ.normA ?_
  repeat' (first
    | (refine is_ucall ?_; first
      | refine st_callP (h := late_spec _ _ _) (k := ?_)
      | refine st_callP (h := awake_spec _ _ _) (k := ?_)
      | refine st_callP (h := between_spec _ _ _ _ _) (k := ?_)
      | refine st_callP (h := ints_sameN _ _ _ vv _ [2, 2, 2] (hV.ext extA) (enc1_row rfl getA) hi3) (k := ?_)
      | fail)
    | (refine is_umcall ?_; first
      | refine mj_callP (h := late_spec _ _ _) (k := ?_)
      | refine mj_callP (h := awake_spec _ _ _) (k := ?_)
      | refine mj_callP (h := between_spec _ _ _ _ _) (k := ?_)
      | refine mj_callP (h := ints_sameN _ _ _ vv _ [2, 2, 2] (hV.ext extA) (enc1_row rfl getA) hi3) (k := ?_)
      | fail)
    | ((fail_if_success (first | refine is_ucall ?_ | refine is_umcall ?_)); first | refine W1 ?_ | refine Wc ?_ | refine W2c ?_ ?_ | refine Wg ?_ | refine W2 ?_ ?_ | exact Wdead | refine Wlive (fun hb => ?_) | intro _ _ _ _ _ _ _ _ | refine We ?_ | refine Wx ?_ | refine Wt ?_ | refine Wm ?_ | refine W2m ?_ ?_ | refine Wl ?_)
    | fail)
  refine mj_neI (n := 2) (xs := [0, 0]) (ys := [0, 0]) rfl rfl rfl rfl ?_
  rw [show decide (([0, 0] : List Int) = [0, 0]) = true from rfl]
  refine MonoJ.normA ?_
  repeat' (first
    | (refine is_ucall ?_; first
      | refine st_callP (h := late_spec _ _ _) (k := ?_)
      | refine st_callP (h := awake_spec _ _ _) (k := ?_)
      | refine st_callP (h := between_spec _ _ _ _ _) (k := ?_)
      | refine st_callP (h := ints_sameN _ _ _ vv _ [2, 2, 2] (hV.ext extA) (enc1_row rfl getA) hi3) (k := ?_)
      | fail)
    | (refine is_umcall ?_; first
      | refine mj_callP (h := late_spec _ _ _) (k := ?_)
      | refine mj_callP (h := awake_spec _ _ _) (k := ?_)
      | refine mj_callP (h := between_spec _ _ _ _ _) (k := ?_)
      | refine mj_callP (h := ints_sameN _ _ _ vv _ [2, 2, 2] (hV.ext extA) (enc1_row rfl getA) hi3) (k := ?_)
      | fail)
    | ((fail_if_success (first | refine is_ucall ?_ | refine is_umcall ?_)); first | refine W1 ?_ | refine Wc ?_ | refine W2c ?_ ?_ | refine Wg ?_ | refine W2 ?_ ?_ | exact Wdead | refine Wlive (fun hb => ?_) | intro _ _ _ _ _ _ _ _ | refine We ?_ | refine Wx ?_ | refine Wt ?_ | refine Wm ?_ | refine W2m ?_ ?_ | refine Wl ?_)
    | fail)
  refine mj_neI (n := 2) (xs := [0, 0]) (ys := [0, 0]) rfl rfl rfl rfl ?_
  rw [show decide (([0, 0] : List Int) = [0, 0]) = true from rfl]
  refine MonoJ.normA ?_
  repeat' (first
    | (refine is_ucall ?_; first
      | refine st_callP (h := late_spec _ _ _) (k := ?_)
      | refine st_callP (h := awake_spec _ _ _) (k := ?_)
      | refine st_callP (h := between_spec _ _ _ _ _) (k := ?_)
      | refine st_callP (h := ints_sameN _ _ _ vv _ [2, 2, 2] (hV.ext extA) (enc1_row rfl getA) hi3) (k := ?_)
      | fail)
    | (refine is_umcall ?_; first
      | refine mj_callP (h := late_spec _ _ _) (k := ?_)
      | refine mj_callP (h := awake_spec _ _ _) (k := ?_)
      | refine mj_callP (h := between_spec _ _ _ _ _) (k := ?_)
      | refine mj_callP (h := ints_sameN _ _ _ vv _ [2, 2, 2] (hV.ext extA) (enc1_row rfl getA) hi3) (k := ?_)
      | fail)
    | ((fail_if_success (first | refine is_ucall ?_ | refine is_umcall ?_)); first | refine W1 ?_ | refine Wc ?_ | refine W2c ?_ ?_ | refine Wg ?_ | refine W2 ?_ ?_ | exact Wdead | refine Wlive (fun hb => ?_) | intro _ _ _ _ _ _ _ _ | refine We ?_ | refine Wx ?_ | refine Wt ?_ | refine Wm ?_ | refine W2m ?_ ?_ | refine Wl ?_)
    | fail)
  refine mj_neI (n := 2) (xs := [2, 2]) (ys := [2, 2]) rfl rfl rfl rfl ?_
  rw [show decide (([2, 2] : List Int) = [2, 2]) = true from rfl]
  refine MonoJ.normA ?_
  repeat' (first
    | (refine is_ucall ?_; first
      | refine st_callP (h := late_spec _ _ _) (k := ?_)
      | refine st_callP (h := awake_spec _ _ _) (k := ?_)
      | refine st_callP (h := between_spec _ _ _ _ _) (k := ?_)
      | refine st_callP (h := ints_sameN _ _ _ vv _ [2, 2, 2] (hV.ext extA) (enc1_row rfl getA) hi3) (k := ?_)
      | fail)
    | (refine is_umcall ?_; first
      | refine mj_callP (h := late_spec _ _ _) (k := ?_)
      | refine mj_callP (h := awake_spec _ _ _) (k := ?_)
      | refine mj_callP (h := between_spec _ _ _ _ _) (k := ?_)
      | refine mj_callP (h := ints_sameN _ _ _ vv _ [2, 2, 2] (hV.ext extA) (enc1_row rfl getA) hi3) (k := ?_)
      | fail)
    | ((fail_if_success (first | refine is_ucall ?_ | refine is_umcall ?_)); first | refine W1 ?_ | refine Wc ?_ | refine W2c ?_ ?_ | refine Wg ?_ | refine W2 ?_ ?_ | exact Wdead | refine Wlive (fun hb => ?_) | intro _ _ _ _ _ _ _ _ | refine We ?_ | refine Wx ?_ | refine Wt ?_ | refine Wm ?_ | refine W2m ?_ ?_ | refine Wl ?_)
    | fail)
  refine mj_neI (n := 2) (xs := [2, 3]) (ys := [2, 3]) rfl rfl rfl rfl ?_
  rw [show decide (([2, 3] : List Int) = [2, 3]) = true from rfl]
  refine MonoJ.normA ?_
  repeat' (first
    | (refine is_ucall ?_; first
      | refine st_callP (h := late_spec _ _ _) (k := ?_)
      | refine st_callP (h := awake_spec _ _ _) (k := ?_)
      | refine st_callP (h := between_spec _ _ _ _ _) (k := ?_)
      | refine st_callP (h := ints_sameN _ _ _ vv _ [2, 2, 2] (hV.ext extA) (enc1_row rfl getA) hi3) (k := ?_)
      | fail)
    | (refine is_umcall ?_; first
      | refine mj_callP (h := late_spec _ _ _) (k := ?_)
      | refine mj_callP (h := awake_spec _ _ _) (k := ?_)
      | refine mj_callP (h := between_spec _ _ _ _ _) (k := ?_)
      | refine mj_callP (h := ints_sameN _ _ _ vv _ [2, 2, 2] (hV.ext extA) (enc1_row rfl getA) hi3) (k := ?_)
      | fail)
    | ((fail_if_success (first | refine is_ucall ?_ | refine is_umcall ?_)); first | refine W1 ?_ | refine Wc ?_ | refine W2c ?_ ?_ | refine Wg ?_ | refine W2 ?_ ?_ | exact Wdead | refine Wlive (fun hb => ?_) | intro _ _ _ _ _ _ _ _ | refine We ?_ | refine Wx ?_ | refine Wt ?_ | refine Wm ?_ | refine W2m ?_ ?_ | refine Wl ?_)
    | fail)
  refine OpsJ.list (by simp only [List.append_eq, List.cons_append, List.nil_append, List.drop_succ_cons, List.drop_zero, List.drop_nil]; rfl) ?_
  clear hC hR hV hS hN hF j00 j10 j11 j12 j20 j21
  repeat' (first
    | (refine is_ucall ?_; first
      | refine st_callP (h := late_spec _ _ _) (k := ?_)
      | refine st_callP (h := awake_spec _ _ _) (k := ?_)
      | refine st_callP (h := between_spec _ _ _ _ _) (k := ?_)
      | refine st_callP (h := ints_sameN _ _ _ vv _ [2, 2, 2] (hV.ext extA) (enc1_row rfl getA) hi3) (k := ?_)
      | fail)
    | (refine is_umcall ?_; first
      | refine mj_callP (h := late_spec _ _ _) (k := ?_)
      | refine mj_callP (h := awake_spec _ _ _) (k := ?_)
      | refine mj_callP (h := between_spec _ _ _ _ _) (k := ?_)
      | refine mj_callP (h := ints_sameN _ _ _ vv _ [2, 2, 2] (hV.ext extA) (enc1_row rfl getA) hi3) (k := ?_)
      | fail)
    | ((fail_if_success (first | refine is_ucall ?_ | refine is_umcall ?_)); first | refine W1 ?_ | refine Wc ?_ | refine W2c ?_ ?_ | refine Wg ?_ | refine W2 ?_ ?_ | exact Wdead | refine Wlive (fun hb => ?_) | intro _ _ _ _ _ _ _ _ | refine We ?_ | refine Wx ?_ | refine Wt ?_ | refine Wm ?_ | refine W2m ?_ ?_ | refine Wl ?_)
    | fail)
  refine st_call rfl (two_w E _ _ 5) ?_
  rintro _ H16 g16 ⟨⟨t1, t2, t3, rfl, hmh, e16⟩, rfl⟩
  have x16 : Ext H H16 := Ext.trans extA e16
  clear x15 e16
  refine OpsJ.normA ?_
  repeat' (first
    | (refine is_ucall ?_; first
      | refine st_callP (h := late_spec _ _ _) (k := ?_)
      | refine st_callP (h := awake_spec _ _ _) (k := ?_)
      | refine st_callP (h := between_spec _ _ _ _ _) (k := ?_)
      | refine st_callP (h := ints_sameN _ _ _ vv _ [2, 2, 2] (hV.ext extA) (enc1_row rfl getA) hi3) (k := ?_)
      | fail)
    | (refine is_umcall ?_; first
      | refine mj_callP (h := late_spec _ _ _) (k := ?_)
      | refine mj_callP (h := awake_spec _ _ _) (k := ?_)
      | refine mj_callP (h := between_spec _ _ _ _ _) (k := ?_)
      | refine mj_callP (h := ints_sameN _ _ _ vv _ [2, 2, 2] (hV.ext extA) (enc1_row rfl getA) hi3) (k := ?_)
      | fail)
    | ((fail_if_success (first | refine is_ucall ?_ | refine is_umcall ?_)); first | refine W1 ?_ | refine Wc ?_ | refine W2c ?_ ?_ | refine Wg ?_ | refine W2 ?_ ?_ | exact Wdead | refine Wlive (fun hb => ?_) | intro _ _ _ _ _ _ _ _ | refine We ?_ | refine Wx ?_ | refine Wt ?_ | refine Wm ?_ | refine W2m ?_ ?_ | refine Wl ?_)
    | fail)
  refine st_callP (h := ProveP E _ _ two5 t1 t2 t3 _ [0, 1] true a_p1 (hmh.ext extA) (enc1_row rfl getA) (by decide)) (k := ?_)
  refine OpsJ.normA ?_
  repeat' (first
    | (refine is_ucall ?_; first
      | refine st_callP (h := late_spec _ _ _) (k := ?_)
      | refine st_callP (h := awake_spec _ _ _) (k := ?_)
      | refine st_callP (h := between_spec _ _ _ _ _) (k := ?_)
      | refine st_callP (h := ints_sameN _ _ _ vv _ [2, 2, 2] (hV.ext extA) (enc1_row rfl getA) hi3) (k := ?_)
      | fail)
    | (refine is_umcall ?_; first
      | refine mj_callP (h := late_spec _ _ _) (k := ?_)
      | refine mj_callP (h := awake_spec _ _ _) (k := ?_)
      | refine mj_callP (h := between_spec _ _ _ _ _) (k := ?_)
      | refine mj_callP (h := ints_sameN _ _ _ vv _ [2, 2, 2] (hV.ext extA) (enc1_row rfl getA) hi3) (k := ?_)
      | fail)
    | ((fail_if_success (first | refine is_ucall ?_ | refine is_umcall ?_)); first | refine W1 ?_ | refine Wc ?_ | refine W2c ?_ ?_ | refine Wg ?_ | refine W2 ?_ ?_ | exact Wdead | refine Wlive (fun hb => ?_) | intro _ _ _ _ _ _ _ _ | refine We ?_ | refine Wx ?_ | refine Wt ?_ | refine Wm ?_ | refine W2m ?_ ?_ | refine Wl ?_)
    | fail)
  refine st_call rfl (two_w E _ _ 5) ?_
  rintro _ H17 g17 ⟨⟨t1, t2, t3, rfl, hmh, e17⟩, rfl⟩
  have x17 : Ext H H17 := Ext.trans extA e17
  clear x16 e17
  refine OpsJ.normA ?_
  repeat' (first
    | (refine is_ucall ?_; first
      | refine st_callP (h := late_spec _ _ _) (k := ?_)
      | refine st_callP (h := awake_spec _ _ _) (k := ?_)
      | refine st_callP (h := between_spec _ _ _ _ _) (k := ?_)
      | refine st_callP (h := ints_sameN _ _ _ vv _ [2, 2, 2] (hV.ext extA) (enc1_row rfl getA) hi3) (k := ?_)
      | fail)
    | (refine is_umcall ?_; first
      | refine mj_callP (h := late_spec _ _ _) (k := ?_)
      | refine mj_callP (h := awake_spec _ _ _) (k := ?_)
      | refine mj_callP (h := between_spec _ _ _ _ _) (k := ?_)
      | refine mj_callP (h := ints_sameN _ _ _ vv _ [2, 2, 2] (hV.ext extA) (enc1_row rfl getA) hi3) (k := ?_)
      | fail)
    | ((fail_if_success (first | refine is_ucall ?_ | refine is_umcall ?_)); first | refine W1 ?_ | refine Wc ?_ | refine W2c ?_ ?_ | refine Wg ?_ | refine W2 ?_ ?_ | exact Wdead | refine Wlive (fun hb => ?_) | intro _ _ _ _ _ _ _ _ | refine We ?_ | refine Wx ?_ | refine Wt ?_ | refine Wm ?_ | refine W2m ?_ ?_ | refine Wl ?_)
    | fail)
  refine st_callP (h := ProveP E _ _ two5 t1 t2 t3 _ [0, 0] false a_p2 (hmh.ext extA) (enc1_row rfl getA) (by decide)) (k := ?_)
  refine OpsJ.normA ?_
  repeat' (first
    | (refine is_ucall ?_; first
      | refine st_callP (h := late_spec _ _ _) (k := ?_)
      | refine st_callP (h := awake_spec _ _ _) (k := ?_)
      | refine st_callP (h := between_spec _ _ _ _ _) (k := ?_)
      | refine st_callP (h := ints_sameN _ _ _ vv _ [2, 2, 2] (hV.ext extA) (enc1_row rfl getA) hi3) (k := ?_)
      | fail)
    | (refine is_umcall ?_; first
      | refine mj_callP (h := late_spec _ _ _) (k := ?_)
      | refine mj_callP (h := awake_spec _ _ _) (k := ?_)
      | refine mj_callP (h := between_spec _ _ _ _ _) (k := ?_)
      | refine mj_callP (h := ints_sameN _ _ _ vv _ [2, 2, 2] (hV.ext extA) (enc1_row rfl getA) hi3) (k := ?_)
      | fail)
    | ((fail_if_success (first | refine is_ucall ?_ | refine is_umcall ?_)); first | refine W1 ?_ | refine Wc ?_ | refine W2c ?_ ?_ | refine Wg ?_ | refine W2 ?_ ?_ | exact Wdead | refine Wlive (fun hb => ?_) | intro _ _ _ _ _ _ _ _ | refine We ?_ | refine Wx ?_ | refine Wt ?_ | refine Wm ?_ | refine W2m ?_ ?_ | refine Wl ?_)
    | fail)
  refine st_call rfl (two_w E _ _ 5) ?_
  rintro _ H18 g18 ⟨⟨t1, t2, t3, rfl, hmh, e18⟩, rfl⟩
  have x18 : Ext H H18 := Ext.trans extA e18
  clear x17 e18
  refine OpsJ.normA ?_
  repeat' (first
    | (refine is_ucall ?_; first
      | refine st_callP (h := late_spec _ _ _) (k := ?_)
      | refine st_callP (h := awake_spec _ _ _) (k := ?_)
      | refine st_callP (h := between_spec _ _ _ _ _) (k := ?_)
      | refine st_callP (h := ints_sameN _ _ _ vv _ [2, 2, 2] (hV.ext extA) (enc1_row rfl getA) hi3) (k := ?_)
      | fail)
    | (refine is_umcall ?_; first
      | refine mj_callP (h := late_spec _ _ _) (k := ?_)
      | refine mj_callP (h := awake_spec _ _ _) (k := ?_)
      | refine mj_callP (h := between_spec _ _ _ _ _) (k := ?_)
      | refine mj_callP (h := ints_sameN _ _ _ vv _ [2, 2, 2] (hV.ext extA) (enc1_row rfl getA) hi3) (k := ?_)
      | fail)
    | ((fail_if_success (first | refine is_ucall ?_ | refine is_umcall ?_)); first | refine W1 ?_ | refine Wc ?_ | refine W2c ?_ ?_ | refine Wg ?_ | refine W2 ?_ ?_ | exact Wdead | refine Wlive (fun hb => ?_) | intro _ _ _ _ _ _ _ _ | refine We ?_ | refine Wx ?_ | refine Wt ?_ | refine Wm ?_ | refine W2m ?_ ?_ | refine Wl ?_)
    | fail)
  refine st_callP (h := ProveP E _ _ two5 t1 t2 t3 _ [0] false a_p3 (hmh.ext extA) (enc1_row rfl getA) (by decide)) (k := ?_)
  refine OpsJ.normA ?_
  repeat' (first
    | (refine is_ucall ?_; first
      | refine st_callP (h := late_spec _ _ _) (k := ?_)
      | refine st_callP (h := awake_spec _ _ _) (k := ?_)
      | refine st_callP (h := between_spec _ _ _ _ _) (k := ?_)
      | refine st_callP (h := ints_sameN _ _ _ vv _ [2, 2, 2] (hV.ext extA) (enc1_row rfl getA) hi3) (k := ?_)
      | fail)
    | (refine is_umcall ?_; first
      | refine mj_callP (h := late_spec _ _ _) (k := ?_)
      | refine mj_callP (h := awake_spec _ _ _) (k := ?_)
      | refine mj_callP (h := between_spec _ _ _ _ _) (k := ?_)
      | refine mj_callP (h := ints_sameN _ _ _ vv _ [2, 2, 2] (hV.ext extA) (enc1_row rfl getA) hi3) (k := ?_)
      | fail)
    | ((fail_if_success (first | refine is_ucall ?_ | refine is_umcall ?_)); first | refine W1 ?_ | refine Wc ?_ | refine W2c ?_ ?_ | refine Wg ?_ | refine W2 ?_ ?_ | exact Wdead | refine Wlive (fun hb => ?_) | intro _ _ _ _ _ _ _ _ | refine We ?_ | refine Wx ?_ | refine Wt ?_ | refine Wm ?_ | refine W2m ?_ ?_ | refine Wl ?_)
    | fail)
  refine st_call rfl (two1_w E _ _ 5 _ ⟨2, 0, 360⟩ (encC_row getA)) ?_
  rintro _ H19 g19 ⟨⟨t1, t2, t3, rfl, hmh, e19⟩, rfl⟩
  have x19 : Ext H H19 := Ext.trans extA e19
  clear x18 e19
  refine OpsJ.normA ?_
  repeat' (first
    | (refine is_ucall ?_; first
      | refine st_callP (h := late_spec _ _ _) (k := ?_)
      | refine st_callP (h := awake_spec _ _ _) (k := ?_)
      | refine st_callP (h := between_spec _ _ _ _ _) (k := ?_)
      | refine st_callP (h := ints_sameN _ _ _ vv _ [2, 2, 2] (hV.ext extA) (enc1_row rfl getA) hi3) (k := ?_)
      | fail)
    | (refine is_umcall ?_; first
      | refine mj_callP (h := late_spec _ _ _) (k := ?_)
      | refine mj_callP (h := awake_spec _ _ _) (k := ?_)
      | refine mj_callP (h := between_spec _ _ _ _ _) (k := ?_)
      | refine mj_callP (h := ints_sameN _ _ _ vv _ [2, 2, 2] (hV.ext extA) (enc1_row rfl getA) hi3) (k := ?_)
      | fail)
    | ((fail_if_success (first | refine is_ucall ?_ | refine is_umcall ?_)); first | refine W1 ?_ | refine Wc ?_ | refine W2c ?_ ?_ | refine Wg ?_ | refine W2 ?_ ?_ | exact Wdead | refine Wlive (fun hb => ?_) | intro _ _ _ _ _ _ _ _ | refine We ?_ | refine Wx ?_ | refine Wt ?_ | refine Wm ?_ | refine W2m ?_ ?_ | refine Wl ?_)
    | fail)
  refine st_callP (h := ProveP E _ _ badM t1 t2 t3 _ [0, 1] false a_p4 (hmh.ext extA) (enc1_row rfl getA) (by decide)) (k := ?_)
  refine OpsJ.normA ?_
  repeat' (first
    | (refine is_ucall ?_; first
      | refine st_callP (h := late_spec _ _ _) (k := ?_)
      | refine st_callP (h := awake_spec _ _ _) (k := ?_)
      | refine st_callP (h := between_spec _ _ _ _ _) (k := ?_)
      | refine st_callP (h := ints_sameN _ _ _ vv _ [2, 2, 2] (hV.ext extA) (enc1_row rfl getA) hi3) (k := ?_)
      | fail)
    | (refine is_umcall ?_; first
      | refine mj_callP (h := late_spec _ _ _) (k := ?_)
      | refine mj_callP (h := awake_spec _ _ _) (k := ?_)
      | refine mj_callP (h := between_spec _ _ _ _ _) (k := ?_)
      | refine mj_callP (h := ints_sameN _ _ _ vv _ [2, 2, 2] (hV.ext extA) (enc1_row rfl getA) hi3) (k := ?_)
      | fail)
    | ((fail_if_success (first | refine is_ucall ?_ | refine is_umcall ?_)); first | refine W1 ?_ | refine Wc ?_ | refine W2c ?_ ?_ | refine Wg ?_ | refine W2 ?_ ?_ | exact Wdead | refine Wlive (fun hb => ?_) | intro _ _ _ _ _ _ _ _ | refine We ?_ | refine Wx ?_ | refine Wt ?_ | refine Wm ?_ | refine W2m ?_ ?_ | refine Wl ?_)
    | fail)
  refine st_call rfl (two1_w E _ _ 5 _ ⟨2, 0, 360⟩ (encC_row getA)) ?_
  rintro _ H20 g20 ⟨⟨b1, b2, b3, rfl, hB, e20⟩, rfl⟩
  have x20 : Ext H H20 := Ext.trans extA e20
  clear x19 e20
  have hok : [Value.int .i64 60, .int .i64 5, b1, b2, b3].all cellOk = true := hB.cells
  change OpsJ _ _ _ _ _ (putT _ _ (.agg ⟨[.int .i64 60, .int .i64 5, b1, b2, b3]⟩)) _ _
  refine OpsJ.normA ?_
  repeat' (first
    | (refine is_ucall ?_; first
      | refine st_callP (h := late_spec _ _ _) (k := ?_)
      | refine st_callP (h := awake_spec _ _ _) (k := ?_)
      | refine st_callP (h := between_spec _ _ _ _ _) (k := ?_)
      | refine st_callP (h := ints_sameN _ _ _ vv _ [2, 2, 2] (hV.ext extA) (enc1_row rfl getA) hi3) (k := ?_)
      | fail)
    | (refine is_umcall ?_; first
      | refine mj_callP (h := late_spec _ _ _) (k := ?_)
      | refine mj_callP (h := awake_spec _ _ _) (k := ?_)
      | refine mj_callP (h := between_spec _ _ _ _ _) (k := ?_)
      | refine mj_callP (h := ints_sameN _ _ _ vv _ [2, 2, 2] (hV.ext extA) (enc1_row rfl getA) hi3) (k := ?_)
      | fail)
    | ((fail_if_success (first | refine is_ucall ?_ | refine is_umcall ?_)); first | refine W1 ?_ | refine Wc ?_ | refine W2c ?_ ?_ | refine Wg ?_ | refine W2 ?_ ?_ | exact Wdead | refine Wlive (fun hb => ?_) | intro _ _ _ _ _ _ _ _ | refine We ?_ | refine Wx ?_ | refine Wt ?_ | refine Wm ?_ | refine W2m ?_ ?_ | refine Wl ?_)
    | fail)
  refine st_call rfl (two_w E _ _ 5) ?_
  rintro _ H21 g21 ⟨⟨t1, t2, t3, rfl, hmh, e21⟩, rfl⟩
  have x21 : Ext H H21 := Ext.trans extA e21
  replace hB := hB.ext (Ext.trans extA e21)
  have hbd : H21[H20.length]? = some (.row [.int .i64 60, .int .i64 5, b1, b2, b3] 1 true) := e21.get getA
  clear x20 e21
  refine OpsJ.normA ?_
  repeat' (first
    | (refine is_ucall ?_; first
      | refine st_callP (h := late_spec _ _ _) (k := ?_)
      | refine st_callP (h := awake_spec _ _ _) (k := ?_)
      | refine st_callP (h := between_spec _ _ _ _ _) (k := ?_)
      | refine st_callP (h := ints_sameN _ _ _ vv _ [2, 2, 2] (hV.ext extA) (enc1_row rfl getA) hi3) (k := ?_)
      | fail)
    | (refine is_umcall ?_; first
      | refine mj_callP (h := late_spec _ _ _) (k := ?_)
      | refine mj_callP (h := awake_spec _ _ _) (k := ?_)
      | refine mj_callP (h := between_spec _ _ _ _ _) (k := ?_)
      | refine mj_callP (h := ints_sameN _ _ _ vv _ [2, 2, 2] (hV.ext extA) (enc1_row rfl getA) hi3) (k := ?_)
      | fail)
    | ((fail_if_success (first | refine is_ucall ?_ | refine is_umcall ?_)); first | refine W1 ?_ | refine Wc ?_ | refine W2c ?_ ?_ | refine Wg ?_ | refine W2 ?_ ?_ | exact Wdead | refine Wlive (fun hb => ?_) | intro _ _ _ _ _ _ _ _ | refine We ?_ | refine Wx ?_ | refine Wt ?_ | refine Wm ?_ | refine W2m ?_ ?_ | refine Wl ?_)
    | fail)
  refine st_callP (h := PlayN E _ _ two5 t1 t2 t3 _ [0, 6] 2 a_g1 (by decide) (hmh.ext extA) (enc1_row rfl getA) (by decide)) (k := ?_)
  refine OpsJ.normA ?_
  repeat' (first
    | (refine is_ucall ?_; first
      | refine st_callP (h := late_spec _ _ _) (k := ?_)
      | refine st_callP (h := awake_spec _ _ _) (k := ?_)
      | refine st_callP (h := between_spec _ _ _ _ _) (k := ?_)
      | refine st_callP (h := ints_sameN _ _ _ vv _ [2, 2, 2] (hV.ext extA) (enc1_row rfl getA) hi3) (k := ?_)
      | fail)
    | (refine is_umcall ?_; first
      | refine mj_callP (h := late_spec _ _ _) (k := ?_)
      | refine mj_callP (h := awake_spec _ _ _) (k := ?_)
      | refine mj_callP (h := between_spec _ _ _ _ _) (k := ?_)
      | refine mj_callP (h := ints_sameN _ _ _ vv _ [2, 2, 2] (hV.ext extA) (enc1_row rfl getA) hi3) (k := ?_)
      | fail)
    | ((fail_if_success (first | refine is_ucall ?_ | refine is_umcall ?_)); first | refine W1 ?_ | refine Wc ?_ | refine W2c ?_ ?_ | refine Wg ?_ | refine W2 ?_ ?_ | exact Wdead | refine Wlive (fun hb => ?_) | intro _ _ _ _ _ _ _ _ | refine We ?_ | refine Wx ?_ | refine Wt ?_ | refine Wm ?_ | refine W2m ?_ ?_ | refine Wl ?_)
    | fail)
  refine st_callP (h := ClashP E _ _ badM b1 b2 b3 0 3 2 0 a_b1 (by rw [if_neg (by decide)]) (hB.ext extA)) (k := ?_)
  refine OpsJ.normA ?_
  repeat' (first
    | (refine is_ucall ?_; first
      | refine st_callP (h := late_spec _ _ _) (k := ?_)
      | refine st_callP (h := awake_spec _ _ _) (k := ?_)
      | refine st_callP (h := between_spec _ _ _ _ _) (k := ?_)
      | refine st_callP (h := ints_sameN _ _ _ vv _ [2, 2, 2] (hV.ext extA) (enc1_row rfl getA) hi3) (k := ?_)
      | fail)
    | (refine is_umcall ?_; first
      | refine mj_callP (h := late_spec _ _ _) (k := ?_)
      | refine mj_callP (h := awake_spec _ _ _) (k := ?_)
      | refine mj_callP (h := between_spec _ _ _ _ _) (k := ?_)
      | refine mj_callP (h := ints_sameN _ _ _ vv _ [2, 2, 2] (hV.ext extA) (enc1_row rfl getA) hi3) (k := ?_)
      | fail)
    | ((fail_if_success (first | refine is_ucall ?_ | refine is_umcall ?_)); first | refine W1 ?_ | refine Wc ?_ | refine W2c ?_ ?_ | refine Wg ?_ | refine W2 ?_ ?_ | exact Wdead | refine Wlive (fun hb => ?_) | intro _ _ _ _ _ _ _ _ | refine We ?_ | refine Wx ?_ | refine Wt ?_ | refine Wm ?_ | refine W2m ?_ ?_ | refine Wl ?_)
    | fail)
  refine st_callP (h := ClashP E _ _ badM b1 b2 b3 1 1 6 0 a_b2 (by rw [if_neg (by decide)]) (hB.ext extA)) (k := ?_)
  refine OpsJ.normA ?_
  repeat' (first
    | (refine is_ucall ?_; first
      | refine st_callP (h := late_spec _ _ _) (k := ?_)
      | refine st_callP (h := awake_spec _ _ _) (k := ?_)
      | refine st_callP (h := between_spec _ _ _ _ _) (k := ?_)
      | refine st_callP (h := ints_sameN _ _ _ vv _ [2, 2, 2] (hV.ext extA) (enc1_row rfl getA) hi3) (k := ?_)
      | fail)
    | (refine is_umcall ?_; first
      | refine mj_callP (h := late_spec _ _ _) (k := ?_)
      | refine mj_callP (h := awake_spec _ _ _) (k := ?_)
      | refine mj_callP (h := between_spec _ _ _ _ _) (k := ?_)
      | refine mj_callP (h := ints_sameN _ _ _ vv _ [2, 2, 2] (hV.ext extA) (enc1_row rfl getA) hi3) (k := ?_)
      | fail)
    | ((fail_if_success (first | refine is_ucall ?_ | refine is_umcall ?_)); first | refine W1 ?_ | refine Wc ?_ | refine W2c ?_ ?_ | refine Wg ?_ | refine W2 ?_ ?_ | exact Wdead | refine Wlive (fun hb => ?_) | intro _ _ _ _ _ _ _ _ | refine We ?_ | refine Wx ?_ | refine Wt ?_ | refine Wm ?_ | refine W2m ?_ ?_ | refine Wl ?_)
    | fail)
  refine st_callP (h := ClashP E _ _ badM b1 b2 b3 0 1 11 0 a_b3 (by rw [if_neg (by decide)]) (hB.ext extA)) (k := ?_)
  refine OpsJ.normA ?_
  repeat' (first
    | (refine is_ucall ?_; first
      | refine st_callP (h := late_spec _ _ _) (k := ?_)
      | refine st_callP (h := awake_spec _ _ _) (k := ?_)
      | refine st_callP (h := between_spec _ _ _ _ _) (k := ?_)
      | refine st_callP (h := ints_sameN _ _ _ vv _ [2, 2, 2] (hV.ext extA) (enc1_row rfl getA) hi3) (k := ?_)
      | fail)
    | (refine is_umcall ?_; first
      | refine mj_callP (h := late_spec _ _ _) (k := ?_)
      | refine mj_callP (h := awake_spec _ _ _) (k := ?_)
      | refine mj_callP (h := between_spec _ _ _ _ _) (k := ?_)
      | refine mj_callP (h := ints_sameN _ _ _ vv _ [2, 2, 2] (hV.ext extA) (enc1_row rfl getA) hi3) (k := ?_)
      | fail)
    | ((fail_if_success (first | refine is_ucall ?_ | refine is_umcall ?_)); first | refine W1 ?_ | refine Wc ?_ | refine W2c ?_ ?_ | refine Wg ?_ | refine W2 ?_ ?_ | exact Wdead | refine Wlive (fun hb => ?_) | intro _ _ _ _ _ _ _ _ | refine We ?_ | refine Wx ?_ | refine Wt ?_ | refine Wm ?_ | refine W2m ?_ ?_ | refine Wl ?_)
    | fail)
  refine st_callP (h := FreeP E _ _ badM b1 b2 b3 9 2 0 0 a_b4 (by rw [if_neg (by decide)]) (by rw [if_neg (by decide)]) (hB.ext extA)) (k := ?_)
  refine OpsJ.normA ?_
  repeat' (first
    | (refine is_ucall ?_; first
      | refine st_callP (h := late_spec _ _ _) (k := ?_)
      | refine st_callP (h := awake_spec _ _ _) (k := ?_)
      | refine st_callP (h := between_spec _ _ _ _ _) (k := ?_)
      | refine st_callP (h := ints_sameN _ _ _ vv _ [2, 2, 2] (hV.ext extA) (enc1_row rfl getA) hi3) (k := ?_)
      | fail)
    | (refine is_umcall ?_; first
      | refine mj_callP (h := late_spec _ _ _) (k := ?_)
      | refine mj_callP (h := awake_spec _ _ _) (k := ?_)
      | refine mj_callP (h := between_spec _ _ _ _ _) (k := ?_)
      | refine mj_callP (h := ints_sameN _ _ _ vv _ [2, 2, 2] (hV.ext extA) (enc1_row rfl getA) hi3) (k := ?_)
      | fail)
    | ((fail_if_success (first | refine is_ucall ?_ | refine is_umcall ?_)); first | refine W1 ?_ | refine Wc ?_ | refine W2c ?_ ?_ | refine Wg ?_ | refine W2 ?_ ?_ | exact Wdead | refine Wlive (fun hb => ?_) | intro _ _ _ _ _ _ _ _ | refine We ?_ | refine Wx ?_ | refine Wt ?_ | refine Wm ?_ | refine W2m ?_ ?_ | refine Wl ?_)
    | fail)
  refine st_callP (h := FreeP E _ _ badM b1 b2 b3 1 8 0 0 a_b5 (by rw [if_neg (by decide)]) (by rw [if_neg (by decide)]) (hB.ext extA)) (k := ?_)
  refine OpsJ.normA ?_
  repeat' (first
    | (refine is_ucall ?_; first
      | refine st_callP (h := late_spec _ _ _) (k := ?_)
      | refine st_callP (h := awake_spec _ _ _) (k := ?_)
      | refine st_callP (h := between_spec _ _ _ _ _) (k := ?_)
      | refine st_callP (h := ints_sameN _ _ _ vv _ [2, 2, 2] (hV.ext extA) (enc1_row rfl getA) hi3) (k := ?_)
      | fail)
    | (refine is_umcall ?_; first
      | refine mj_callP (h := late_spec _ _ _) (k := ?_)
      | refine mj_callP (h := awake_spec _ _ _) (k := ?_)
      | refine mj_callP (h := between_spec _ _ _ _ _) (k := ?_)
      | refine mj_callP (h := ints_sameN _ _ _ vv _ [2, 2, 2] (hV.ext extA) (enc1_row rfl getA) hi3) (k := ?_)
      | fail)
    | ((fail_if_success (first | refine is_ucall ?_ | refine is_umcall ?_)); first | refine W1 ?_ | refine Wc ?_ | refine W2c ?_ ?_ | refine Wg ?_ | refine W2 ?_ ?_ | exact Wdead | refine Wlive (fun hb => ?_) | intro _ _ _ _ _ _ _ _ | refine We ?_ | refine Wx ?_ | refine Wt ?_ | refine Wm ?_ | refine W2m ?_ ?_ | refine Wl ?_)
    | fail)
  refine st_callP (h := FreeP E _ _ badM b1 b2 b3 0 11 0 0 a_b6 (by rw [if_neg (by decide)]) (by rw [if_neg (by decide)]) (hB.ext extA)) (k := ?_)
  refine OpsJ.normA ?_
  repeat' (first
    | (refine is_ucall ?_; first
      | refine st_callP (h := late_spec _ _ _) (k := ?_)
      | refine st_callP (h := awake_spec _ _ _) (k := ?_)
      | refine st_callP (h := between_spec _ _ _ _ _) (k := ?_)
      | refine st_callP (h := ints_sameN _ _ _ vv _ [2, 2, 2] (hV.ext extA) (enc1_row rfl getA) hi3) (k := ?_)
      | fail)
    | (refine is_umcall ?_; first
      | refine mj_callP (h := late_spec _ _ _) (k := ?_)
      | refine mj_callP (h := awake_spec _ _ _) (k := ?_)
      | refine mj_callP (h := between_spec _ _ _ _ _) (k := ?_)
      | refine mj_callP (h := ints_sameN _ _ _ vv _ [2, 2, 2] (hV.ext extA) (enc1_row rfl getA) hi3) (k := ?_)
      | fail)
    | ((fail_if_success (first | refine is_ucall ?_ | refine is_umcall ?_)); first | refine W1 ?_ | refine Wc ?_ | refine W2c ?_ ?_ | refine Wg ?_ | refine W2 ?_ ?_ | exact Wdead | refine Wlive (fun hb => ?_) | intro _ _ _ _ _ _ _ _ | refine We ?_ | refine Wx ?_ | refine Wt ?_ | refine Wm ?_ | refine W2m ?_ ?_ | refine Wl ?_)
    | fail)
  refine st_call rfl (HoursEY E _ _ badM b1 b2 b3 11 a_Tb (by decide) (hB.ext extA)) ?_
  rintro _ H22 g22 ⟨⟨rfl, e22⟩, rfl⟩
  have x22 : Ext H H22 := Ext.trans extA e22
  replace hB := hB.ext (Ext.trans extA e22)
  replace hbd := (Ext.trans extA e22).get hbd
  clear x21 e22
  refine OpsJ.normA ?_
  repeat' (first
    | (refine is_ucall ?_; first
      | refine st_callP (h := late_spec _ _ _) (k := ?_)
      | refine st_callP (h := awake_spec _ _ _) (k := ?_)
      | refine st_callP (h := between_spec _ _ _ _ _) (k := ?_)
      | refine st_callP (h := ints_sameN _ _ _ vv _ [2, 2, 2] (hV.ext extA) (enc1_row rfl getA) hi3) (k := ?_)
      | fail)
    | (refine is_umcall ?_; first
      | refine mj_callP (h := late_spec _ _ _) (k := ?_)
      | refine mj_callP (h := awake_spec _ _ _) (k := ?_)
      | refine mj_callP (h := between_spec _ _ _ _ _) (k := ?_)
      | refine mj_callP (h := ints_sameN _ _ _ vv _ [2, 2, 2] (hV.ext extA) (enc1_row rfl getA) hi3) (k := ?_)
      | fail)
    | ((fail_if_success (first | refine is_ucall ?_ | refine is_umcall ?_)); first | refine W1 ?_ | refine Wc ?_ | refine W2c ?_ ?_ | refine Wg ?_ | refine W2 ?_ ?_ | exact Wdead | refine Wlive (fun hb => ?_) | intro _ _ _ _ _ _ _ _ | refine We ?_ | refine Wx ?_ | refine Wt ?_ | refine Wm ?_ | refine W2m ?_ ?_ | refine Wl ?_)
    | fail)
  refine st_callP (h := LookY E _ _ badM b1 b2 b3 11 0 0 a_b7 rfl (hB.ext extA)) (k := ?_)
  refine OpsJ.normA ?_
  repeat' (first
    | (refine is_ucall ?_; first
      | refine st_callP (h := late_spec _ _ _) (k := ?_)
      | refine st_callP (h := awake_spec _ _ _) (k := ?_)
      | refine st_callP (h := between_spec _ _ _ _ _) (k := ?_)
      | refine st_callP (h := ints_sameN _ _ _ vv _ [2, 2, 2] (hV.ext extA) (enc1_row rfl getA) hi3) (k := ?_)
      | fail)
    | (refine is_umcall ?_; first
      | refine mj_callP (h := late_spec _ _ _) (k := ?_)
      | refine mj_callP (h := awake_spec _ _ _) (k := ?_)
      | refine mj_callP (h := between_spec _ _ _ _ _) (k := ?_)
      | refine mj_callP (h := ints_sameN _ _ _ vv _ [2, 2, 2] (hV.ext extA) (enc1_row rfl getA) hi3) (k := ?_)
      | fail)
    | ((fail_if_success (first | refine is_ucall ?_ | refine is_umcall ?_)); first | refine W1 ?_ | refine Wc ?_ | refine W2c ?_ ?_ | refine Wg ?_ | refine W2 ?_ ?_ | exact Wdead | refine Wlive (fun hb => ?_) | intro _ _ _ _ _ _ _ _ | refine We ?_ | refine Wx ?_ | refine Wt ?_ | refine Wm ?_ | refine W2m ?_ ?_ | refine Wl ?_)
    | fail)
  have hnil : ∀ Hx : AHeap, HouseIs Hx ⟨60, 0, [], [], []⟩ (.slice none 0 0) (.slice none 0 0) (.slice none 0 0) := fun Hx => ⟨⟨by simp, .inr ⟨rfl, .inl rfl⟩⟩, ⟨by simp, .inr ⟨rfl, .inl rfl⟩⟩, ⟨by simp, .inr ⟨rfl, .inl rfl⟩⟩, rfl, by decide, by decide, by decide, fun i hi => by simp [idOf] at hi, fun i hi => by simp [idOf] at hi, fun i hi => by simp [idOf] at hi⟩
  refine st_callP (h := LookY E _ _ ⟨60, 0, [], [], []⟩ _ _ _ 7 0 0 a_b8 rfl (hnil _)) (k := ?_)
  refine OpsJ.normA ?_
  repeat' (first
    | (refine is_ucall ?_; first
      | refine st_callP (h := late_spec _ _ _) (k := ?_)
      | refine st_callP (h := awake_spec _ _ _) (k := ?_)
      | refine st_callP (h := between_spec _ _ _ _ _) (k := ?_)
      | refine st_callP (h := ints_sameN _ _ _ vv _ [2, 2, 2] (hV.ext extA) (enc1_row rfl getA) hi3) (k := ?_)
      | fail)
    | (refine is_umcall ?_; first
      | refine mj_callP (h := late_spec _ _ _) (k := ?_)
      | refine mj_callP (h := awake_spec _ _ _) (k := ?_)
      | refine mj_callP (h := between_spec _ _ _ _ _) (k := ?_)
      | refine mj_callP (h := ints_sameN _ _ _ vv _ [2, 2, 2] (hV.ext extA) (enc1_row rfl getA) hi3) (k := ?_)
      | fail)
    | ((fail_if_success (first | refine is_ucall ?_ | refine is_umcall ?_)); first | refine W1 ?_ | refine Wc ?_ | refine W2c ?_ ?_ | refine Wg ?_ | refine W2 ?_ ?_ | exact Wdead | refine Wlive (fun hb => ?_) | intro _ _ _ _ _ _ _ _ | refine We ?_ | refine Wx ?_ | refine Wt ?_ | refine Wm ?_ | refine W2m ?_ ?_ | refine Wl ?_)
    | fail)
  refine st_call rfl (two_w E _ _ 5) ?_
  rintro _ H23 g23 ⟨⟨t1, t2, t3, rfl, hmh, e23⟩, rfl⟩
  have x23 : Ext H H23 := Ext.trans extA e23
  replace hB := hB.ext (Ext.trans extA e23)
  replace hbd := (Ext.trans extA e23).get hbd
  clear x22 e23
  refine OpsJ.normA ?_
  repeat' (first
    | (refine is_ucall ?_; first
      | refine st_callP (h := late_spec _ _ _) (k := ?_)
      | refine st_callP (h := awake_spec _ _ _) (k := ?_)
      | refine st_callP (h := between_spec _ _ _ _ _) (k := ?_)
      | refine st_callP (h := ints_sameN _ _ _ vv _ [2, 2, 2] (hV.ext extA) (enc1_row rfl getA) hi3) (k := ?_)
      | fail)
    | (refine is_umcall ?_; first
      | refine mj_callP (h := late_spec _ _ _) (k := ?_)
      | refine mj_callP (h := awake_spec _ _ _) (k := ?_)
      | refine mj_callP (h := between_spec _ _ _ _ _) (k := ?_)
      | refine mj_callP (h := ints_sameN _ _ _ vv _ [2, 2, 2] (hV.ext extA) (enc1_row rfl getA) hi3) (k := ?_)
      | fail)
    | ((fail_if_success (first | refine is_ucall ?_ | refine is_umcall ?_)); first | refine W1 ?_ | refine Wc ?_ | refine W2c ?_ ?_ | refine Wg ?_ | refine W2 ?_ ?_ | exact Wdead | refine Wlive (fun hb => ?_) | intro _ _ _ _ _ _ _ _ | refine We ?_ | refine Wx ?_ | refine Wt ?_ | refine Wm ?_ | refine W2m ?_ ?_ | refine Wl ?_)
    | fail)
  refine st_callP (h := FirstP E _ _ two5 t1 t2 t3 0 7 a_b10 a_b9 (hmh.ext extA)) (k := ?_)
  refine OpsJ.normA ?_
  repeat' (first
    | (refine is_ucall ?_; first
      | refine st_callP (h := late_spec _ _ _) (k := ?_)
      | refine st_callP (h := awake_spec _ _ _) (k := ?_)
      | refine st_callP (h := between_spec _ _ _ _ _) (k := ?_)
      | refine st_callP (h := ints_sameN _ _ _ vv _ [2, 2, 2] (hV.ext extA) (enc1_row rfl getA) hi3) (k := ?_)
      | fail)
    | (refine is_umcall ?_; first
      | refine mj_callP (h := late_spec _ _ _) (k := ?_)
      | refine mj_callP (h := awake_spec _ _ _) (k := ?_)
      | refine mj_callP (h := between_spec _ _ _ _ _) (k := ?_)
      | refine mj_callP (h := ints_sameN _ _ _ vv _ [2, 2, 2] (hV.ext extA) (enc1_row rfl getA) hi3) (k := ?_)
      | fail)
    | ((fail_if_success (first | refine is_ucall ?_ | refine is_umcall ?_)); first | refine W1 ?_ | refine Wc ?_ | refine W2c ?_ ?_ | refine Wg ?_ | refine W2 ?_ ?_ | exact Wdead | refine Wlive (fun hb => ?_) | intro _ _ _ _ _ _ _ _ | refine We ?_ | refine Wx ?_ | refine Wt ?_ | refine Wm ?_ | refine W2m ?_ ?_ | refine Wl ?_)
    | fail)
  have twoG : ∀ gr : Int, ∀ (EE : Env γ) (gg : γ) (HH : AHeap), CallJ Try.prog EE 57 [.int .i64 gr, .slice none 0 0] (fun v H' g' => v = .agg ⟨[.int .i64 60, .int .i64 gr, .slice (some ⟨HH.length, 0, none⟩) 2 2, .slice (some ⟨HH.length + 1, 0, none⟩) 3 3, .slice (some ⟨HH.length + 2, 0, none⟩) 4 4]⟩ ∧ H' = HH ++ [.row [.int .i64 0, .int .i64 0, .int .i64 (-5), .int .i64 5] 2 true, .row [.int .i64 0, .int .i64 1, .int .i64 0, .int .i64 2, .int .i64 1, .int .i64 0] 2 true, .row [.int .i64 0, .int .i64 0, .int .i64 300, .int .i64 0, .int .i64 1, .int .i64 366, .int .i64 1, .int .i64 0, .int .i64 365, .int .i64 1, .int .i64 1, .int .i64 488] 3 true] ∧ g' = gg) HH gg := fun gr EE gg HH => (twoO_spec EE gg HH gr).mono (by rintro v H' g' ⟨rfl, rfl, rfl⟩; exact ⟨rfl, rfl, rfl⟩)
  have twoC : ∀ (EE : Env γ) (gg : γ) (HH : AHeap) (sv : Value), RdS HH sv 3 [encC ⟨0, 0, 500⟩] → CallJ Try.prog EE 57 [.int .i64 5, sv] (fun v H' g' => v = .agg ⟨[.int .i64 60, .int .i64 5, .slice (some ⟨HH.length, 0, none⟩) 2 2, .slice (some ⟨HH.length + 1, 0, none⟩) 3 3, .slice (some ⟨HH.length + 2, 0, none⟩) 5 5]⟩ ∧ H' = HH ++ [.row [.int .i64 0, .int .i64 0, .int .i64 (-5), .int .i64 5] 2 true, .row [.int .i64 0, .int .i64 1, .int .i64 0, .int .i64 2, .int .i64 1, .int .i64 0] 2 true, .row [.int .i64 0, .int .i64 0, .int .i64 300, .int .i64 0, .int .i64 1, .int .i64 366, .int .i64 1, .int .i64 0, .int .i64 365, .int .i64 1, .int .i64 1, .int .i64 488, .int .i64 0, .int .i64 0, .int .i64 500] 3 true] ∧ g' = gg) HH gg := fun EE gg HH sv hr => (two1O_spec EE gg HH 5 sv ⟨0, 0, 500⟩ hr).mono (by rintro v H' g' ⟨rfl, rfl, rfl⟩; exact ⟨rfl, rfl, rfl⟩)
  clear hB hbd hok hnil
  clear hmh
  refine st_call rfl (twoG 5 _ _ _) ?_
  rintro _ _ _ ⟨rfl, rfl, rfl⟩
  refine OpsJ.normA ?_
  repeat' (first
    | (refine is_ucall ?_; first
      | refine st_callP (h := late_spec _ _ _) (k := ?_)
      | refine st_callP (h := awake_spec _ _ _) (k := ?_)
      | refine st_callP (h := between_spec _ _ _ _ _) (k := ?_)
      | refine st_callP (h := ints_sameN _ _ _ vv _ [2, 2, 2] (hV.ext extA) (enc1_row rfl getA) hi3) (k := ?_)
      | fail)
    | (refine is_umcall ?_; first
      | refine mj_callP (h := late_spec _ _ _) (k := ?_)
      | refine mj_callP (h := awake_spec _ _ _) (k := ?_)
      | refine mj_callP (h := between_spec _ _ _ _ _) (k := ?_)
      | refine mj_callP (h := ints_sameN _ _ _ vv _ [2, 2, 2] (hV.ext extA) (enc1_row rfl getA) hi3) (k := ?_)
      | fail)
    | ((fail_if_success (first | refine is_ucall ?_ | refine is_umcall ?_)); first | refine W1 ?_ | refine Wc ?_ | refine W2c ?_ ?_ | refine Wg ?_ | refine W2 ?_ ?_ | exact Wdead | refine Wlive (fun hb => ?_) | intro _ _ _ _ _ _ _ _ | refine We ?_ | refine Wx ?_ | refine Wt ?_ | refine Wm ?_ | refine W2m ?_ ?_ | refine Wl ?_)
    | fail)
  refine st_call rfl (twoG 61 _ _ _) ?_
  rintro _ _ _ ⟨rfl, rfl, rfl⟩
  refine OpsJ.normA ?_
  repeat' (first
    | (refine is_ucall ?_; first
      | refine st_callP (h := late_spec _ _ _) (k := ?_)
      | refine st_callP (h := awake_spec _ _ _) (k := ?_)
      | refine st_callP (h := between_spec _ _ _ _ _) (k := ?_)
      | refine st_callP (h := ints_sameN _ _ _ vv _ [2, 2, 2] (hV.ext extA) (enc1_row rfl getA) hi3) (k := ?_)
      | fail)
    | (refine is_umcall ?_; first
      | refine mj_callP (h := late_spec _ _ _) (k := ?_)
      | refine mj_callP (h := awake_spec _ _ _) (k := ?_)
      | refine mj_callP (h := between_spec _ _ _ _ _) (k := ?_)
      | refine mj_callP (h := ints_sameN _ _ _ vv _ [2, 2, 2] (hV.ext extA) (enc1_row rfl getA) hi3) (k := ?_)
      | fail)
    | ((fail_if_success (first | refine is_ucall ?_ | refine is_umcall ?_)); first | refine W1 ?_ | refine Wc ?_ | refine W2c ?_ ?_ | refine Wg ?_ | refine W2 ?_ ?_ | exact Wdead | refine Wlive (fun hb => ?_) | intro _ _ _ _ _ _ _ _ | refine We ?_ | refine Wx ?_ | refine Wt ?_ | refine Wm ?_ | refine W2m ?_ ?_ | refine Wl ?_)
    | fail)
  refine st_call rfl (twoG 5 _ _ _) ?_
  rintro _ _ _ ⟨rfl, rfl, rfl⟩
  refine OpsJ.normA ?_
  repeat' (first
    | (refine is_ucall ?_; first
      | refine st_callP (h := late_spec _ _ _) (k := ?_)
      | refine st_callP (h := awake_spec _ _ _) (k := ?_)
      | refine st_callP (h := between_spec _ _ _ _ _) (k := ?_)
      | refine st_callP (h := ints_sameN _ _ _ vv _ [2, 2, 2] (hV.ext extA) (enc1_row rfl getA) hi3) (k := ?_)
      | fail)
    | (refine is_umcall ?_; first
      | refine mj_callP (h := late_spec _ _ _) (k := ?_)
      | refine mj_callP (h := awake_spec _ _ _) (k := ?_)
      | refine mj_callP (h := between_spec _ _ _ _ _) (k := ?_)
      | refine mj_callP (h := ints_sameN _ _ _ vv _ [2, 2, 2] (hV.ext extA) (enc1_row rfl getA) hi3) (k := ?_)
      | fail)
    | ((fail_if_success (first | refine is_ucall ?_ | refine is_umcall ?_)); first | refine W1 ?_ | refine Wc ?_ | refine W2c ?_ ?_ | refine Wg ?_ | refine W2 ?_ ?_ | exact Wdead | refine Wlive (fun hb => ?_) | intro _ _ _ _ _ _ _ _ | refine We ?_ | refine Wx ?_ | refine Wt ?_ | refine Wm ?_ | refine W2m ?_ ?_ | refine Wl ?_)
    | fail)
  refine st_call rfl (twoG 5 _ _ _) ?_
  rintro _ _ _ ⟨rfl, rfl, rfl⟩
  refine OpsJ.normA ?_
  repeat' (first
    | (refine is_ucall ?_; first
      | refine st_callP (h := late_spec _ _ _) (k := ?_)
      | refine st_callP (h := awake_spec _ _ _) (k := ?_)
      | refine st_callP (h := between_spec _ _ _ _ _) (k := ?_)
      | refine st_callP (h := ints_sameN _ _ _ vv _ [2, 2, 2] (hV.ext extA) (enc1_row rfl getA) hi3) (k := ?_)
      | fail)
    | (refine is_umcall ?_; first
      | refine mj_callP (h := late_spec _ _ _) (k := ?_)
      | refine mj_callP (h := awake_spec _ _ _) (k := ?_)
      | refine mj_callP (h := between_spec _ _ _ _ _) (k := ?_)
      | refine mj_callP (h := ints_sameN _ _ _ vv _ [2, 2, 2] (hV.ext extA) (enc1_row rfl getA) hi3) (k := ?_)
      | fail)
    | ((fail_if_success (first | refine is_ucall ?_ | refine is_umcall ?_)); first | refine W1 ?_ | refine Wc ?_ | refine W2c ?_ ?_ | refine Wg ?_ | refine W2 ?_ ?_ | exact Wdead | refine Wlive (fun hb => ?_) | intro _ _ _ _ _ _ _ _ | refine We ?_ | refine Wx ?_ | refine Wt ?_ | refine Wm ?_ | refine W2m ?_ ?_ | refine Wl ?_)
    | fail)
  refine st_call rfl (twoG 5 _ _ _) ?_
  rintro _ _ _ ⟨rfl, rfl, rfl⟩
  refine OpsJ.normA ?_
  repeat' (first
    | (refine is_ucall ?_; first
      | refine st_callP (h := late_spec _ _ _) (k := ?_)
      | refine st_callP (h := awake_spec _ _ _) (k := ?_)
      | refine st_callP (h := between_spec _ _ _ _ _) (k := ?_)
      | refine st_callP (h := ints_sameN _ _ _ vv _ [2, 2, 2] (hV.ext extA) (enc1_row rfl getA) hi3) (k := ?_)
      | fail)
    | (refine is_umcall ?_; first
      | refine mj_callP (h := late_spec _ _ _) (k := ?_)
      | refine mj_callP (h := awake_spec _ _ _) (k := ?_)
      | refine mj_callP (h := between_spec _ _ _ _ _) (k := ?_)
      | refine mj_callP (h := ints_sameN _ _ _ vv _ [2, 2, 2] (hV.ext extA) (enc1_row rfl getA) hi3) (k := ?_)
      | fail)
    | ((fail_if_success (first | refine is_ucall ?_ | refine is_umcall ?_)); first | refine W1 ?_ | refine Wc ?_ | refine W2c ?_ ?_ | refine Wg ?_ | refine W2 ?_ ?_ | exact Wdead | refine Wlive (fun hb => ?_) | intro _ _ _ _ _ _ _ _ | refine We ?_ | refine Wx ?_ | refine Wt ?_ | refine Wm ?_ | refine W2m ?_ ?_ | refine Wl ?_)
    | fail)
  refine st_call rfl (twoG 5 _ _ _) ?_
  rintro _ _ _ ⟨rfl, rfl, rfl⟩
  refine OpsJ.normA ?_
  repeat' (first
    | (refine is_ucall ?_; first
      | refine st_callP (h := late_spec _ _ _) (k := ?_)
      | refine st_callP (h := awake_spec _ _ _) (k := ?_)
      | refine st_callP (h := between_spec _ _ _ _ _) (k := ?_)
      | refine st_callP (h := ints_sameN _ _ _ vv _ [2, 2, 2] (hV.ext extA) (enc1_row rfl getA) hi3) (k := ?_)
      | fail)
    | (refine is_umcall ?_; first
      | refine mj_callP (h := late_spec _ _ _) (k := ?_)
      | refine mj_callP (h := awake_spec _ _ _) (k := ?_)
      | refine mj_callP (h := between_spec _ _ _ _ _) (k := ?_)
      | refine mj_callP (h := ints_sameN _ _ _ vv _ [2, 2, 2] (hV.ext extA) (enc1_row rfl getA) hi3) (k := ?_)
      | fail)
    | ((fail_if_success (first | refine is_ucall ?_ | refine is_umcall ?_)); first | refine W1 ?_ | refine Wc ?_ | refine W2c ?_ ?_ | refine Wg ?_ | refine W2 ?_ ?_ | exact Wdead | refine Wlive (fun hb => ?_) | intro _ _ _ _ _ _ _ _ | refine We ?_ | refine Wx ?_ | refine Wt ?_ | refine Wm ?_ | refine W2m ?_ ?_ | refine Wl ?_)
    | fail)
  refine st_call rfl (twoG 5 _ _ _) ?_
  rintro _ _ _ ⟨rfl, rfl, rfl⟩
  refine OpsJ.normA ?_
  repeat' (first
    | (refine is_ucall ?_; first
      | refine st_callP (h := late_spec _ _ _) (k := ?_)
      | refine st_callP (h := awake_spec _ _ _) (k := ?_)
      | refine st_callP (h := between_spec _ _ _ _ _) (k := ?_)
      | refine st_callP (h := ints_sameN _ _ _ vv _ [2, 2, 2] (hV.ext extA) (enc1_row rfl getA) hi3) (k := ?_)
      | fail)
    | (refine is_umcall ?_; first
      | refine mj_callP (h := late_spec _ _ _) (k := ?_)
      | refine mj_callP (h := awake_spec _ _ _) (k := ?_)
      | refine mj_callP (h := between_spec _ _ _ _ _) (k := ?_)
      | refine mj_callP (h := ints_sameN _ _ _ vv _ [2, 2, 2] (hV.ext extA) (enc1_row rfl getA) hi3) (k := ?_)
      | fail)
    | ((fail_if_success (first | refine is_ucall ?_ | refine is_umcall ?_)); first | refine W1 ?_ | refine Wc ?_ | refine W2c ?_ ?_ | refine Wg ?_ | refine W2 ?_ ?_ | exact Wdead | refine Wlive (fun hb => ?_) | intro _ _ _ _ _ _ _ _ | refine We ?_ | refine Wx ?_ | refine Wt ?_ | refine Wm ?_ | refine W2m ?_ ?_ | refine Wl ?_)
    | fail)
  refine st_call rfl (twoC _ _ _ _ (encC_row (x := ⟨0, 0, 500⟩) getA)) ?_
  rintro _ _ _ ⟨rfl, rfl, rfl⟩
  refine OpsJ.normA ?_
  repeat' (first
    | (refine is_ucall ?_; first
      | refine st_callP (h := late_spec _ _ _) (k := ?_)
      | refine st_callP (h := awake_spec _ _ _) (k := ?_)
      | refine st_callP (h := between_spec _ _ _ _ _) (k := ?_)
      | refine st_callP (h := ints_sameN _ _ _ vv _ [2, 2, 2] (hV.ext extA) (enc1_row rfl getA) hi3) (k := ?_)
      | fail)
    | (refine is_umcall ?_; first
      | refine mj_callP (h := late_spec _ _ _) (k := ?_)
      | refine mj_callP (h := awake_spec _ _ _) (k := ?_)
      | refine mj_callP (h := between_spec _ _ _ _ _) (k := ?_)
      | refine mj_callP (h := ints_sameN _ _ _ vv _ [2, 2, 2] (hV.ext extA) (enc1_row rfl getA) hi3) (k := ?_)
      | fail)
    | ((fail_if_success (first | refine is_ucall ?_ | refine is_umcall ?_)); first | refine W1 ?_ | refine Wc ?_ | refine W2c ?_ ?_ | refine Wg ?_ | refine W2 ?_ ?_ | exact Wdead | refine Wlive (fun hb => ?_) | intro _ _ _ _ _ _ _ _ | refine We ?_ | refine Wx ?_ | refine Wt ?_ | refine Wm ?_ | refine W2m ?_ ?_ | refine Wl ?_)
    | fail)
  refine st_call rfl (twoG 5 _ _ _) ?_
  rintro _ _ _ ⟨rfl, rfl, rfl⟩
  refine OpsJ.normA ?_
  repeat' (first
    | (refine is_ucall ?_; first
      | refine st_callP (h := late_spec _ _ _) (k := ?_)
      | refine st_callP (h := awake_spec _ _ _) (k := ?_)
      | refine st_callP (h := between_spec _ _ _ _ _) (k := ?_)
      | refine st_callP (h := ints_sameN _ _ _ vv _ [2, 2, 2] (hV.ext extA) (enc1_row rfl getA) hi3) (k := ?_)
      | fail)
    | (refine is_umcall ?_; first
      | refine mj_callP (h := late_spec _ _ _) (k := ?_)
      | refine mj_callP (h := awake_spec _ _ _) (k := ?_)
      | refine mj_callP (h := between_spec _ _ _ _ _) (k := ?_)
      | refine mj_callP (h := ints_sameN _ _ _ vv _ [2, 2, 2] (hV.ext extA) (enc1_row rfl getA) hi3) (k := ?_)
      | fail)
    | ((fail_if_success (first | refine is_ucall ?_ | refine is_umcall ?_)); first | refine W1 ?_ | refine Wc ?_ | refine W2c ?_ ?_ | refine Wg ?_ | refine W2 ?_ ?_ | exact Wdead | refine Wlive (fun hb => ?_) | intro _ _ _ _ _ _ _ _ | refine We ?_ | refine Wx ?_ | refine Wt ?_ | refine Wm ?_ | refine W2m ?_ ?_ | refine Wl ?_)
    | fail)
  refine st_call rfl (twoG 5 _ _ _) ?_
  rintro _ _ _ ⟨rfl, rfl, rfl⟩
  refine OpsJ.normA ?_
  simp only [Nat.add_assoc, Nat.reduceAdd]
  refine W1 ?_
  refine W1 ?_
  refine W1 ?_
  refine W1 ?_
  refine W1 ?_
  refine W1 ?_
  refine W1 ?_
  refine W1 ?_
  refine W1 ?_
  refine W1 ?_
  refine OpsJ.normA ?_
  refine W1 ?_
  refine OpsJ.normA ?_
  refine W1 ?_
  refine OpsJ.normA ?_
  refine W1 ?_
  refine OpsJ.normA ?_
  refine W1 ?_
  refine OpsJ.normA ?_
  refine W1 ?_
  refine OpsJ.normA ?_
  refine W1 ?_
  refine OpsJ.normA ?_
  refine W1 ?_
  refine OpsJ.normA ?_
  refine W1 ?_
  refine OpsJ.normA ?_
  refine W1 ?_
  refine OpsJ.normA ?_
  refine W1 ?_
  refine OpsJ.normA ?_
  repeat' (first
    | (refine is_ucall ?_; first
      | refine st_callP (h := late_spec _ _ _) (k := ?_)
      | refine st_callP (h := awake_spec _ _ _) (k := ?_)
      | refine st_callP (h := between_spec _ _ _ _ _) (k := ?_)
      | refine st_callP (h := ints_sameN _ _ _ vv _ [2, 2, 2] (hV.ext extA) (enc1_row rfl getA) hi3) (k := ?_)
      | fail)
    | (refine is_umcall ?_; first
      | refine mj_callP (h := late_spec _ _ _) (k := ?_)
      | refine mj_callP (h := awake_spec _ _ _) (k := ?_)
      | refine mj_callP (h := between_spec _ _ _ _ _) (k := ?_)
      | refine mj_callP (h := ints_sameN _ _ _ vv _ [2, 2, 2] (hV.ext extA) (enc1_row rfl getA) hi3) (k := ?_)
      | fail)
    | ((fail_if_success (first | refine is_ucall ?_ | refine is_umcall ?_)); first | refine W1 ?_ | refine Wc ?_ | refine W2c ?_ ?_ | refine Wg ?_ | refine W2 ?_ ?_ | exact Wdead | refine Wlive (fun hb => ?_) | intro _ _ _ _ _ _ _ _ | refine We ?_ | refine Wx ?_ | refine Wt ?_ | refine Wm ?_ | refine W2m ?_ ?_ | refine Wl ?_)
    | fail)
  refine WPJ.draw 4 mixed (by kernel_rfl) (by kernel_rfl) (by kernel_rfl) (by decide) ?_
  refine MonoJ.normA ?_
  refine Wm ?_
  refine Wm ?_
  refine mj_callP (h := between_spec _ _ _ _ _) (k := ?_)
  refine Wm ?_
  first
  | refine Wl ?_
  | refine Wx ?_
  | refine Wt ?_
  | refine We ?_
  | refine Wm ?_
  refine OpsJ.normA ?_
  refine st_store (n := 2) rfl rfl rfl rfl getA (by simp) ?_
  refine OpsJ.normA ?_
  repeat' (first
    | (refine is_ucall ?_; first
      | refine st_callP (h := late_spec _ _ _) (k := ?_)
      | refine st_callP (h := awake_spec _ _ _) (k := ?_)
      | refine st_callP (h := between_spec _ _ _ _ _) (k := ?_)
      | refine st_callP (h := ints_sameN _ _ _ vv _ [2, 2, 2] (hV.ext extA) (enc1_row rfl getA) hi3) (k := ?_)
      | fail)
    | (refine is_umcall ?_; first
      | refine mj_callP (h := late_spec _ _ _) (k := ?_)
      | refine mj_callP (h := awake_spec _ _ _) (k := ?_)
      | refine mj_callP (h := between_spec _ _ _ _ _) (k := ?_)
      | refine mj_callP (h := ints_sameN _ _ _ vv _ [2, 2, 2] (hV.ext extA) (enc1_row rfl getA) hi3) (k := ?_)
      | fail)
    | ((fail_if_success (first | refine is_ucall ?_ | refine is_umcall ?_)); first | refine W1 ?_ | refine Wc ?_ | refine W2c ?_ ?_ | refine Wg ?_ | refine W2 ?_ ?_ | exact Wdead | refine Wlive (fun hb => ?_) | intro _ _ _ _ _ _ _ _ | refine We ?_ | refine Wx ?_ | refine Wt ?_ | refine Wm ?_ | refine W2m ?_ ?_ | refine Wl ?_)
    | fail)
  refine WPJ.drawS 8 7 (H23.length + 28) (.row [.int .i64 0, .int .i64 0, .int .i64 (-5), .int .i64 5] 2 true) (.row [.int .i64 (-30), .int .i64 30, .int .i64 (-5), .int .i64 5] 2 true) mixed (by kernel_rfl) (by kernel_rfl) (by kernel_rfl) (by decide) (by decide) rfl (by first | rfl | (simp [flatRow, flat1]; done) | assumption) (by first | exact .inl rfl | exact .inr (by first | omega | (simp; omega))) ?_
  refine SpecJ.normA ?_
  refine SpecJ.seg 2 (by kernel_rfl) (by decide) ?_
  repeat' (first
    | (refine is_ucall ?_; first
      | refine st_callP (h := late_spec _ _ _) (k := ?_)
      | refine st_callP (h := awake_spec _ _ _) (k := ?_)
      | refine st_callP (h := between_spec _ _ _ _ _) (k := ?_)
      | refine st_callP (h := ints_sameN _ _ _ vv _ [2, 2, 2] (hV.ext extA) (enc1_row rfl getA) hi3) (k := ?_)
      | fail)
    | (refine is_umcall ?_; first
      | refine mj_callP (h := late_spec _ _ _) (k := ?_)
      | refine mj_callP (h := awake_spec _ _ _) (k := ?_)
      | refine mj_callP (h := between_spec _ _ _ _ _) (k := ?_)
      | refine mj_callP (h := ints_sameN _ _ _ vv _ [2, 2, 2] (hV.ext extA) (enc1_row rfl getA) hi3) (k := ?_)
      | fail)
    | ((fail_if_success (first | refine is_ucall ?_ | refine is_umcall ?_)); first | refine W1 ?_ | refine Wc ?_ | refine W2c ?_ ?_ | refine Wg ?_ | refine W2 ?_ ?_ | exact Wdead | refine Wlive (fun hb => ?_) | intro _ _ _ _ _ _ _ _ | refine We ?_ | refine Wx ?_ | refine Wt ?_ | refine Wm ?_ | refine W2m ?_ ?_ | refine Wl ?_)
    | fail)
  refine sj_fieldAddr rfl rfl ?_
  refine SpecJ.normA ?_
  refine sj_load1 rfl rfl rfl getA (by omega) rfl ?_
  refine SpecJ.normA ?_
  refine SpecJ.seg 3 (by kernel_rfl) (by decide) ?_
  repeat' (first
    | (refine is_ucall ?_; first
      | refine st_callP (h := late_spec _ _ _) (k := ?_)
      | refine st_callP (h := awake_spec _ _ _) (k := ?_)
      | refine st_callP (h := between_spec _ _ _ _ _) (k := ?_)
      | refine st_callP (h := ints_sameN _ _ _ vv _ [2, 2, 2] (hV.ext extA) (enc1_row rfl getA) hi3) (k := ?_)
      | fail)
    | (refine is_umcall ?_; first
      | refine mj_callP (h := late_spec _ _ _) (k := ?_)
      | refine mj_callP (h := awake_spec _ _ _) (k := ?_)
      | refine mj_callP (h := between_spec _ _ _ _ _) (k := ?_)
      | refine mj_callP (h := ints_sameN _ _ _ vv _ [2, 2, 2] (hV.ext extA) (enc1_row rfl getA) hi3) (k := ?_)
      | fail)
    | ((fail_if_success (first | refine is_ucall ?_ | refine is_umcall ?_)); first | refine W1 ?_ | refine Wc ?_ | refine W2c ?_ ?_ | refine Wg ?_ | refine W2 ?_ ?_ | exact Wdead | refine Wlive (fun hb => ?_) | intro _ _ _ _ _ _ _ _ | refine We ?_ | refine Wx ?_ | refine Wt ?_ | refine Wm ?_ | refine W2m ?_ ?_ | refine Wl ?_)
    | fail)
  refine SpecJ.spec (n := 0) undef [] getA rfl rfl ?_ ?_
  · simp only [List.append_nil]
    exact runs_store TyC.ty rfl rfl rfl rfl rfl getA (by decide) rfl
  refine SpecJ.normA ?_
  refine SpecJ.done ?_
  refine OpsJ.list (l' := [_, _]) rfl ?_
  refine W1 ?_
  refine st_store (n := 2) rfl rfl rfl rfl getA (by simp) ?_
  refine OpsJ.normA ?_
  have hY : ∀ (Hx : AHeap) (m : HouseM) (i1 i2 i3 c1 c2 c3 : Nat) (r1 r2 r3 : List Value) (o1 o2 o3 : Bool), Hx[i1]? = some (.row r1 2 o1) → Hx[i2]? = some (.row r2 2 o2) → Hx[i3]? = some (.row r3 3 o3) → r1 = (m.clocks.map encR).flatten → r2 = (m.tickets.map encR).flatten → r3 = (m.clips.map encC).flatten → m.clocks.length ≤ 1000000 → m.tickets.length ≤ 1000000 → m.clips.length ≤ 1000000 → HouseY Hx m (.slice (some ⟨i1, 0, none⟩) m.clocks.length c1) (.slice (some ⟨i2, 0, none⟩) m.tickets.length c2) (.slice (some ⟨i3, 0, none⟩) m.clips.length c3) := by
    rintro Hx m i1 i2 i3 c1 c2 c3 r1 r2 r3 o1 o2 o3 h1 h2 h3 rfl rfl rfl n1 n2 n3
    exact ⟨rowY (enc := encR) (w := 2) (fun _ => rfl) h1, rowY (enc := encR) (w := 2) (fun _ => rfl) h2, rowY (enc := encC) (w := 3) (fun _ => rfl) h3, rfl, n1, n2, n3⟩
  have CheckP : ∀ (EE : Env γ) (gg : γ) (HH : AHeap) (m : HouseM) (s1 s2 s3 : Value) (e : Int), checkS m = e → HouseY HH m s1 s2 s3 → CallJ Try.prog EE 30 [hv m s1 s2 s3] (fun v H' g' => v = .int .i64 e ∧ H' = HH ∧ g' = gg) HH gg := by
    rintro EE gg HH m s1 s2 s3 e rfl hm
    exact CheckHouse_y EE gg HH m s1 s2 s3 hm
  have hnilY : ∀ Hx : AHeap, HouseY Hx ⟨1, 0, [], [], []⟩ (.slice none 0 0) (.slice none 0 0) (.slice none 0 0) := fun Hx => ⟨⟨by simp, .inr ⟨rfl, .inl rfl⟩⟩, ⟨by simp, .inr ⟨rfl, .inl rfl⟩⟩, ⟨by simp, .inr ⟨rfl, .inl rfl⟩⟩, rfl, by decide, by decide, by decide⟩
  have k0 : checkS ⟨0, 5, [(0, 0), (-5, 5)], [(0, 1), (0, 2), (1, 0)], [⟨0, 0, 300⟩, ⟨0, 1, 366⟩, ⟨1, 0, 365⟩, ⟨1, 1, 488⟩]⟩ = 1 := by kernel_rfl
  have k1 : checkS ⟨60, 61, [(0, 0), (-5, 5)], [(0, 1), (0, 2), (1, 0)], [⟨0, 0, 300⟩, ⟨0, 1, 366⟩, ⟨1, 0, 365⟩, ⟨1, 1, 488⟩]⟩ = 1 := by kernel_rfl
  have k2 : checkS ⟨60, 5, [(0, 0), (-5, 5)], [(0, 1), (0, 2), (1, 0)], [⟨0, 2, 300⟩, ⟨0, 1, 366⟩, ⟨1, 0, 365⟩, ⟨1, 1, 488⟩]⟩ = 1 := by kernel_rfl
  have k3 : checkS ⟨60, 5, [(0, 31), (-5, 5)], [(0, 1), (0, 2), (1, 0)], [⟨0, 0, 300⟩, ⟨0, 1, 366⟩, ⟨1, 0, 365⟩, ⟨1, 1, 488⟩]⟩ = 1 := by kernel_rfl
  have k4 : checkS ⟨60, 5, [(0, 0), (-5, 5)], [(9, 1), (0, 2), (1, 0)], [⟨0, 0, 300⟩, ⟨0, 1, 366⟩, ⟨1, 0, 365⟩, ⟨1, 1, 488⟩]⟩ = 1 := by kernel_rfl
  have k5 : checkS ⟨60, 5, [(0, 0), (-5, 5)], [(0, 10), (0, 2), (1, 0)], [⟨0, 0, 300⟩, ⟨0, 1, 366⟩, ⟨1, 0, 365⟩, ⟨1, 1, 488⟩]⟩ = 1 := by kernel_rfl
  have k6 : checkS ⟨60, 5, [(0, 0), (-5, 5)], [(0, 1), (0, 2), (1, 0)], [⟨0, 0, 1440⟩, ⟨0, 1, 366⟩, ⟨1, 0, 365⟩, ⟨1, 1, 488⟩]⟩ = 1 := by kernel_rfl
  have k7 : checkS ⟨60, 5, [(0, 0), (-5, 5)], [(0, 1), (0, 2), (1, 0)], [⟨0, 0, 300⟩, ⟨0, 1, 366⟩, ⟨1, 0, 365⟩, ⟨1, 1, 488⟩, ⟨0, 0, 500⟩]⟩ = 1 := by kernel_rfl
  have k8 : checkS ⟨60, 5, [(0, 0), (-5, 5)], [(0, 1), (0, 2), (1, 0)], [⟨0, 0, 0⟩, ⟨0, 0, 0⟩, ⟨0, 0, 0⟩, ⟨0, 0, 0⟩, ⟨0, 0, 0⟩, ⟨0, 0, 0⟩, ⟨0, 0, 0⟩, ⟨0, 0, 0⟩, ⟨0, 0, 0⟩, ⟨0, 0, 0⟩, ⟨0, 0, 0⟩]⟩ = 3 := by kernel_rfl
  have k9 : checkS ⟨60, 5, [(-30, 30), (-30, 2)], [(0, 1), (0, 2), (1, 0)], [⟨0, 0, 300⟩, ⟨0, 1, 366⟩, ⟨1, 0, 365⟩, ⟨1, 1, 488⟩]⟩ = 3 := by kernel_rfl
  have kN : checkS ⟨1, 0, [], [], []⟩ = 0 := by kernel_rfl
  have c0 : ∀ (EE : Env γ) (gg : γ) (HH : AHeap) (i1 i2 i3 : Nat) (o1 o2 o3 : Bool), HH[i1]? = some (.row [.int .i64 0, .int .i64 0, .int .i64 (-5), .int .i64 5] 2 o1) → HH[i2]? = some (.row [.int .i64 0, .int .i64 1, .int .i64 0, .int .i64 2, .int .i64 1, .int .i64 0] 2 o2) → HH[i3]? = some (.row [.int .i64 0, .int .i64 0, .int .i64 300, .int .i64 0, .int .i64 1, .int .i64 366, .int .i64 1, .int .i64 0, .int .i64 365, .int .i64 1, .int .i64 1, .int .i64 488] 3 o3) → CallJ Try.prog EE 30 [.agg ⟨[.int .i64 0, .int .i64 5, .slice (some ⟨i1, 0, none⟩) 2 2, .slice (some ⟨i2, 0, none⟩) 3 3, .slice (some ⟨i3, 0, none⟩) 4 4]⟩] (fun v H' g' => v = .int .i64 1 ∧ H' = HH ∧ g' = gg) HH gg := fun EE gg HH i1 i2 i3 o1 o2 o3 h1 h2 h3 => CheckP EE gg HH ⟨0, 5, [(0, 0), (-5, 5)], [(0, 1), (0, 2), (1, 0)], [⟨0, 0, 300⟩, ⟨0, 1, 366⟩, ⟨1, 0, 365⟩, ⟨1, 1, 488⟩]⟩ _ _ _ _ k0 (hY HH ⟨0, 5, [(0, 0), (-5, 5)], [(0, 1), (0, 2), (1, 0)], [⟨0, 0, 300⟩, ⟨0, 1, 366⟩, ⟨1, 0, 365⟩, ⟨1, 1, 488⟩]⟩ i1 i2 i3 2 3 4 _ _ _ o1 o2 o3 h1 h2 h3 rfl rfl rfl (by decide) (by decide) (by decide))
  have c1 : ∀ (EE : Env γ) (gg : γ) (HH : AHeap) (i1 i2 i3 : Nat) (o1 o2 o3 : Bool), HH[i1]? = some (.row [.int .i64 0, .int .i64 0, .int .i64 (-5), .int .i64 5] 2 o1) → HH[i2]? = some (.row [.int .i64 0, .int .i64 1, .int .i64 0, .int .i64 2, .int .i64 1, .int .i64 0] 2 o2) → HH[i3]? = some (.row [.int .i64 0, .int .i64 0, .int .i64 300, .int .i64 0, .int .i64 1, .int .i64 366, .int .i64 1, .int .i64 0, .int .i64 365, .int .i64 1, .int .i64 1, .int .i64 488] 3 o3) → CallJ Try.prog EE 30 [.agg ⟨[.int .i64 60, .int .i64 61, .slice (some ⟨i1, 0, none⟩) 2 2, .slice (some ⟨i2, 0, none⟩) 3 3, .slice (some ⟨i3, 0, none⟩) 4 4]⟩] (fun v H' g' => v = .int .i64 1 ∧ H' = HH ∧ g' = gg) HH gg := fun EE gg HH i1 i2 i3 o1 o2 o3 h1 h2 h3 => CheckP EE gg HH ⟨60, 61, [(0, 0), (-5, 5)], [(0, 1), (0, 2), (1, 0)], [⟨0, 0, 300⟩, ⟨0, 1, 366⟩, ⟨1, 0, 365⟩, ⟨1, 1, 488⟩]⟩ _ _ _ _ k1 (hY HH ⟨60, 61, [(0, 0), (-5, 5)], [(0, 1), (0, 2), (1, 0)], [⟨0, 0, 300⟩, ⟨0, 1, 366⟩, ⟨1, 0, 365⟩, ⟨1, 1, 488⟩]⟩ i1 i2 i3 2 3 4 _ _ _ o1 o2 o3 h1 h2 h3 rfl rfl rfl (by decide) (by decide) (by decide))
  have c2 : ∀ (EE : Env γ) (gg : γ) (HH : AHeap) (i1 i2 i3 : Nat) (o1 o2 o3 : Bool), HH[i1]? = some (.row [.int .i64 0, .int .i64 0, .int .i64 (-5), .int .i64 5] 2 o1) → HH[i2]? = some (.row [.int .i64 0, .int .i64 1, .int .i64 0, .int .i64 2, .int .i64 1, .int .i64 0] 2 o2) → HH[i3]? = some (.row [.int .i64 0, .int .i64 2, .int .i64 300, .int .i64 0, .int .i64 1, .int .i64 366, .int .i64 1, .int .i64 0, .int .i64 365, .int .i64 1, .int .i64 1, .int .i64 488] 3 o3) → CallJ Try.prog EE 30 [.agg ⟨[.int .i64 60, .int .i64 5, .slice (some ⟨i1, 0, none⟩) 2 2, .slice (some ⟨i2, 0, none⟩) 3 3, .slice (some ⟨i3, 0, none⟩) 4 4]⟩] (fun v H' g' => v = .int .i64 1 ∧ H' = HH ∧ g' = gg) HH gg := fun EE gg HH i1 i2 i3 o1 o2 o3 h1 h2 h3 => CheckP EE gg HH ⟨60, 5, [(0, 0), (-5, 5)], [(0, 1), (0, 2), (1, 0)], [⟨0, 2, 300⟩, ⟨0, 1, 366⟩, ⟨1, 0, 365⟩, ⟨1, 1, 488⟩]⟩ _ _ _ _ k2 (hY HH ⟨60, 5, [(0, 0), (-5, 5)], [(0, 1), (0, 2), (1, 0)], [⟨0, 2, 300⟩, ⟨0, 1, 366⟩, ⟨1, 0, 365⟩, ⟨1, 1, 488⟩]⟩ i1 i2 i3 2 3 4 _ _ _ o1 o2 o3 h1 h2 h3 rfl rfl rfl (by decide) (by decide) (by decide))
  have c3 : ∀ (EE : Env γ) (gg : γ) (HH : AHeap) (i1 i2 i3 : Nat) (o1 o2 o3 : Bool), HH[i1]? = some (.row [.int .i64 0, .int .i64 31, .int .i64 (-5), .int .i64 5] 2 o1) → HH[i2]? = some (.row [.int .i64 0, .int .i64 1, .int .i64 0, .int .i64 2, .int .i64 1, .int .i64 0] 2 o2) → HH[i3]? = some (.row [.int .i64 0, .int .i64 0, .int .i64 300, .int .i64 0, .int .i64 1, .int .i64 366, .int .i64 1, .int .i64 0, .int .i64 365, .int .i64 1, .int .i64 1, .int .i64 488] 3 o3) → CallJ Try.prog EE 30 [.agg ⟨[.int .i64 60, .int .i64 5, .slice (some ⟨i1, 0, none⟩) 2 2, .slice (some ⟨i2, 0, none⟩) 3 3, .slice (some ⟨i3, 0, none⟩) 4 4]⟩] (fun v H' g' => v = .int .i64 1 ∧ H' = HH ∧ g' = gg) HH gg := fun EE gg HH i1 i2 i3 o1 o2 o3 h1 h2 h3 => CheckP EE gg HH ⟨60, 5, [(0, 31), (-5, 5)], [(0, 1), (0, 2), (1, 0)], [⟨0, 0, 300⟩, ⟨0, 1, 366⟩, ⟨1, 0, 365⟩, ⟨1, 1, 488⟩]⟩ _ _ _ _ k3 (hY HH ⟨60, 5, [(0, 31), (-5, 5)], [(0, 1), (0, 2), (1, 0)], [⟨0, 0, 300⟩, ⟨0, 1, 366⟩, ⟨1, 0, 365⟩, ⟨1, 1, 488⟩]⟩ i1 i2 i3 2 3 4 _ _ _ o1 o2 o3 h1 h2 h3 rfl rfl rfl (by decide) (by decide) (by decide))
  have c4 : ∀ (EE : Env γ) (gg : γ) (HH : AHeap) (i1 i2 i3 : Nat) (o1 o2 o3 : Bool), HH[i1]? = some (.row [.int .i64 0, .int .i64 0, .int .i64 (-5), .int .i64 5] 2 o1) → HH[i2]? = some (.row [.int .i64 9, .int .i64 1, .int .i64 0, .int .i64 2, .int .i64 1, .int .i64 0] 2 o2) → HH[i3]? = some (.row [.int .i64 0, .int .i64 0, .int .i64 300, .int .i64 0, .int .i64 1, .int .i64 366, .int .i64 1, .int .i64 0, .int .i64 365, .int .i64 1, .int .i64 1, .int .i64 488] 3 o3) → CallJ Try.prog EE 30 [.agg ⟨[.int .i64 60, .int .i64 5, .slice (some ⟨i1, 0, none⟩) 2 2, .slice (some ⟨i2, 0, none⟩) 3 3, .slice (some ⟨i3, 0, none⟩) 4 4]⟩] (fun v H' g' => v = .int .i64 1 ∧ H' = HH ∧ g' = gg) HH gg := fun EE gg HH i1 i2 i3 o1 o2 o3 h1 h2 h3 => CheckP EE gg HH ⟨60, 5, [(0, 0), (-5, 5)], [(9, 1), (0, 2), (1, 0)], [⟨0, 0, 300⟩, ⟨0, 1, 366⟩, ⟨1, 0, 365⟩, ⟨1, 1, 488⟩]⟩ _ _ _ _ k4 (hY HH ⟨60, 5, [(0, 0), (-5, 5)], [(9, 1), (0, 2), (1, 0)], [⟨0, 0, 300⟩, ⟨0, 1, 366⟩, ⟨1, 0, 365⟩, ⟨1, 1, 488⟩]⟩ i1 i2 i3 2 3 4 _ _ _ o1 o2 o3 h1 h2 h3 rfl rfl rfl (by decide) (by decide) (by decide))
  have c5 : ∀ (EE : Env γ) (gg : γ) (HH : AHeap) (i1 i2 i3 : Nat) (o1 o2 o3 : Bool), HH[i1]? = some (.row [.int .i64 0, .int .i64 0, .int .i64 (-5), .int .i64 5] 2 o1) → HH[i2]? = some (.row [.int .i64 0, .int .i64 10, .int .i64 0, .int .i64 2, .int .i64 1, .int .i64 0] 2 o2) → HH[i3]? = some (.row [.int .i64 0, .int .i64 0, .int .i64 300, .int .i64 0, .int .i64 1, .int .i64 366, .int .i64 1, .int .i64 0, .int .i64 365, .int .i64 1, .int .i64 1, .int .i64 488] 3 o3) → CallJ Try.prog EE 30 [.agg ⟨[.int .i64 60, .int .i64 5, .slice (some ⟨i1, 0, none⟩) 2 2, .slice (some ⟨i2, 0, none⟩) 3 3, .slice (some ⟨i3, 0, none⟩) 4 4]⟩] (fun v H' g' => v = .int .i64 1 ∧ H' = HH ∧ g' = gg) HH gg := fun EE gg HH i1 i2 i3 o1 o2 o3 h1 h2 h3 => CheckP EE gg HH ⟨60, 5, [(0, 0), (-5, 5)], [(0, 10), (0, 2), (1, 0)], [⟨0, 0, 300⟩, ⟨0, 1, 366⟩, ⟨1, 0, 365⟩, ⟨1, 1, 488⟩]⟩ _ _ _ _ k5 (hY HH ⟨60, 5, [(0, 0), (-5, 5)], [(0, 10), (0, 2), (1, 0)], [⟨0, 0, 300⟩, ⟨0, 1, 366⟩, ⟨1, 0, 365⟩, ⟨1, 1, 488⟩]⟩ i1 i2 i3 2 3 4 _ _ _ o1 o2 o3 h1 h2 h3 rfl rfl rfl (by decide) (by decide) (by decide))
  have c6 : ∀ (EE : Env γ) (gg : γ) (HH : AHeap) (i1 i2 i3 : Nat) (o1 o2 o3 : Bool), HH[i1]? = some (.row [.int .i64 0, .int .i64 0, .int .i64 (-5), .int .i64 5] 2 o1) → HH[i2]? = some (.row [.int .i64 0, .int .i64 1, .int .i64 0, .int .i64 2, .int .i64 1, .int .i64 0] 2 o2) → HH[i3]? = some (.row [.int .i64 0, .int .i64 0, .int .i64 1440, .int .i64 0, .int .i64 1, .int .i64 366, .int .i64 1, .int .i64 0, .int .i64 365, .int .i64 1, .int .i64 1, .int .i64 488] 3 o3) → CallJ Try.prog EE 30 [.agg ⟨[.int .i64 60, .int .i64 5, .slice (some ⟨i1, 0, none⟩) 2 2, .slice (some ⟨i2, 0, none⟩) 3 3, .slice (some ⟨i3, 0, none⟩) 4 4]⟩] (fun v H' g' => v = .int .i64 1 ∧ H' = HH ∧ g' = gg) HH gg := fun EE gg HH i1 i2 i3 o1 o2 o3 h1 h2 h3 => CheckP EE gg HH ⟨60, 5, [(0, 0), (-5, 5)], [(0, 1), (0, 2), (1, 0)], [⟨0, 0, 1440⟩, ⟨0, 1, 366⟩, ⟨1, 0, 365⟩, ⟨1, 1, 488⟩]⟩ _ _ _ _ k6 (hY HH ⟨60, 5, [(0, 0), (-5, 5)], [(0, 1), (0, 2), (1, 0)], [⟨0, 0, 1440⟩, ⟨0, 1, 366⟩, ⟨1, 0, 365⟩, ⟨1, 1, 488⟩]⟩ i1 i2 i3 2 3 4 _ _ _ o1 o2 o3 h1 h2 h3 rfl rfl rfl (by decide) (by decide) (by decide))
  have c7 : ∀ (EE : Env γ) (gg : γ) (HH : AHeap) (i1 i2 i3 : Nat) (o1 o2 o3 : Bool), HH[i1]? = some (.row [.int .i64 0, .int .i64 0, .int .i64 (-5), .int .i64 5] 2 o1) → HH[i2]? = some (.row [.int .i64 0, .int .i64 1, .int .i64 0, .int .i64 2, .int .i64 1, .int .i64 0] 2 o2) → HH[i3]? = some (.row [.int .i64 0, .int .i64 0, .int .i64 300, .int .i64 0, .int .i64 1, .int .i64 366, .int .i64 1, .int .i64 0, .int .i64 365, .int .i64 1, .int .i64 1, .int .i64 488, .int .i64 0, .int .i64 0, .int .i64 500] 3 o3) → CallJ Try.prog EE 30 [.agg ⟨[.int .i64 60, .int .i64 5, .slice (some ⟨i1, 0, none⟩) 2 2, .slice (some ⟨i2, 0, none⟩) 3 3, .slice (some ⟨i3, 0, none⟩) 5 5]⟩] (fun v H' g' => v = .int .i64 1 ∧ H' = HH ∧ g' = gg) HH gg := fun EE gg HH i1 i2 i3 o1 o2 o3 h1 h2 h3 => CheckP EE gg HH ⟨60, 5, [(0, 0), (-5, 5)], [(0, 1), (0, 2), (1, 0)], [⟨0, 0, 300⟩, ⟨0, 1, 366⟩, ⟨1, 0, 365⟩, ⟨1, 1, 488⟩, ⟨0, 0, 500⟩]⟩ _ _ _ _ k7 (hY HH ⟨60, 5, [(0, 0), (-5, 5)], [(0, 1), (0, 2), (1, 0)], [⟨0, 0, 300⟩, ⟨0, 1, 366⟩, ⟨1, 0, 365⟩, ⟨1, 1, 488⟩, ⟨0, 0, 500⟩]⟩ i1 i2 i3 2 3 5 _ _ _ o1 o2 o3 h1 h2 h3 rfl rfl rfl (by decide) (by decide) (by decide))
  have c8 : ∀ (EE : Env γ) (gg : γ) (HH : AHeap) (i1 i2 i3 : Nat) (o1 o2 o3 : Bool), HH[i1]? = some (.row [.int .i64 0, .int .i64 0, .int .i64 (-5), .int .i64 5] 2 o1) → HH[i2]? = some (.row [.int .i64 0, .int .i64 1, .int .i64 0, .int .i64 2, .int .i64 1, .int .i64 0] 2 o2) → HH[i3]? = some (.row [.int .i64 0, .int .i64 0, .int .i64 0, .int .i64 0, .int .i64 0, .int .i64 0, .int .i64 0, .int .i64 0, .int .i64 0, .int .i64 0, .int .i64 0, .int .i64 0, .int .i64 0, .int .i64 0, .int .i64 0, .int .i64 0, .int .i64 0, .int .i64 0, .int .i64 0, .int .i64 0, .int .i64 0, .int .i64 0, .int .i64 0, .int .i64 0, .int .i64 0, .int .i64 0, .int .i64 0, .int .i64 0, .int .i64 0, .int .i64 0, .int .i64 0, .int .i64 0, .int .i64 0] 3 o3) → CallJ Try.prog EE 30 [.agg ⟨[.int .i64 60, .int .i64 5, .slice (some ⟨i1, 0, none⟩) 2 2, .slice (some ⟨i2, 0, none⟩) 3 3, .slice (some ⟨i3, 0, none⟩) 11 11]⟩] (fun v H' g' => v = .int .i64 3 ∧ H' = HH ∧ g' = gg) HH gg := fun EE gg HH i1 i2 i3 o1 o2 o3 h1 h2 h3 => CheckP EE gg HH ⟨60, 5, [(0, 0), (-5, 5)], [(0, 1), (0, 2), (1, 0)], [⟨0, 0, 0⟩, ⟨0, 0, 0⟩, ⟨0, 0, 0⟩, ⟨0, 0, 0⟩, ⟨0, 0, 0⟩, ⟨0, 0, 0⟩, ⟨0, 0, 0⟩, ⟨0, 0, 0⟩, ⟨0, 0, 0⟩, ⟨0, 0, 0⟩, ⟨0, 0, 0⟩]⟩ _ _ _ _ k8 (hY HH ⟨60, 5, [(0, 0), (-5, 5)], [(0, 1), (0, 2), (1, 0)], [⟨0, 0, 0⟩, ⟨0, 0, 0⟩, ⟨0, 0, 0⟩, ⟨0, 0, 0⟩, ⟨0, 0, 0⟩, ⟨0, 0, 0⟩, ⟨0, 0, 0⟩, ⟨0, 0, 0⟩, ⟨0, 0, 0⟩, ⟨0, 0, 0⟩, ⟨0, 0, 0⟩]⟩ i1 i2 i3 2 3 11 _ _ _ o1 o2 o3 h1 h2 h3 rfl rfl rfl (by decide) (by decide) (by decide))
  have c9 : ∀ (EE : Env γ) (gg : γ) (HH : AHeap) (i1 i2 i3 : Nat) (o1 o2 o3 : Bool), HH[i1]? = some (.row [.int .i64 (-30), .int .i64 30, .int .i64 (-30), .int .i64 2] 2 o1) → HH[i2]? = some (.row [.int .i64 0, .int .i64 1, .int .i64 0, .int .i64 2, .int .i64 1, .int .i64 0] 2 o2) → HH[i3]? = some (.row [.int .i64 0, .int .i64 0, .int .i64 300, .int .i64 0, .int .i64 1, .int .i64 366, .int .i64 1, .int .i64 0, .int .i64 365, .int .i64 1, .int .i64 1, .int .i64 488] 3 o3) → CallJ Try.prog EE 30 [.agg ⟨[.int .i64 60, .int .i64 5, .slice (some ⟨i1, 0, none⟩) 2 2, .slice (some ⟨i2, 0, none⟩) 3 3, .slice (some ⟨i3, 0, none⟩) 4 4]⟩] (fun v H' g' => v = .int .i64 3 ∧ H' = HH ∧ g' = gg) HH gg := fun EE gg HH i1 i2 i3 o1 o2 o3 h1 h2 h3 => CheckP EE gg HH ⟨60, 5, [(-30, 30), (-30, 2)], [(0, 1), (0, 2), (1, 0)], [⟨0, 0, 300⟩, ⟨0, 1, 366⟩, ⟨1, 0, 365⟩, ⟨1, 1, 488⟩]⟩ _ _ _ _ k9 (hY HH ⟨60, 5, [(-30, 30), (-30, 2)], [(0, 1), (0, 2), (1, 0)], [⟨0, 0, 300⟩, ⟨0, 1, 366⟩, ⟨1, 0, 365⟩, ⟨1, 1, 488⟩]⟩ i1 i2 i3 2 3 4 _ _ _ o1 o2 o3 h1 h2 h3 rfl rfl rfl (by decide) (by decide) (by decide))
  repeat' (first
    | (refine is_ucall ?_; first
      | refine st_callP (h := late_spec _ _ _) (k := ?_)
      | refine st_callP (h := awake_spec _ _ _) (k := ?_)
      | refine st_callP (h := between_spec _ _ _ _ _) (k := ?_)
      | refine st_callP (h := ints_sameN _ _ _ vv _ [2, 2, 2] (hV.ext extA) (enc1_row rfl getA) hi3) (k := ?_)
      | fail)
    | (refine is_umcall ?_; first
      | refine mj_callP (h := late_spec _ _ _) (k := ?_)
      | refine mj_callP (h := awake_spec _ _ _) (k := ?_)
      | refine mj_callP (h := between_spec _ _ _ _ _) (k := ?_)
      | refine mj_callP (h := ints_sameN _ _ _ vv _ [2, 2, 2] (hV.ext extA) (enc1_row rfl getA) hi3) (k := ?_)
      | fail)
    | ((fail_if_success (first | refine is_ucall ?_ | refine is_umcall ?_)); first | refine W1 ?_ | refine Wc ?_ | refine W2c ?_ ?_ | refine Wg ?_ | refine W2 ?_ ?_ | exact Wdead | refine Wlive (fun hb => ?_) | intro _ _ _ _ _ _ _ _ | refine We ?_ | refine Wx ?_ | refine Wt ?_ | refine Wm ?_ | refine W2m ?_ ?_ | refine Wl ?_)
    | fail)
  refine OpsJ.list (by simp only [List.append_eq, List.cons_append, List.nil_append]; rfl) ?_
  repeat' (first
    | (refine is_ucall ?_; first
      | refine st_callP (h := late_spec _ _ _) (k := ?_)
      | refine st_callP (h := awake_spec _ _ _) (k := ?_)
      | refine st_callP (h := between_spec _ _ _ _ _) (k := ?_)
      | refine st_callP (h := ints_sameN _ _ _ vv _ [2, 2, 2] (hV.ext extA) (enc1_row rfl getA) hi3) (k := ?_)
      | fail)
    | (refine is_umcall ?_; first
      | refine mj_callP (h := late_spec _ _ _) (k := ?_)
      | refine mj_callP (h := awake_spec _ _ _) (k := ?_)
      | refine mj_callP (h := between_spec _ _ _ _ _) (k := ?_)
      | refine mj_callP (h := ints_sameN _ _ _ vv _ [2, 2, 2] (hV.ext extA) (enc1_row rfl getA) hi3) (k := ?_)
      | fail)
    | ((fail_if_success (first | refine is_ucall ?_ | refine is_umcall ?_)); first | refine W1 ?_ | refine Wc ?_ | refine W2c ?_ ?_ | refine Wg ?_ | refine W2 ?_ ?_ | exact Wdead | refine Wlive (fun hb => ?_) | intro _ _ _ _ _ _ _ _ | refine We ?_ | refine Wx ?_ | refine Wt ?_ | refine Wm ?_ | refine W2m ?_ ?_ | refine Wl ?_)
    | fail)
  refine st_callP (h := c0 E _ _ H23.length (H23.length + 1) (H23.length + 2) true true true ?_ ?_ ?_) (k := ?_)
  · exact getA
  · exact getA
  · exact getA
  refine OpsJ.normA ?_
  repeat' (first
    | (refine is_ucall ?_; first
      | refine st_callP (h := late_spec _ _ _) (k := ?_)
      | refine st_callP (h := awake_spec _ _ _) (k := ?_)
      | refine st_callP (h := between_spec _ _ _ _ _) (k := ?_)
      | refine st_callP (h := ints_sameN _ _ _ vv _ [2, 2, 2] (hV.ext extA) (enc1_row rfl getA) hi3) (k := ?_)
      | fail)
    | (refine is_umcall ?_; first
      | refine mj_callP (h := late_spec _ _ _) (k := ?_)
      | refine mj_callP (h := awake_spec _ _ _) (k := ?_)
      | refine mj_callP (h := between_spec _ _ _ _ _) (k := ?_)
      | refine mj_callP (h := ints_sameN _ _ _ vv _ [2, 2, 2] (hV.ext extA) (enc1_row rfl getA) hi3) (k := ?_)
      | fail)
    | ((fail_if_success (first | refine is_ucall ?_ | refine is_umcall ?_)); first | refine W1 ?_ | refine Wc ?_ | refine W2c ?_ ?_ | refine Wg ?_ | refine W2 ?_ ?_ | exact Wdead | refine Wlive (fun hb => ?_) | intro _ _ _ _ _ _ _ _ | refine We ?_ | refine Wx ?_ | refine Wt ?_ | refine Wm ?_ | refine W2m ?_ ?_ | refine Wl ?_)
    | fail)
  refine st_callP (h := c1 E _ _ (H23.length + 3) (H23.length + 4) (H23.length + 5) true true true ?_ ?_ ?_) (k := ?_)
  · exact getA
  · exact getA
  · exact getA
  refine OpsJ.normA ?_
  repeat' (first
    | (refine is_ucall ?_; first
      | refine st_callP (h := late_spec _ _ _) (k := ?_)
      | refine st_callP (h := awake_spec _ _ _) (k := ?_)
      | refine st_callP (h := between_spec _ _ _ _ _) (k := ?_)
      | refine st_callP (h := ints_sameN _ _ _ vv _ [2, 2, 2] (hV.ext extA) (enc1_row rfl getA) hi3) (k := ?_)
      | fail)
    | (refine is_umcall ?_; first
      | refine mj_callP (h := late_spec _ _ _) (k := ?_)
      | refine mj_callP (h := awake_spec _ _ _) (k := ?_)
      | refine mj_callP (h := between_spec _ _ _ _ _) (k := ?_)
      | refine mj_callP (h := ints_sameN _ _ _ vv _ [2, 2, 2] (hV.ext extA) (enc1_row rfl getA) hi3) (k := ?_)
      | fail)
    | ((fail_if_success (first | refine is_ucall ?_ | refine is_umcall ?_)); first | refine W1 ?_ | refine Wc ?_ | refine W2c ?_ ?_ | refine Wg ?_ | refine W2 ?_ ?_ | exact Wdead | refine Wlive (fun hb => ?_) | intro _ _ _ _ _ _ _ _ | refine We ?_ | refine Wx ?_ | refine Wt ?_ | refine Wm ?_ | refine W2m ?_ ?_ | refine Wl ?_)
    | fail)
  refine st_callP (h := c2 E _ _ (H23.length + 6) (H23.length + 7) (H23.length + 8) true true true ?_ ?_ ?_) (k := ?_)
  · exact getA
  · exact getA
  · exact getA
  refine OpsJ.normA ?_
  repeat' (first
    | (refine is_ucall ?_; first
      | refine st_callP (h := late_spec _ _ _) (k := ?_)
      | refine st_callP (h := awake_spec _ _ _) (k := ?_)
      | refine st_callP (h := between_spec _ _ _ _ _) (k := ?_)
      | refine st_callP (h := ints_sameN _ _ _ vv _ [2, 2, 2] (hV.ext extA) (enc1_row rfl getA) hi3) (k := ?_)
      | fail)
    | (refine is_umcall ?_; first
      | refine mj_callP (h := late_spec _ _ _) (k := ?_)
      | refine mj_callP (h := awake_spec _ _ _) (k := ?_)
      | refine mj_callP (h := between_spec _ _ _ _ _) (k := ?_)
      | refine mj_callP (h := ints_sameN _ _ _ vv _ [2, 2, 2] (hV.ext extA) (enc1_row rfl getA) hi3) (k := ?_)
      | fail)
    | ((fail_if_success (first | refine is_ucall ?_ | refine is_umcall ?_)); first | refine W1 ?_ | refine Wc ?_ | refine W2c ?_ ?_ | refine Wg ?_ | refine W2 ?_ ?_ | exact Wdead | refine Wlive (fun hb => ?_) | intro _ _ _ _ _ _ _ _ | refine We ?_ | refine Wx ?_ | refine Wt ?_ | refine Wm ?_ | refine W2m ?_ ?_ | refine Wl ?_)
    | fail)
  refine st_callP (h := c3 E _ _ (H23.length + 9) (H23.length + 10) (H23.length + 11) true true true ?_ ?_ ?_) (k := ?_)
  · exact getA
  · exact getA
  · exact getA
  refine OpsJ.normA ?_
  repeat' (first
    | (refine is_ucall ?_; first
      | refine st_callP (h := late_spec _ _ _) (k := ?_)
      | refine st_callP (h := awake_spec _ _ _) (k := ?_)
      | refine st_callP (h := between_spec _ _ _ _ _) (k := ?_)
      | refine st_callP (h := ints_sameN _ _ _ vv _ [2, 2, 2] (hV.ext extA) (enc1_row rfl getA) hi3) (k := ?_)
      | fail)
    | (refine is_umcall ?_; first
      | refine mj_callP (h := late_spec _ _ _) (k := ?_)
      | refine mj_callP (h := awake_spec _ _ _) (k := ?_)
      | refine mj_callP (h := between_spec _ _ _ _ _) (k := ?_)
      | refine mj_callP (h := ints_sameN _ _ _ vv _ [2, 2, 2] (hV.ext extA) (enc1_row rfl getA) hi3) (k := ?_)
      | fail)
    | ((fail_if_success (first | refine is_ucall ?_ | refine is_umcall ?_)); first | refine W1 ?_ | refine Wc ?_ | refine W2c ?_ ?_ | refine Wg ?_ | refine W2 ?_ ?_ | exact Wdead | refine Wlive (fun hb => ?_) | intro _ _ _ _ _ _ _ _ | refine We ?_ | refine Wx ?_ | refine Wt ?_ | refine Wm ?_ | refine W2m ?_ ?_ | refine Wl ?_)
    | fail)
  refine st_callP (h := c4 E _ _ (H23.length + 12) (H23.length + 13) (H23.length + 14) true true true ?_ ?_ ?_) (k := ?_)
  · exact getA
  · exact getA
  · exact getA
  refine OpsJ.normA ?_
  repeat' (first
    | (refine is_ucall ?_; first
      | refine st_callP (h := late_spec _ _ _) (k := ?_)
      | refine st_callP (h := awake_spec _ _ _) (k := ?_)
      | refine st_callP (h := between_spec _ _ _ _ _) (k := ?_)
      | refine st_callP (h := ints_sameN _ _ _ vv _ [2, 2, 2] (hV.ext extA) (enc1_row rfl getA) hi3) (k := ?_)
      | fail)
    | (refine is_umcall ?_; first
      | refine mj_callP (h := late_spec _ _ _) (k := ?_)
      | refine mj_callP (h := awake_spec _ _ _) (k := ?_)
      | refine mj_callP (h := between_spec _ _ _ _ _) (k := ?_)
      | refine mj_callP (h := ints_sameN _ _ _ vv _ [2, 2, 2] (hV.ext extA) (enc1_row rfl getA) hi3) (k := ?_)
      | fail)
    | ((fail_if_success (first | refine is_ucall ?_ | refine is_umcall ?_)); first | refine W1 ?_ | refine Wc ?_ | refine W2c ?_ ?_ | refine Wg ?_ | refine W2 ?_ ?_ | exact Wdead | refine Wlive (fun hb => ?_) | intro _ _ _ _ _ _ _ _ | refine We ?_ | refine Wx ?_ | refine Wt ?_ | refine Wm ?_ | refine W2m ?_ ?_ | refine Wl ?_)
    | fail)
  refine st_callP (h := c5 E _ _ (H23.length + 15) (H23.length + 16) (H23.length + 17) true true true ?_ ?_ ?_) (k := ?_)
  · exact getA
  · exact getA
  · exact getA
  refine OpsJ.normA ?_
  repeat' (first
    | (refine is_ucall ?_; first
      | refine st_callP (h := late_spec _ _ _) (k := ?_)
      | refine st_callP (h := awake_spec _ _ _) (k := ?_)
      | refine st_callP (h := between_spec _ _ _ _ _) (k := ?_)
      | refine st_callP (h := ints_sameN _ _ _ vv _ [2, 2, 2] (hV.ext extA) (enc1_row rfl getA) hi3) (k := ?_)
      | fail)
    | (refine is_umcall ?_; first
      | refine mj_callP (h := late_spec _ _ _) (k := ?_)
      | refine mj_callP (h := awake_spec _ _ _) (k := ?_)
      | refine mj_callP (h := between_spec _ _ _ _ _) (k := ?_)
      | refine mj_callP (h := ints_sameN _ _ _ vv _ [2, 2, 2] (hV.ext extA) (enc1_row rfl getA) hi3) (k := ?_)
      | fail)
    | ((fail_if_success (first | refine is_ucall ?_ | refine is_umcall ?_)); first | refine W1 ?_ | refine Wc ?_ | refine W2c ?_ ?_ | refine Wg ?_ | refine W2 ?_ ?_ | exact Wdead | refine Wlive (fun hb => ?_) | intro _ _ _ _ _ _ _ _ | refine We ?_ | refine Wx ?_ | refine Wt ?_ | refine Wm ?_ | refine W2m ?_ ?_ | refine Wl ?_)
    | fail)
  refine st_callP (h := c6 E _ _ (H23.length + 18) (H23.length + 19) (H23.length + 20) true true true ?_ ?_ ?_) (k := ?_)
  · exact getA
  · exact getA
  · exact getA
  refine OpsJ.normA ?_
  repeat' (first
    | (refine is_ucall ?_; first
      | refine st_callP (h := late_spec _ _ _) (k := ?_)
      | refine st_callP (h := awake_spec _ _ _) (k := ?_)
      | refine st_callP (h := between_spec _ _ _ _ _) (k := ?_)
      | refine st_callP (h := ints_sameN _ _ _ vv _ [2, 2, 2] (hV.ext extA) (enc1_row rfl getA) hi3) (k := ?_)
      | fail)
    | (refine is_umcall ?_; first
      | refine mj_callP (h := late_spec _ _ _) (k := ?_)
      | refine mj_callP (h := awake_spec _ _ _) (k := ?_)
      | refine mj_callP (h := between_spec _ _ _ _ _) (k := ?_)
      | refine mj_callP (h := ints_sameN _ _ _ vv _ [2, 2, 2] (hV.ext extA) (enc1_row rfl getA) hi3) (k := ?_)
      | fail)
    | ((fail_if_success (first | refine is_ucall ?_ | refine is_umcall ?_)); first | refine W1 ?_ | refine Wc ?_ | refine W2c ?_ ?_ | refine Wg ?_ | refine W2 ?_ ?_ | exact Wdead | refine Wlive (fun hb => ?_) | intro _ _ _ _ _ _ _ _ | refine We ?_ | refine Wx ?_ | refine Wt ?_ | refine Wm ?_ | refine W2m ?_ ?_ | refine Wl ?_)
    | fail)
  refine st_callP (h := c7 E _ _ (H23.length + 22) (H23.length + 23) (H23.length + 24) true true true ?_ ?_ ?_) (k := ?_)
  · exact getA
  · exact getA
  · exact getA
  refine OpsJ.normA ?_
  repeat' (first
    | (refine is_ucall ?_; first
      | refine st_callP (h := late_spec _ _ _) (k := ?_)
      | refine st_callP (h := awake_spec _ _ _) (k := ?_)
      | refine st_callP (h := between_spec _ _ _ _ _) (k := ?_)
      | refine st_callP (h := ints_sameN _ _ _ vv _ [2, 2, 2] (hV.ext extA) (enc1_row rfl getA) hi3) (k := ?_)
      | fail)
    | (refine is_umcall ?_; first
      | refine mj_callP (h := late_spec _ _ _) (k := ?_)
      | refine mj_callP (h := awake_spec _ _ _) (k := ?_)
      | refine mj_callP (h := between_spec _ _ _ _ _) (k := ?_)
      | refine mj_callP (h := ints_sameN _ _ _ vv _ [2, 2, 2] (hV.ext extA) (enc1_row rfl getA) hi3) (k := ?_)
      | fail)
    | ((fail_if_success (first | refine is_ucall ?_ | refine is_umcall ?_)); first | refine W1 ?_ | refine Wc ?_ | refine W2c ?_ ?_ | refine Wg ?_ | refine W2 ?_ ?_ | exact Wdead | refine Wlive (fun hb => ?_) | intro _ _ _ _ _ _ _ _ | refine We ?_ | refine Wx ?_ | refine Wt ?_ | refine Wm ?_ | refine W2m ?_ ?_ | refine Wl ?_)
    | fail)
  refine st_callP (h := c8 E _ _ (H23.length + 25) (H23.length + 26) (H23.length + 41) true true true ?_ ?_ ?_) (k := ?_)
  · exact getA
  · exact getA
  · exact getA
  refine OpsJ.normA ?_
  repeat' (first
    | (refine is_ucall ?_; first
      | refine st_callP (h := late_spec _ _ _) (k := ?_)
      | refine st_callP (h := awake_spec _ _ _) (k := ?_)
      | refine st_callP (h := between_spec _ _ _ _ _) (k := ?_)
      | refine st_callP (h := ints_sameN _ _ _ vv _ [2, 2, 2] (hV.ext extA) (enc1_row rfl getA) hi3) (k := ?_)
      | fail)
    | (refine is_umcall ?_; first
      | refine mj_callP (h := late_spec _ _ _) (k := ?_)
      | refine mj_callP (h := awake_spec _ _ _) (k := ?_)
      | refine mj_callP (h := between_spec _ _ _ _ _) (k := ?_)
      | refine mj_callP (h := ints_sameN _ _ _ vv _ [2, 2, 2] (hV.ext extA) (enc1_row rfl getA) hi3) (k := ?_)
      | fail)
    | ((fail_if_success (first | refine is_ucall ?_ | refine is_umcall ?_)); first | refine W1 ?_ | refine Wc ?_ | refine W2c ?_ ?_ | refine Wg ?_ | refine W2 ?_ ?_ | exact Wdead | refine Wlive (fun hb => ?_) | intro _ _ _ _ _ _ _ _ | refine We ?_ | refine Wx ?_ | refine Wt ?_ | refine Wm ?_ | refine W2m ?_ ?_ | refine Wl ?_)
    | fail)
  refine st_callP (h := c9 E _ _ (H23.length + 28) (H23.length + 29) (H23.length + 30) true true true ?_ ?_ ?_) (k := ?_)
  · exact getA
  · exact getA
  · exact getA
  refine OpsJ.normA ?_
  repeat' (first
    | (refine is_ucall ?_; first
      | refine st_callP (h := late_spec _ _ _) (k := ?_)
      | refine st_callP (h := awake_spec _ _ _) (k := ?_)
      | refine st_callP (h := between_spec _ _ _ _ _) (k := ?_)
      | refine st_callP (h := ints_sameN _ _ _ vv _ [2, 2, 2] (hV.ext extA) (enc1_row rfl getA) hi3) (k := ?_)
      | fail)
    | (refine is_umcall ?_; first
      | refine mj_callP (h := late_spec _ _ _) (k := ?_)
      | refine mj_callP (h := awake_spec _ _ _) (k := ?_)
      | refine mj_callP (h := between_spec _ _ _ _ _) (k := ?_)
      | refine mj_callP (h := ints_sameN _ _ _ vv _ [2, 2, 2] (hV.ext extA) (enc1_row rfl getA) hi3) (k := ?_)
      | fail)
    | ((fail_if_success (first | refine is_ucall ?_ | refine is_umcall ?_)); first | refine W1 ?_ | refine Wc ?_ | refine W2c ?_ ?_ | refine Wg ?_ | refine W2 ?_ ?_ | exact Wdead | refine Wlive (fun hb => ?_) | intro _ _ _ _ _ _ _ _ | refine We ?_ | refine Wx ?_ | refine Wt ?_ | refine Wm ?_ | refine W2m ?_ ?_ | refine Wl ?_)
    | fail)
  refine st_callP (h := CheckP E _ _ ⟨1, 0, [], [], []⟩ _ _ _ 0 kN (hnilY _)) (k := ?_)
  refine OpsJ.normA ?_
  repeat' (first
    | (refine is_ucall ?_; first
      | refine st_callP (h := late_spec _ _ _) (k := ?_)
      | refine st_callP (h := awake_spec _ _ _) (k := ?_)
      | refine st_callP (h := between_spec _ _ _ _ _) (k := ?_)
      | refine st_callP (h := ints_sameN _ _ _ vv _ [2, 2, 2] (hV.ext extA) (enc1_row rfl getA) hi3) (k := ?_)
      | fail)
    | (refine is_umcall ?_; first
      | refine mj_callP (h := late_spec _ _ _) (k := ?_)
      | refine mj_callP (h := awake_spec _ _ _) (k := ?_)
      | refine mj_callP (h := between_spec _ _ _ _ _) (k := ?_)
      | refine mj_callP (h := ints_sameN _ _ _ vv _ [2, 2, 2] (hV.ext extA) (enc1_row rfl getA) hi3) (k := ?_)
      | fail)
    | ((fail_if_success (first | refine is_ucall ?_ | refine is_umcall ?_)); first | refine W1 ?_ | refine Wc ?_ | refine W2c ?_ ?_ | refine Wg ?_ | refine W2 ?_ ?_ | exact Wdead | refine Wlive (fun hb => ?_) | intro _ _ _ _ _ _ _ _ | refine We ?_ | refine Wx ?_ | refine Wt ?_ | refine Wm ?_ | refine W2m ?_ ?_ | refine Wl ?_)
    | fail)
  exact ⟨rfl, rfl, rfl⟩
end
end Go.Proofs.Ytehobnpoeodhkaa
