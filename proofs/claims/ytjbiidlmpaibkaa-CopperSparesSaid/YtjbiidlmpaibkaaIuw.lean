import Derived.Test.YtjbiidlmpaibkaaItw
namespace Go.Proofs.Ytjbiidlmpaibkaa
open Go Go.Abs Go.Proofs
set_option maxHeartbeats 8000000
set_option maxRecDepth 20000
attribute [local irreducible] CallJ OpsJ WPJ CallV MonoJ SpecJ
theorem for_of {m : CopM} (hG : Good m) {l : List Int} (h : forHours m l 20 = true) : l.length = hrs m ∧ ∀ x ∈ l, 0 ≤ x ∧ x ≤ 20 := by
  have hnl := (hrs_le hG.w).2
  simp only [forHours, inR, Bool.and_eq_true, List.all_eq_true, decide_eq_true_eq] at h
  exact ⟨by omega, fun x hx => by have := h.2 x hx; omega⟩
theorem addL_ne {n : Nat} {a b : List Int} (h : 0 < n) : (addL n a b).isEmpty = false := by
  rw [List.isEmpty_eq_false_iff]
  intro hc
  have := congrArg List.length hc
  simp only [addL, List.length_map, List.length_range, List.length_nil] at this
  omega
theorem rd_addL (H : AHeap) (m : CopM) (l : List Int) (_ : l.length = m.want.length) : RdS (H ++ [.row (encE (addL m.want.length m.want l)) 1 true]) (.slice (some ⟨H.length, 0, none⟩) m.want.length m.want.length) 1 (encI (addL m.want.length m.want l)) := by
  have := rd_encE (cap := m.want.length) (s := addL m.want.length m.want l) (H := H ++ [.row (encE (addL m.want.length m.want l)) 1 true]) (i := H.length) (own := true) (cs := encE (addL m.want.length m.want l)) (by simp) (List.take_of_length_le (by simp [encE]))
  rw [show (addL m.want.length m.want l).length = m.want.length by simp [addL]] at this
  exact this
section
variable {γ : Type} (E : Env γ) (g : γ) (H : AHeap)
theorem Sum1_spec (ws ms : Value) (wl ml : List Int) (hr1 : RdS H ws 1 (encI wl)) (hr2 : RdS H ms 1 (encI ml)) (hl : ml.length = wl.length) (hn : wl.length ≤ 1000) (hp : 0 < wl.length) (hb : ∀ x ∈ wl, 0 ≤ x ∧ x ≤ 20) (hc : ∀ x ∈ ml, 0 ≤ x ∧ x ≤ 20) :
    CallJ Try.prog E 45 [ws, ms] (fun v H' g' => v = .slice (some ⟨H.length, 0, none⟩) wl.length wl.length ∧ H' = H ++ [.row (encE (addL wl.length wl ml)) 1 true] ∧ g' = g) H g :=
  (Sum_spec E g H ws ms wl ml hr1 hr2 hl hn hb hc).mono (by
    rintro v H' g' ⟨rfl, rfl, rfl⟩
    have hle : (addL wl.length wl ml).length = wl.length := by simp [addL]
    refine ⟨?_, ?_, rfl⟩
    · unfold slV
      rw [addL_ne hp, hle]; rfl
    · unfold slH
      rw [addL_ne hp, enc1_flat]; rfl)
theorem wholes_more (m : CopM) (s1 s2 s3 s4 tv ws : Value) (l : List Int) (hm : CopY H m s1 s2 s3 s4) (hG : Good m) (ht : TrL H tv (truR m (manyS m).toNat)) (hlb : ∀ x ∈ l, 0 ≤ x ∧ x ≤ 20) (hrd : RdS H ws 1 (encI (addL m.want.length m.want l))) :
    CallJ Try.prog E 44 [cv m s1 s2 s3 s4, tv, s1, ws] (fun v H2 g2 => v = .int .i64 (moreV m l) ∧ H2 = H ∧ g2 = g) H g := by
  have hWm := hG.w.more hG.wn hlb
  have hM : (truR m (manyS m).toNat).length ≤ 3000 := by have := manyS_eq m; have := truR_len m (manyS m).toNat; omega
  unfold moreV
  rw [← truR_verdict hG (keptT (moreM m l))]
  rw [hG.w.wl] at hrd
  exact Wholes_spec E g H m s1 s2 s3 s4 tv s1 ws _ m.coal _ hm hWm ht (fun t ht => (truR_mem hG ht).2) hM hm.coal hrd
theorem spares_law (m : CopM) (s1 s2 s3 s4 lv : Value) (l : List Int) (a : Int) (hm : CopZ H m s1 s2 s3 s4) (hr : RdS H lv 1 (encI l)) (hl : l.length ≤ 9223372036854775807) (ha : -9223372036854775808 ≤ a ∧ a ≤ 9223372036854775807) : CallJ Try.prog E 6 [cv m s1 s2 s3 s4, lv, .int .i64 a] (fun v H' g' => v = .bool true ∧ H' = H ∧ g' = g) H g := by
  have hok := hm.cells
  have hlok : cellOk lv = true := by obtain ⟨a, b, c, rfl⟩ := RdS.shape hr; rfl
  refine CallJ.tidy ?_
  unfold cv
  refine CallJ.enter Try.func6 rfl (by simp only [Try.ntmps6, List.length_cons, List.length_nil, Nat.zero_add, Nat.reduceAdd, Nat.reduceSub, List.replicate_succ, List.replicate_zero, List.cons_append, List.nil_append]; rfl) ?_
  repeat' (first
    | (refine is_ucall ?_; first
      | refine st_callP (h := awake_spec _ _ _) (k := ?_)
      | refine st_callP (h := ThinZ_spec _ _ _ m s1 s2 s3 s4 (hm.ext extA)) (k := ?_)
      | fail)
    | (refine is_umcall ?_; first
      | refine mj_callP (h := awake_spec _ _ _) (k := ?_)
      | refine mj_callP (h := ThinZ_spec _ _ _ m s1 s2 s3 s4 (hm.ext extA)) (k := ?_)
      | fail)
    | ((fail_if_success (first | refine is_ucall ?_ | refine is_umcall ?_)); first | refine W1 ?_ | refine Wc ?_ | refine W2c ?_ ?_ | refine Wg ?_ | refine W2 ?_ ?_ | exact Wdead | refine Wlive (fun hb => ?_) | intro _ _ _ _ _ _ _ _ | refine We ?_ | refine Wx ?_ | refine Wt ?_ | refine Wm ?_ | refine W2m ?_ ?_ | refine Wl ?_)
    | fail)
  · exact ⟨rfl, rfl, rfl⟩
  rotate_left
  · exact ⟨rfl, rfl, rfl⟩
  have ht : thinS m = true := by assumption
  have hI := hm.is ht
  obtain ⟨k1, k2, k3, k4⟩ := thin_of ht
  have hn : l.length ≤ 1000000 := by omega
  refine st_call rfl (Copper_w E _ _ m s1 s2 s3 s4 ?_ (by omega) (by omega)) ?_
  · exact (hI.ext extA).y
  rintro _ H1 g1 ⟨⟨t1, t2, t3, t4, rfl, hm1, e1⟩, rfl⟩
  have hb1 : H1[H.length]? = some (.row (ccells m s1 s2 s3 s4) 1 true) := e1.get getA
  have x1 : Ext H H1 := Ext.trans extA e1
  clear e1
  refine OpsJ.normA ?_
  repeat' (first
    | (refine is_ucall ?_; first
      | refine st_callP (h := awake_spec _ _ _) (k := ?_)
      | refine st_callP (h := ThinZ_spec _ _ _ m s1 s2 s3 s4 (hm.ext extA)) (k := ?_)
      | fail)
    | (refine is_umcall ?_; first
      | refine mj_callP (h := awake_spec _ _ _) (k := ?_)
      | refine mj_callP (h := ThinZ_spec _ _ _ m s1 s2 s3 s4 (hm.ext extA)) (k := ?_)
      | fail)
    | ((fail_if_success (first | refine is_ucall ?_ | refine is_umcall ?_)); first | refine W1 ?_ | refine Wc ?_ | refine W2c ?_ ?_ | refine Wg ?_ | refine W2 ?_ ?_ | exact Wdead | refine Wlive (fun hb => ?_) | intro _ _ _ _ _ _ _ _ | refine We ?_ | refine Wx ?_ | refine Wt ?_ | refine Wm ?_ | refine W2m ?_ ?_ | refine Wl ?_)
    | fail)
  refine st_call rfl (list_spec E _ _ lv l (hr.ext x1) hn) ?_
  rintro _ _ g2 ⟨rfl, rfl, rfl⟩
  refine OpsJ.normA ?_
  repeat' (first
    | (refine is_ucall ?_; first
      | refine st_callP (h := awake_spec _ _ _) (k := ?_)
      | refine st_callP (h := ThinZ_spec _ _ _ m s1 s2 s3 s4 (hm.ext extA)) (k := ?_)
      | fail)
    | (refine is_umcall ?_; first
      | refine mj_callP (h := awake_spec _ _ _) (k := ?_)
      | refine mj_callP (h := ThinZ_spec _ _ _ m s1 s2 s3 s4 (hm.ext extA)) (k := ?_)
      | fail)
    | ((fail_if_success (first | refine is_ucall ?_ | refine is_umcall ?_)); first | refine W1 ?_ | refine Wc ?_ | refine W2c ?_ ?_ | refine Wg ?_ | refine W2 ?_ ?_ | exact Wdead | refine Wlive (fun hb => ?_) | intro _ _ _ _ _ _ _ _ | refine We ?_ | refine Wx ?_ | refine Wt ?_ | refine Wm ?_ | refine W2m ?_ ?_ | refine Wl ?_)
    | fail)
  have hM := More_spec E g2 (H1 ++ [.row (encE l) 1 true]) m t1 t2 t3 t4 (.slice (some ⟨H1.length, 0, none⟩) l.length l.length) l (hm1.ext ⟨_, rfl⟩) (rd_encE (own := true) List.getElem?_concat_length (List.take_of_length_le (by simp [encE]))) hn
  refine st_callP (h := hM) (k := ?_)
  clear hM hm1
  have hb2 : (H1 ++ [.row (encE l) 1 true])[H.length]? = some (.row (ccells m s1 s2 s3 s4) 1 true) := get_old hb1
  have x2 : Ext H (H1 ++ [.row (encE l) 1 true]) := x1.app _
  generalize H1 ++ [.row (encE l) 1 true] = H2 at *
  clear x1 hb1
  refine OpsJ.normA ?_
  repeat' (first
    | (refine is_ucall ?_; first
      | refine st_callP (h := awake_spec _ _ _) (k := ?_)
      | refine st_callP (h := ThinZ_spec _ _ _ m s1 s2 s3 s4 (hm.ext extA)) (k := ?_)
      | fail)
    | (refine is_umcall ?_; first
      | refine mj_callP (h := awake_spec _ _ _) (k := ?_)
      | refine mj_callP (h := ThinZ_spec _ _ _ m s1 s2 s3 s4 (hm.ext extA)) (k := ?_)
      | fail)
    | ((fail_if_success (first | refine is_ucall ?_ | refine is_umcall ?_)); first | refine W1 ?_ | refine Wc ?_ | refine W2c ?_ ?_ | refine Wg ?_ | refine W2 ?_ ?_ | exact Wdead | refine Wlive (fun hb => ?_) | intro _ _ _ _ _ _ _ _ | refine We ?_ | refine Wx ?_ | refine Wt ?_ | refine Wm ?_ | refine W2m ?_ ?_ | refine Wl ?_)
    | fail)
  refine st_call rfl (Copper_w E _ _ m s1 s2 s3 s4 ?_ (by omega) (by omega)) ?_
  · exact (hI.ext x2).y
  rintro _ H3 g3 ⟨⟨u1, u2, u3, u4, rfl, hm3, e3⟩, rfl⟩
  have hb3 := e3.get hb2
  have x3 : Ext H H3 := x2.trans e3
  clear e3 hb2 x2
  refine OpsJ.normA ?_
  repeat' (first
    | (refine is_ucall ?_; first
      | refine st_callP (h := awake_spec _ _ _) (k := ?_)
      | refine st_callP (h := ThinZ_spec _ _ _ m s1 s2 s3 s4 (hm.ext extA)) (k := ?_)
      | fail)
    | (refine is_umcall ?_; first
      | refine mj_callP (h := awake_spec _ _ _) (k := ?_)
      | refine mj_callP (h := ThinZ_spec _ _ _ m s1 s2 s3 s4 (hm.ext extA)) (k := ?_)
      | fail)
    | ((fail_if_success (first | refine is_ucall ?_ | refine is_umcall ?_)); first | refine W1 ?_ | refine Wc ?_ | refine W2c ?_ ?_ | refine Wg ?_ | refine W2 ?_ ?_ | exact Wdead | refine Wlive (fun hb => ?_) | intro _ _ _ _ _ _ _ _ | refine We ?_ | refine Wx ?_ | refine Wt ?_ | refine Wm ?_ | refine W2m ?_ ?_ | refine Wl ?_)
    | fail)
  refine st_callP (h := Spare_spec _ _ _ m u1 u2 u3 u4 a hm3) (k := ?_)
  clear hm3
  refine OpsJ.normA ?_
  repeat' (first
    | (refine is_ucall ?_; first
      | refine st_callP (h := awake_spec _ _ _) (k := ?_)
      | refine st_callP (h := ThinZ_spec _ _ _ m s1 s2 s3 s4 (hm.ext extA)) (k := ?_)
      | fail)
    | (refine is_umcall ?_; first
      | refine mj_callP (h := awake_spec _ _ _) (k := ?_)
      | refine mj_callP (h := ThinZ_spec _ _ _ m s1 s2 s3 s4 (hm.ext extA)) (k := ?_)
      | fail)
    | ((fail_if_success (first | refine is_ucall ?_ | refine is_umcall ?_)); first | refine W1 ?_ | refine Wc ?_ | refine W2c ?_ ?_ | refine Wg ?_ | refine W2 ?_ ?_ | exact Wdead | refine Wlive (fun hb => ?_) | intro _ _ _ _ _ _ _ _ | refine We ?_ | refine Wx ?_ | refine Wt ?_ | refine Wm ?_ | refine W2m ?_ ?_ | refine Wl ?_)
    | fail)
  refine st_call rfl (sure_spec E _ _ m s1 s2 s3 s4 (hI.ext x3).y) ?_
  rintro _ H4 g4 ⟨⟨⟨tv, rfl, hts⟩, e4⟩, rfl⟩
  have hb4 := e4.get hb3
  have x4 : Ext H H4 := x3.trans e4
  clear e4 hb3 x3
  by_cases hz : checkS m = 0
  case neg =>
    have e1 : moreE m l = checkS m := by unfold moreE; rw [if_neg hz]
    have e2 : spareE m a = checkS m := by unfold spareE; rw [if_neg hz]
    have e3 : checkT m = checkS m := by unfold checkT; rw [if_neg hz]
    have hF := fault_spec E g4 H4 m s1 s2 s3 s4 (hI.ext x4).y
    rw [e1, e2, e3]
    rw [if_neg hz]
    clear e1 e2 e3 hts
    generalize checkS m = c at *
    refine OpsJ.normA ?_
    repeat' (first
      | (refine is_ucall ?_; first
        | refine st_callP (h := awake_spec _ _ _) (k := ?_)
        | refine st_callP (h := ThinZ_spec _ _ _ m s1 s2 s3 s4 (hm.ext extA)) (k := ?_)
        | fail)
      | (refine is_umcall ?_; first
        | refine mj_callP (h := awake_spec _ _ _) (k := ?_)
        | refine mj_callP (h := ThinZ_spec _ _ _ m s1 s2 s3 s4 (hm.ext extA)) (k := ?_)
        | fail)
      | ((fail_if_success (first | refine is_ucall ?_ | refine is_umcall ?_)); first | refine W1 ?_ | refine Wc ?_ | refine W2c ?_ ?_ | refine Wg ?_ | refine W2 ?_ ?_ | exact Wdead | refine Wlive (fun hb => ?_) | intro _ _ _ _ _ _ _ _ | refine We ?_ | refine Wx ?_ | refine Wt ?_ | refine Wm ?_ | refine W2m ?_ ?_ | refine Wl ?_)
      | fail)
    refine st_callP (h := hF) (k := ?_)
    refine OpsJ.normA ?_
    repeat' (first
      | (refine is_ucall ?_; first
        | refine st_callP (h := awake_spec _ _ _) (k := ?_)
        | refine st_callP (h := ThinZ_spec _ _ _ m s1 s2 s3 s4 (hm.ext extA)) (k := ?_)
        | fail)
      | (refine is_umcall ?_; first
        | refine mj_callP (h := awake_spec _ _ _) (k := ?_)
        | refine mj_callP (h := ThinZ_spec _ _ _ m s1 s2 s3 s4 (hm.ext extA)) (k := ?_)
        | fail)
      | ((fail_if_success (first | refine is_ucall ?_ | refine is_umcall ?_)); first | refine W1 ?_ | refine Wc ?_ | refine W2c ?_ ?_ | refine Wg ?_ | refine W2 ?_ ?_ | exact Wdead | refine Wlive (fun hb => ?_) | intro _ _ _ _ _ _ _ _ | refine We ?_ | refine Wx ?_ | refine Wt ?_ | refine Wm ?_ | refine W2m ?_ ?_ | refine Wl ?_)
      | fail)
    refine st_callP (h := hF) (k := ?_)
    clear hF
    refine OpsJ.normA ?_
    repeat' (first
      | (refine is_ucall ?_; first
        | refine st_callP (h := awake_spec _ _ _) (k := ?_)
        | refine st_callP (h := ThinZ_spec _ _ _ m s1 s2 s3 s4 (hm.ext extA)) (k := ?_)
        | fail)
      | (refine is_umcall ?_; first
        | refine mj_callP (h := awake_spec _ _ _) (k := ?_)
        | refine mj_callP (h := ThinZ_spec _ _ _ m s1 s2 s3 s4 (hm.ext extA)) (k := ?_)
        | fail)
      | ((fail_if_success (first | refine is_ucall ?_ | refine is_umcall ?_)); first | refine W1 ?_ | refine Wc ?_ | refine W2c ?_ ?_ | refine Wg ?_ | refine W2 ?_ ?_ | exact Wdead | refine Wlive (fun hb => ?_) | intro _ _ _ _ _ _ _ _ | refine We ?_ | refine Wx ?_ | refine Wt ?_ | refine Wm ?_ | refine W2m ?_ ?_ | refine Wl ?_)
      | fail)
    refine WPJ.draw 28 mixed (by kernel_rfl) (by kernel_rfl) (by kernel_rfl) (by decide) ?_
    refine MonoJ.normA ?_
    repeat' (first
      | (refine is_ucall ?_; first
        | refine st_callP (h := awake_spec _ _ _) (k := ?_)
        | refine st_callP (h := ThinZ_spec _ _ _ m s1 s2 s3 s4 (hm.ext extA)) (k := ?_)
        | fail)
      | (refine is_umcall ?_; first
        | refine mj_callP (h := awake_spec _ _ _) (k := ?_)
        | refine mj_callP (h := ThinZ_spec _ _ _ m s1 s2 s3 s4 (hm.ext extA)) (k := ?_)
        | fail)
      | ((fail_if_success (first | refine is_ucall ?_ | refine is_umcall ?_)); first | refine W1 ?_ | refine Wc ?_ | refine W2c ?_ ?_ | refine Wg ?_ | refine W2 ?_ ?_ | exact Wdead | refine Wlive (fun hb => ?_) | intro _ _ _ _ _ _ _ _ | refine We ?_ | refine Wx ?_ | refine Wt ?_ | refine Wm ?_ | refine W2m ?_ ?_ | refine Wl ?_)
      | fail)
    all_goals first | exact ⟨rfl, rfl, rfl⟩ | exact absurd trivial (by assumption) | exact absurd rfl (by assumption) | trace_state
  case pos =>
    have hG := good_of hz
    have hF := fault_spec E g4 H4 m s1 s2 s3 s4 (hI.ext x4).y
    rw [hz] at hF
    have hl4 := hG.w.l4
    have hl0 := hG.w.l0
    have hE := Each_spec E g4 H4 m s1 s2 s3 s4 lv l 20 hok ⟨by omega, by omega⟩ (hr.ext x4) hn
    have hIn := In_spec E g4 H4 a 0 m.last
    have e3 : checkT m = if hasS m then 0 else 11 := by unfold checkT; rw [if_pos hz]
    have e1 : moreE m l = if forHours m l 20 then (if hasS m then 0 else 11) else 2 := by unfold moreE; rw [if_pos hz]
    have e2 : spareE m a = if inR 0 m.last a then (if hasS m then (if allKept m then 0 else 10) else 11) else 2 := by unfold spareE; rw [if_pos hz]
    obtain ⟨vv, hvv⟩ : ∃ x, x = (if moreE m l = 0 then moreV m l else 0) := ⟨_, rfl⟩
    obtain ⟨ev, hev⟩ : ∃ x, x = moreE m l := ⟨_, rfl⟩
    obtain ⟨nn, hnn⟩ : ∃ x, x = (if spareE m a = 0 then spareS m a.toNat 20 else 0) := ⟨_, rfl⟩
    obtain ⟨fv, hfv⟩ : ∃ x, x = spareE m a := ⟨_, rfl⟩
    obtain ⟨w, hw⟩ : ∃ x, x = checkT m := ⟨_, rfl⟩
    rw [← hvv, ← hnn, ← hev, ← hfv, ← hw]
    rw [← hw] at hts
    rw [e1] at hvv hev
    rw [e2] at hnn hfv
    rw [e3] at hw
    clear e1 e2 e3
    cases hs : hasS m with
    | false =>
      rw [hs] at hvv hev hnn hfv hw
      obtain rfl : w = 11 := hw
      try clear hw
      cases hf : forHours m l 20 with
      | false =>
        rw [hf] at hE hvv hev
        obtain rfl : ev = 2 := hev
        obtain rfl : vv = 0 := hvv
        try clear hvv hev
        cases hi : inR 0 m.last a with
        | false =>
          rw [hi] at hIn hnn hfv
          obtain rfl : fv = 2 := hfv
          obtain rfl : nn = 0 := hnn
          try clear hnn hfv
          refine OpsJ.normA ?_
          repeat' (first
            | (refine is_ucall ?_; first
              | refine st_callP (h := awake_spec _ _ _) (k := ?_)
              | refine st_callP (h := ThinZ_spec _ _ _ m s1 s2 s3 s4 (hm.ext extA)) (k := ?_)
              | fail)
            | (refine is_umcall ?_; first
              | refine mj_callP (h := awake_spec _ _ _) (k := ?_)
              | refine mj_callP (h := ThinZ_spec _ _ _ m s1 s2 s3 s4 (hm.ext extA)) (k := ?_)
              | fail)
            | ((fail_if_success (first | refine is_ucall ?_ | refine is_umcall ?_)); first | refine W1 ?_ | refine Wc ?_ | refine W2c ?_ ?_ | refine Wg ?_ | refine W2 ?_ ?_ | exact Wdead | refine Wlive (fun hb => ?_) | intro _ _ _ _ _ _ _ _ | refine We ?_ | refine Wx ?_ | refine Wt ?_ | refine Wm ?_ | refine W2m ?_ ?_ | refine Wl ?_)
            | fail)
          refine st_callP (h := hF) (k := ?_)
          refine OpsJ.normA ?_
          repeat' (first
            | (refine is_ucall ?_; first
              | refine st_callP (h := awake_spec _ _ _) (k := ?_)
              | refine st_callP (h := ThinZ_spec _ _ _ m s1 s2 s3 s4 (hm.ext extA)) (k := ?_)
              | fail)
            | (refine is_umcall ?_; first
              | refine mj_callP (h := awake_spec _ _ _) (k := ?_)
              | refine mj_callP (h := ThinZ_spec _ _ _ m s1 s2 s3 s4 (hm.ext extA)) (k := ?_)
              | fail)
            | ((fail_if_success (first | refine is_ucall ?_ | refine is_umcall ?_)); first | refine W1 ?_ | refine Wc ?_ | refine W2c ?_ ?_ | refine Wg ?_ | refine W2 ?_ ?_ | exact Wdead | refine Wlive (fun hb => ?_) | intro _ _ _ _ _ _ _ _ | refine We ?_ | refine Wx ?_ | refine Wt ?_ | refine Wm ?_ | refine W2m ?_ ?_ | refine Wl ?_)
            | fail)
          refine st_callP (h := hE) (k := ?_)
          refine OpsJ.normA ?_
          repeat' (first
            | (refine is_ucall ?_; first
              | refine st_callP (h := awake_spec _ _ _) (k := ?_)
              | refine st_callP (h := ThinZ_spec _ _ _ m s1 s2 s3 s4 (hm.ext extA)) (k := ?_)
              | fail)
            | (refine is_umcall ?_; first
              | refine mj_callP (h := awake_spec _ _ _) (k := ?_)
              | refine mj_callP (h := ThinZ_spec _ _ _ m s1 s2 s3 s4 (hm.ext extA)) (k := ?_)
              | fail)
            | ((fail_if_success (first | refine is_ucall ?_ | refine is_umcall ?_)); first | refine W1 ?_ | refine Wc ?_ | refine W2c ?_ ?_ | refine Wg ?_ | refine W2 ?_ ?_ | exact Wdead | refine Wlive (fun hb => ?_) | intro _ _ _ _ _ _ _ _ | refine We ?_ | refine Wx ?_ | refine Wt ?_ | refine Wm ?_ | refine W2m ?_ ?_ | refine Wl ?_)
            | fail)
          refine st_callP (h := hF) (k := ?_)
          refine OpsJ.normA ?_
          repeat' (first
            | (refine is_ucall ?_; first
              | refine st_callP (h := awake_spec _ _ _) (k := ?_)
              | refine st_callP (h := ThinZ_spec _ _ _ m s1 s2 s3 s4 (hm.ext extA)) (k := ?_)
              | fail)
            | (refine is_umcall ?_; first
              | refine mj_callP (h := awake_spec _ _ _) (k := ?_)
              | refine mj_callP (h := ThinZ_spec _ _ _ m s1 s2 s3 s4 (hm.ext extA)) (k := ?_)
              | fail)
            | ((fail_if_success (first | refine is_ucall ?_ | refine is_umcall ?_)); first | refine W1 ?_ | refine Wc ?_ | refine W2c ?_ ?_ | refine Wg ?_ | refine W2 ?_ ?_ | exact Wdead | refine Wlive (fun hb => ?_) | intro _ _ _ _ _ _ _ _ | refine We ?_ | refine Wx ?_ | refine Wt ?_ | refine Wm ?_ | refine W2m ?_ ?_ | refine Wl ?_)
            | fail)
          refine st_callP (h := hIn) (k := ?_)
          clear hF hE hIn
          refine OpsJ.normA ?_
          repeat' (first
            | (refine is_ucall ?_; first
              | refine st_callP (h := awake_spec _ _ _) (k := ?_)
              | refine st_callP (h := ThinZ_spec _ _ _ m s1 s2 s3 s4 (hm.ext extA)) (k := ?_)
              | fail)
            | (refine is_umcall ?_; first
              | refine mj_callP (h := awake_spec _ _ _) (k := ?_)
              | refine mj_callP (h := ThinZ_spec _ _ _ m s1 s2 s3 s4 (hm.ext extA)) (k := ?_)
              | fail)
            | ((fail_if_success (first | refine is_ucall ?_ | refine is_umcall ?_)); first | refine W1 ?_ | refine Wc ?_ | refine W2c ?_ ?_ | refine Wg ?_ | refine W2 ?_ ?_ | exact Wdead | refine Wlive (fun hb => ?_) | intro _ _ _ _ _ _ _ _ | refine We ?_ | refine Wx ?_ | refine Wt ?_ | refine Wm ?_ | refine W2m ?_ ?_ | refine Wl ?_)
            | fail)
          refine WPJ.draw 28 mixed (by kernel_rfl) (by kernel_rfl) (by kernel_rfl) (by decide) ?_
          refine MonoJ.normA ?_
          repeat' (first
            | (refine is_ucall ?_; first
              | refine st_callP (h := awake_spec _ _ _) (k := ?_)
              | refine st_callP (h := ThinZ_spec _ _ _ m s1 s2 s3 s4 (hm.ext extA)) (k := ?_)
              | fail)
            | (refine is_umcall ?_; first
              | refine mj_callP (h := awake_spec _ _ _) (k := ?_)
              | refine mj_callP (h := ThinZ_spec _ _ _ m s1 s2 s3 s4 (hm.ext extA)) (k := ?_)
              | fail)
            | ((fail_if_success (first | refine is_ucall ?_ | refine is_umcall ?_)); first | refine W1 ?_ | refine Wc ?_ | refine W2c ?_ ?_ | refine Wg ?_ | refine W2 ?_ ?_ | exact Wdead | refine Wlive (fun hb => ?_) | intro _ _ _ _ _ _ _ _ | refine We ?_ | refine Wx ?_ | refine Wt ?_ | refine Wm ?_ | refine W2m ?_ ?_ | refine Wl ?_)
            | fail)
          all_goals first | exact ⟨rfl, rfl, rfl⟩ | exact absurd trivial (by assumption) | exact absurd rfl (by assumption) | trace_state
        | true =>
          rw [hi] at hIn hnn hfv
          obtain rfl : fv = 11 := hfv
          obtain rfl : nn = 0 := hnn
          try clear hnn hfv
          refine OpsJ.normA ?_
          repeat' (first
            | (refine is_ucall ?_; first
              | refine st_callP (h := awake_spec _ _ _) (k := ?_)
              | refine st_callP (h := ThinZ_spec _ _ _ m s1 s2 s3 s4 (hm.ext extA)) (k := ?_)
              | fail)
            | (refine is_umcall ?_; first
              | refine mj_callP (h := awake_spec _ _ _) (k := ?_)
              | refine mj_callP (h := ThinZ_spec _ _ _ m s1 s2 s3 s4 (hm.ext extA)) (k := ?_)
              | fail)
            | ((fail_if_success (first | refine is_ucall ?_ | refine is_umcall ?_)); first | refine W1 ?_ | refine Wc ?_ | refine W2c ?_ ?_ | refine Wg ?_ | refine W2 ?_ ?_ | exact Wdead | refine Wlive (fun hb => ?_) | intro _ _ _ _ _ _ _ _ | refine We ?_ | refine Wx ?_ | refine Wt ?_ | refine Wm ?_ | refine W2m ?_ ?_ | refine Wl ?_)
            | fail)
          refine st_callP (h := hF) (k := ?_)
          refine OpsJ.normA ?_
          repeat' (first
            | (refine is_ucall ?_; first
              | refine st_callP (h := awake_spec _ _ _) (k := ?_)
              | refine st_callP (h := ThinZ_spec _ _ _ m s1 s2 s3 s4 (hm.ext extA)) (k := ?_)
              | fail)
            | (refine is_umcall ?_; first
              | refine mj_callP (h := awake_spec _ _ _) (k := ?_)
              | refine mj_callP (h := ThinZ_spec _ _ _ m s1 s2 s3 s4 (hm.ext extA)) (k := ?_)
              | fail)
            | ((fail_if_success (first | refine is_ucall ?_ | refine is_umcall ?_)); first | refine W1 ?_ | refine Wc ?_ | refine W2c ?_ ?_ | refine Wg ?_ | refine W2 ?_ ?_ | exact Wdead | refine Wlive (fun hb => ?_) | intro _ _ _ _ _ _ _ _ | refine We ?_ | refine Wx ?_ | refine Wt ?_ | refine Wm ?_ | refine W2m ?_ ?_ | refine Wl ?_)
            | fail)
          refine st_callP (h := hE) (k := ?_)
          refine OpsJ.normA ?_
          repeat' (first
            | (refine is_ucall ?_; first
              | refine st_callP (h := awake_spec _ _ _) (k := ?_)
              | refine st_callP (h := ThinZ_spec _ _ _ m s1 s2 s3 s4 (hm.ext extA)) (k := ?_)
              | fail)
            | (refine is_umcall ?_; first
              | refine mj_callP (h := awake_spec _ _ _) (k := ?_)
              | refine mj_callP (h := ThinZ_spec _ _ _ m s1 s2 s3 s4 (hm.ext extA)) (k := ?_)
              | fail)
            | ((fail_if_success (first | refine is_ucall ?_ | refine is_umcall ?_)); first | refine W1 ?_ | refine Wc ?_ | refine W2c ?_ ?_ | refine Wg ?_ | refine W2 ?_ ?_ | exact Wdead | refine Wlive (fun hb => ?_) | intro _ _ _ _ _ _ _ _ | refine We ?_ | refine Wx ?_ | refine Wt ?_ | refine Wm ?_ | refine W2m ?_ ?_ | refine Wl ?_)
            | fail)
          refine st_callP (h := hF) (k := ?_)
          refine OpsJ.normA ?_
          repeat' (first
            | (refine is_ucall ?_; first
              | refine st_callP (h := awake_spec _ _ _) (k := ?_)
              | refine st_callP (h := ThinZ_spec _ _ _ m s1 s2 s3 s4 (hm.ext extA)) (k := ?_)
              | fail)
            | (refine is_umcall ?_; first
              | refine mj_callP (h := awake_spec _ _ _) (k := ?_)
              | refine mj_callP (h := ThinZ_spec _ _ _ m s1 s2 s3 s4 (hm.ext extA)) (k := ?_)
              | fail)
            | ((fail_if_success (first | refine is_ucall ?_ | refine is_umcall ?_)); first | refine W1 ?_ | refine Wc ?_ | refine W2c ?_ ?_ | refine Wg ?_ | refine W2 ?_ ?_ | exact Wdead | refine Wlive (fun hb => ?_) | intro _ _ _ _ _ _ _ _ | refine We ?_ | refine Wx ?_ | refine Wt ?_ | refine Wm ?_ | refine W2m ?_ ?_ | refine Wl ?_)
            | fail)
          refine st_callP (h := hIn) (k := ?_)
          clear hF hE hIn
          refine OpsJ.normA ?_
          repeat' (first
            | (refine is_ucall ?_; first
              | refine st_callP (h := awake_spec _ _ _) (k := ?_)
              | refine st_callP (h := ThinZ_spec _ _ _ m s1 s2 s3 s4 (hm.ext extA)) (k := ?_)
              | fail)
            | (refine is_umcall ?_; first
              | refine mj_callP (h := awake_spec _ _ _) (k := ?_)
              | refine mj_callP (h := ThinZ_spec _ _ _ m s1 s2 s3 s4 (hm.ext extA)) (k := ?_)
              | fail)
            | ((fail_if_success (first | refine is_ucall ?_ | refine is_umcall ?_)); first | refine W1 ?_ | refine Wc ?_ | refine W2c ?_ ?_ | refine Wg ?_ | refine W2 ?_ ?_ | exact Wdead | refine Wlive (fun hb => ?_) | intro _ _ _ _ _ _ _ _ | refine We ?_ | refine Wx ?_ | refine Wt ?_ | refine Wm ?_ | refine W2m ?_ ?_ | refine Wl ?_)
            | fail)
          refine WPJ.draw 28 mixed (by kernel_rfl) (by kernel_rfl) (by kernel_rfl) (by decide) ?_
          refine MonoJ.normA ?_
          repeat' (first
            | (refine is_ucall ?_; first
              | refine st_callP (h := awake_spec _ _ _) (k := ?_)
              | refine st_callP (h := ThinZ_spec _ _ _ m s1 s2 s3 s4 (hm.ext extA)) (k := ?_)
              | fail)
            | (refine is_umcall ?_; first
              | refine mj_callP (h := awake_spec _ _ _) (k := ?_)
              | refine mj_callP (h := ThinZ_spec _ _ _ m s1 s2 s3 s4 (hm.ext extA)) (k := ?_)
              | fail)
            | ((fail_if_success (first | refine is_ucall ?_ | refine is_umcall ?_)); first | refine W1 ?_ | refine Wc ?_ | refine W2c ?_ ?_ | refine Wg ?_ | refine W2 ?_ ?_ | exact Wdead | refine Wlive (fun hb => ?_) | intro _ _ _ _ _ _ _ _ | refine We ?_ | refine Wx ?_ | refine Wt ?_ | refine Wm ?_ | refine W2m ?_ ?_ | refine Wl ?_)
            | fail)
          all_goals first | exact ⟨rfl, rfl, rfl⟩ | exact absurd trivial (by assumption) | exact absurd rfl (by assumption) | trace_state
      | true =>
        rw [hf] at hE hvv hev
        obtain rfl : ev = 11 := hev
        obtain rfl : vv = 0 := hvv
        try clear hvv hev
        cases hi : inR 0 m.last a with
        | false =>
          rw [hi] at hIn hnn hfv
          obtain rfl : fv = 2 := hfv
          obtain rfl : nn = 0 := hnn
          try clear hnn hfv
          refine OpsJ.normA ?_
          repeat' (first
            | (refine is_ucall ?_; first
              | refine st_callP (h := awake_spec _ _ _) (k := ?_)
              | refine st_callP (h := ThinZ_spec _ _ _ m s1 s2 s3 s4 (hm.ext extA)) (k := ?_)
              | fail)
            | (refine is_umcall ?_; first
              | refine mj_callP (h := awake_spec _ _ _) (k := ?_)
              | refine mj_callP (h := ThinZ_spec _ _ _ m s1 s2 s3 s4 (hm.ext extA)) (k := ?_)
              | fail)
            | ((fail_if_success (first | refine is_ucall ?_ | refine is_umcall ?_)); first | refine W1 ?_ | refine Wc ?_ | refine W2c ?_ ?_ | refine Wg ?_ | refine W2 ?_ ?_ | exact Wdead | refine Wlive (fun hb => ?_) | intro _ _ _ _ _ _ _ _ | refine We ?_ | refine Wx ?_ | refine Wt ?_ | refine Wm ?_ | refine W2m ?_ ?_ | refine Wl ?_)
            | fail)
          refine st_callP (h := hF) (k := ?_)
          refine OpsJ.normA ?_
          repeat' (first
            | (refine is_ucall ?_; first
              | refine st_callP (h := awake_spec _ _ _) (k := ?_)
              | refine st_callP (h := ThinZ_spec _ _ _ m s1 s2 s3 s4 (hm.ext extA)) (k := ?_)
              | fail)
            | (refine is_umcall ?_; first
              | refine mj_callP (h := awake_spec _ _ _) (k := ?_)
              | refine mj_callP (h := ThinZ_spec _ _ _ m s1 s2 s3 s4 (hm.ext extA)) (k := ?_)
              | fail)
            | ((fail_if_success (first | refine is_ucall ?_ | refine is_umcall ?_)); first | refine W1 ?_ | refine Wc ?_ | refine W2c ?_ ?_ | refine Wg ?_ | refine W2 ?_ ?_ | exact Wdead | refine Wlive (fun hb => ?_) | intro _ _ _ _ _ _ _ _ | refine We ?_ | refine Wx ?_ | refine Wt ?_ | refine Wm ?_ | refine W2m ?_ ?_ | refine Wl ?_)
            | fail)
          refine st_callP (h := hE) (k := ?_)
          refine OpsJ.normA ?_
          repeat' (first
            | (refine is_ucall ?_; first
              | refine st_callP (h := awake_spec _ _ _) (k := ?_)
              | refine st_callP (h := ThinZ_spec _ _ _ m s1 s2 s3 s4 (hm.ext extA)) (k := ?_)
              | fail)
            | (refine is_umcall ?_; first
              | refine mj_callP (h := awake_spec _ _ _) (k := ?_)
              | refine mj_callP (h := ThinZ_spec _ _ _ m s1 s2 s3 s4 (hm.ext extA)) (k := ?_)
              | fail)
            | ((fail_if_success (first | refine is_ucall ?_ | refine is_umcall ?_)); first | refine W1 ?_ | refine Wc ?_ | refine W2c ?_ ?_ | refine Wg ?_ | refine W2 ?_ ?_ | exact Wdead | refine Wlive (fun hb => ?_) | intro _ _ _ _ _ _ _ _ | refine We ?_ | refine Wx ?_ | refine Wt ?_ | refine Wm ?_ | refine W2m ?_ ?_ | refine Wl ?_)
            | fail)
          refine st_callP (h := hF) (k := ?_)
          refine OpsJ.normA ?_
          repeat' (first
            | (refine is_ucall ?_; first
              | refine st_callP (h := awake_spec _ _ _) (k := ?_)
              | refine st_callP (h := ThinZ_spec _ _ _ m s1 s2 s3 s4 (hm.ext extA)) (k := ?_)
              | fail)
            | (refine is_umcall ?_; first
              | refine mj_callP (h := awake_spec _ _ _) (k := ?_)
              | refine mj_callP (h := ThinZ_spec _ _ _ m s1 s2 s3 s4 (hm.ext extA)) (k := ?_)
              | fail)
            | ((fail_if_success (first | refine is_ucall ?_ | refine is_umcall ?_)); first | refine W1 ?_ | refine Wc ?_ | refine W2c ?_ ?_ | refine Wg ?_ | refine W2 ?_ ?_ | exact Wdead | refine Wlive (fun hb => ?_) | intro _ _ _ _ _ _ _ _ | refine We ?_ | refine Wx ?_ | refine Wt ?_ | refine Wm ?_ | refine W2m ?_ ?_ | refine Wl ?_)
            | fail)
          refine st_callP (h := hIn) (k := ?_)
          clear hF hE hIn
          refine OpsJ.normA ?_
          repeat' (first
            | (refine is_ucall ?_; first
              | refine st_callP (h := awake_spec _ _ _) (k := ?_)
              | refine st_callP (h := ThinZ_spec _ _ _ m s1 s2 s3 s4 (hm.ext extA)) (k := ?_)
              | fail)
            | (refine is_umcall ?_; first
              | refine mj_callP (h := awake_spec _ _ _) (k := ?_)
              | refine mj_callP (h := ThinZ_spec _ _ _ m s1 s2 s3 s4 (hm.ext extA)) (k := ?_)
              | fail)
            | ((fail_if_success (first | refine is_ucall ?_ | refine is_umcall ?_)); first | refine W1 ?_ | refine Wc ?_ | refine W2c ?_ ?_ | refine Wg ?_ | refine W2 ?_ ?_ | exact Wdead | refine Wlive (fun hb => ?_) | intro _ _ _ _ _ _ _ _ | refine We ?_ | refine Wx ?_ | refine Wt ?_ | refine Wm ?_ | refine W2m ?_ ?_ | refine Wl ?_)
            | fail)
          refine WPJ.draw 28 mixed (by kernel_rfl) (by kernel_rfl) (by kernel_rfl) (by decide) ?_
          refine MonoJ.normA ?_
          repeat' (first
            | (refine is_ucall ?_; first
              | refine st_callP (h := awake_spec _ _ _) (k := ?_)
              | refine st_callP (h := ThinZ_spec _ _ _ m s1 s2 s3 s4 (hm.ext extA)) (k := ?_)
              | fail)
            | (refine is_umcall ?_; first
              | refine mj_callP (h := awake_spec _ _ _) (k := ?_)
              | refine mj_callP (h := ThinZ_spec _ _ _ m s1 s2 s3 s4 (hm.ext extA)) (k := ?_)
              | fail)
            | ((fail_if_success (first | refine is_ucall ?_ | refine is_umcall ?_)); first | refine W1 ?_ | refine Wc ?_ | refine W2c ?_ ?_ | refine Wg ?_ | refine W2 ?_ ?_ | exact Wdead | refine Wlive (fun hb => ?_) | intro _ _ _ _ _ _ _ _ | refine We ?_ | refine Wx ?_ | refine Wt ?_ | refine Wm ?_ | refine W2m ?_ ?_ | refine Wl ?_)
            | fail)
          all_goals first | exact ⟨rfl, rfl, rfl⟩ | exact absurd trivial (by assumption) | exact absurd rfl (by assumption) | trace_state
        | true =>
          rw [hi] at hIn hnn hfv
          obtain rfl : fv = 11 := hfv
          obtain rfl : nn = 0 := hnn
          try clear hnn hfv
          refine OpsJ.normA ?_
          repeat' (first
            | (refine is_ucall ?_; first
              | refine st_callP (h := awake_spec _ _ _) (k := ?_)
              | refine st_callP (h := ThinZ_spec _ _ _ m s1 s2 s3 s4 (hm.ext extA)) (k := ?_)
              | fail)
            | (refine is_umcall ?_; first
              | refine mj_callP (h := awake_spec _ _ _) (k := ?_)
              | refine mj_callP (h := ThinZ_spec _ _ _ m s1 s2 s3 s4 (hm.ext extA)) (k := ?_)
              | fail)
            | ((fail_if_success (first | refine is_ucall ?_ | refine is_umcall ?_)); first | refine W1 ?_ | refine Wc ?_ | refine W2c ?_ ?_ | refine Wg ?_ | refine W2 ?_ ?_ | exact Wdead | refine Wlive (fun hb => ?_) | intro _ _ _ _ _ _ _ _ | refine We ?_ | refine Wx ?_ | refine Wt ?_ | refine Wm ?_ | refine W2m ?_ ?_ | refine Wl ?_)
            | fail)
          refine st_callP (h := hF) (k := ?_)
          refine OpsJ.normA ?_
          repeat' (first
            | (refine is_ucall ?_; first
              | refine st_callP (h := awake_spec _ _ _) (k := ?_)
              | refine st_callP (h := ThinZ_spec _ _ _ m s1 s2 s3 s4 (hm.ext extA)) (k := ?_)
              | fail)
            | (refine is_umcall ?_; first
              | refine mj_callP (h := awake_spec _ _ _) (k := ?_)
              | refine mj_callP (h := ThinZ_spec _ _ _ m s1 s2 s3 s4 (hm.ext extA)) (k := ?_)
              | fail)
            | ((fail_if_success (first | refine is_ucall ?_ | refine is_umcall ?_)); first | refine W1 ?_ | refine Wc ?_ | refine W2c ?_ ?_ | refine Wg ?_ | refine W2 ?_ ?_ | exact Wdead | refine Wlive (fun hb => ?_) | intro _ _ _ _ _ _ _ _ | refine We ?_ | refine Wx ?_ | refine Wt ?_ | refine Wm ?_ | refine W2m ?_ ?_ | refine Wl ?_)
            | fail)
          refine st_callP (h := hE) (k := ?_)
          refine OpsJ.normA ?_
          repeat' (first
            | (refine is_ucall ?_; first
              | refine st_callP (h := awake_spec _ _ _) (k := ?_)
              | refine st_callP (h := ThinZ_spec _ _ _ m s1 s2 s3 s4 (hm.ext extA)) (k := ?_)
              | fail)
            | (refine is_umcall ?_; first
              | refine mj_callP (h := awake_spec _ _ _) (k := ?_)
              | refine mj_callP (h := ThinZ_spec _ _ _ m s1 s2 s3 s4 (hm.ext extA)) (k := ?_)
              | fail)
            | ((fail_if_success (first | refine is_ucall ?_ | refine is_umcall ?_)); first | refine W1 ?_ | refine Wc ?_ | refine W2c ?_ ?_ | refine Wg ?_ | refine W2 ?_ ?_ | exact Wdead | refine Wlive (fun hb => ?_) | intro _ _ _ _ _ _ _ _ | refine We ?_ | refine Wx ?_ | refine Wt ?_ | refine Wm ?_ | refine W2m ?_ ?_ | refine Wl ?_)
            | fail)
          refine st_callP (h := hF) (k := ?_)
          refine OpsJ.normA ?_
          repeat' (first
            | (refine is_ucall ?_; first
              | refine st_callP (h := awake_spec _ _ _) (k := ?_)
              | refine st_callP (h := ThinZ_spec _ _ _ m s1 s2 s3 s4 (hm.ext extA)) (k := ?_)
              | fail)
            | (refine is_umcall ?_; first
              | refine mj_callP (h := awake_spec _ _ _) (k := ?_)
              | refine mj_callP (h := ThinZ_spec _ _ _ m s1 s2 s3 s4 (hm.ext extA)) (k := ?_)
              | fail)
            | ((fail_if_success (first | refine is_ucall ?_ | refine is_umcall ?_)); first | refine W1 ?_ | refine Wc ?_ | refine W2c ?_ ?_ | refine Wg ?_ | refine W2 ?_ ?_ | exact Wdead | refine Wlive (fun hb => ?_) | intro _ _ _ _ _ _ _ _ | refine We ?_ | refine Wx ?_ | refine Wt ?_ | refine Wm ?_ | refine W2m ?_ ?_ | refine Wl ?_)
            | fail)
          refine st_callP (h := hIn) (k := ?_)
          clear hF hE hIn
          refine OpsJ.normA ?_
          repeat' (first
            | (refine is_ucall ?_; first
              | refine st_callP (h := awake_spec _ _ _) (k := ?_)
              | refine st_callP (h := ThinZ_spec _ _ _ m s1 s2 s3 s4 (hm.ext extA)) (k := ?_)
              | fail)
            | (refine is_umcall ?_; first
              | refine mj_callP (h := awake_spec _ _ _) (k := ?_)
              | refine mj_callP (h := ThinZ_spec _ _ _ m s1 s2 s3 s4 (hm.ext extA)) (k := ?_)
              | fail)
            | ((fail_if_success (first | refine is_ucall ?_ | refine is_umcall ?_)); first | refine W1 ?_ | refine Wc ?_ | refine W2c ?_ ?_ | refine Wg ?_ | refine W2 ?_ ?_ | exact Wdead | refine Wlive (fun hb => ?_) | intro _ _ _ _ _ _ _ _ | refine We ?_ | refine Wx ?_ | refine Wt ?_ | refine Wm ?_ | refine W2m ?_ ?_ | refine Wl ?_)
            | fail)
          refine WPJ.draw 28 mixed (by kernel_rfl) (by kernel_rfl) (by kernel_rfl) (by decide) ?_
          refine MonoJ.normA ?_
          repeat' (first
            | (refine is_ucall ?_; first
              | refine st_callP (h := awake_spec _ _ _) (k := ?_)
              | refine st_callP (h := ThinZ_spec _ _ _ m s1 s2 s3 s4 (hm.ext extA)) (k := ?_)
              | fail)
            | (refine is_umcall ?_; first
              | refine mj_callP (h := awake_spec _ _ _) (k := ?_)
              | refine mj_callP (h := ThinZ_spec _ _ _ m s1 s2 s3 s4 (hm.ext extA)) (k := ?_)
              | fail)
            | ((fail_if_success (first | refine is_ucall ?_ | refine is_umcall ?_)); first | refine W1 ?_ | refine Wc ?_ | refine W2c ?_ ?_ | refine Wg ?_ | refine W2 ?_ ?_ | exact Wdead | refine Wlive (fun hb => ?_) | intro _ _ _ _ _ _ _ _ | refine We ?_ | refine Wx ?_ | refine Wt ?_ | refine Wm ?_ | refine W2m ?_ ?_ | refine Wl ?_)
            | fail)
          all_goals first | exact ⟨rfl, rfl, rfl⟩ | exact absurd trivial (by assumption) | exact absurd rfl (by assumption) | trace_state
    | true =>
      rw [hs] at hvv hev hnn hfv hw
      obtain rfl : w = 0 := hw
      try clear hw
      cases hf : forHours m l 20 with
      | false =>
        rw [hf] at hE hvv hev
        obtain rfl : ev = 2 := hev
        obtain rfl : vv = 0 := hvv
        try clear hvv hev
        cases hi : inR 0 m.last a with
        | false =>
          rw [hi] at hIn hnn hfv
          obtain rfl : fv = 2 := hfv
          obtain rfl : nn = 0 := hnn
          try clear hnn hfv
          refine OpsJ.normA ?_
          repeat' (first
            | (refine is_ucall ?_; first
              | refine st_callP (h := awake_spec _ _ _) (k := ?_)
              | refine st_callP (h := ThinZ_spec _ _ _ m s1 s2 s3 s4 (hm.ext extA)) (k := ?_)
              | fail)
            | (refine is_umcall ?_; first
              | refine mj_callP (h := awake_spec _ _ _) (k := ?_)
              | refine mj_callP (h := ThinZ_spec _ _ _ m s1 s2 s3 s4 (hm.ext extA)) (k := ?_)
              | fail)
            | ((fail_if_success (first | refine is_ucall ?_ | refine is_umcall ?_)); first | refine W1 ?_ | refine Wc ?_ | refine W2c ?_ ?_ | refine Wg ?_ | refine W2 ?_ ?_ | exact Wdead | refine Wlive (fun hb => ?_) | intro _ _ _ _ _ _ _ _ | refine We ?_ | refine Wx ?_ | refine Wt ?_ | refine Wm ?_ | refine W2m ?_ ?_ | refine Wl ?_)
            | fail)
          refine st_callP (h := hF) (k := ?_)
          refine OpsJ.normA ?_
          repeat' (first
            | (refine is_ucall ?_; first
              | refine st_callP (h := awake_spec _ _ _) (k := ?_)
              | refine st_callP (h := ThinZ_spec _ _ _ m s1 s2 s3 s4 (hm.ext extA)) (k := ?_)
              | fail)
            | (refine is_umcall ?_; first
              | refine mj_callP (h := awake_spec _ _ _) (k := ?_)
              | refine mj_callP (h := ThinZ_spec _ _ _ m s1 s2 s3 s4 (hm.ext extA)) (k := ?_)
              | fail)
            | ((fail_if_success (first | refine is_ucall ?_ | refine is_umcall ?_)); first | refine W1 ?_ | refine Wc ?_ | refine W2c ?_ ?_ | refine Wg ?_ | refine W2 ?_ ?_ | exact Wdead | refine Wlive (fun hb => ?_) | intro _ _ _ _ _ _ _ _ | refine We ?_ | refine Wx ?_ | refine Wt ?_ | refine Wm ?_ | refine W2m ?_ ?_ | refine Wl ?_)
            | fail)
          refine st_callP (h := hE) (k := ?_)
          refine OpsJ.normA ?_
          repeat' (first
            | (refine is_ucall ?_; first
              | refine st_callP (h := awake_spec _ _ _) (k := ?_)
              | refine st_callP (h := ThinZ_spec _ _ _ m s1 s2 s3 s4 (hm.ext extA)) (k := ?_)
              | fail)
            | (refine is_umcall ?_; first
              | refine mj_callP (h := awake_spec _ _ _) (k := ?_)
              | refine mj_callP (h := ThinZ_spec _ _ _ m s1 s2 s3 s4 (hm.ext extA)) (k := ?_)
              | fail)
            | ((fail_if_success (first | refine is_ucall ?_ | refine is_umcall ?_)); first | refine W1 ?_ | refine Wc ?_ | refine W2c ?_ ?_ | refine Wg ?_ | refine W2 ?_ ?_ | exact Wdead | refine Wlive (fun hb => ?_) | intro _ _ _ _ _ _ _ _ | refine We ?_ | refine Wx ?_ | refine Wt ?_ | refine Wm ?_ | refine W2m ?_ ?_ | refine Wl ?_)
            | fail)
          refine st_callP (h := hF) (k := ?_)
          refine OpsJ.normA ?_
          repeat' (first
            | (refine is_ucall ?_; first
              | refine st_callP (h := awake_spec _ _ _) (k := ?_)
              | refine st_callP (h := ThinZ_spec _ _ _ m s1 s2 s3 s4 (hm.ext extA)) (k := ?_)
              | fail)
            | (refine is_umcall ?_; first
              | refine mj_callP (h := awake_spec _ _ _) (k := ?_)
              | refine mj_callP (h := ThinZ_spec _ _ _ m s1 s2 s3 s4 (hm.ext extA)) (k := ?_)
              | fail)
            | ((fail_if_success (first | refine is_ucall ?_ | refine is_umcall ?_)); first | refine W1 ?_ | refine Wc ?_ | refine W2c ?_ ?_ | refine Wg ?_ | refine W2 ?_ ?_ | exact Wdead | refine Wlive (fun hb => ?_) | intro _ _ _ _ _ _ _ _ | refine We ?_ | refine Wx ?_ | refine Wt ?_ | refine Wm ?_ | refine W2m ?_ ?_ | refine Wl ?_)
            | fail)
          refine st_callP (h := hIn) (k := ?_)
          clear hF hE hIn
          refine OpsJ.normA ?_
          repeat' (first
            | (refine is_ucall ?_; first
              | refine st_callP (h := awake_spec _ _ _) (k := ?_)
              | refine st_callP (h := ThinZ_spec _ _ _ m s1 s2 s3 s4 (hm.ext extA)) (k := ?_)
              | fail)
            | (refine is_umcall ?_; first
              | refine mj_callP (h := awake_spec _ _ _) (k := ?_)
              | refine mj_callP (h := ThinZ_spec _ _ _ m s1 s2 s3 s4 (hm.ext extA)) (k := ?_)
              | fail)
            | ((fail_if_success (first | refine is_ucall ?_ | refine is_umcall ?_)); first | refine W1 ?_ | refine Wc ?_ | refine W2c ?_ ?_ | refine Wg ?_ | refine W2 ?_ ?_ | exact Wdead | refine Wlive (fun hb => ?_) | intro _ _ _ _ _ _ _ _ | refine We ?_ | refine Wx ?_ | refine Wt ?_ | refine Wm ?_ | refine W2m ?_ ?_ | refine Wl ?_)
            | fail)
          refine WPJ.draw 28 mixed (by kernel_rfl) (by kernel_rfl) (by kernel_rfl) (by decide) ?_
          refine MonoJ.normA ?_
          repeat' (first
            | (refine is_ucall ?_; first
              | refine st_callP (h := awake_spec _ _ _) (k := ?_)
              | refine st_callP (h := ThinZ_spec _ _ _ m s1 s2 s3 s4 (hm.ext extA)) (k := ?_)
              | fail)
            | (refine is_umcall ?_; first
              | refine mj_callP (h := awake_spec _ _ _) (k := ?_)
              | refine mj_callP (h := ThinZ_spec _ _ _ m s1 s2 s3 s4 (hm.ext extA)) (k := ?_)
              | fail)
            | ((fail_if_success (first | refine is_ucall ?_ | refine is_umcall ?_)); first | refine W1 ?_ | refine Wc ?_ | refine W2c ?_ ?_ | refine Wg ?_ | refine W2 ?_ ?_ | exact Wdead | refine Wlive (fun hb => ?_) | intro _ _ _ _ _ _ _ _ | refine We ?_ | refine Wx ?_ | refine Wt ?_ | refine Wm ?_ | refine W2m ?_ ?_ | refine Wl ?_)
            | fail)
          all_goals first | exact ⟨rfl, rfl, rfl⟩ | exact absurd trivial (by assumption) | exact absurd rfl (by assumption) | trace_state
        | true =>
          rw [hi] at hIn hnn hfv
          obtain ⟨k, rfl⟩ : ∃ k : Nat, a = k := ⟨a.toNat, by simp only [inR, Bool.and_eq_true, decide_eq_true_eq] at hi; omega⟩
          have hkb : k < hrs m := by simp only [inR, Bool.and_eq_true, decide_eq_true_eq] at hi; have := (hrs_le hG.w).2; omega
          rw [Int.toNat_natCast] at hnn
          cases hk : allKept m with
          | false =>
            rw [hk] at hnn hfv
            obtain rfl : fv = 10 := hfv
            obtain rfl : nn = 0 := hnn
            try clear hnn hfv
            refine OpsJ.normA ?_
            repeat' (first
              | (refine is_ucall ?_; first
                | refine st_callP (h := awake_spec _ _ _) (k := ?_)
                | refine st_callP (h := ThinZ_spec _ _ _ m s1 s2 s3 s4 (hm.ext extA)) (k := ?_)
                | fail)
              | (refine is_umcall ?_; first
                | refine mj_callP (h := awake_spec _ _ _) (k := ?_)
                | refine mj_callP (h := ThinZ_spec _ _ _ m s1 s2 s3 s4 (hm.ext extA)) (k := ?_)
                | fail)
              | ((fail_if_success (first | refine is_ucall ?_ | refine is_umcall ?_)); first | refine W1 ?_ | refine Wc ?_ | refine W2c ?_ ?_ | refine Wg ?_ | refine W2 ?_ ?_ | exact Wdead | refine Wlive (fun hb => ?_) | intro _ _ _ _ _ _ _ _ | refine We ?_ | refine Wx ?_ | refine Wt ?_ | refine Wm ?_ | refine W2m ?_ ?_ | refine Wl ?_)
              | fail)
            refine st_callP (h := hF) (k := ?_)
            refine OpsJ.normA ?_
            repeat' (first
              | (refine is_ucall ?_; first
                | refine st_callP (h := awake_spec _ _ _) (k := ?_)
                | refine st_callP (h := ThinZ_spec _ _ _ m s1 s2 s3 s4 (hm.ext extA)) (k := ?_)
                | fail)
              | (refine is_umcall ?_; first
                | refine mj_callP (h := awake_spec _ _ _) (k := ?_)
                | refine mj_callP (h := ThinZ_spec _ _ _ m s1 s2 s3 s4 (hm.ext extA)) (k := ?_)
                | fail)
              | ((fail_if_success (first | refine is_ucall ?_ | refine is_umcall ?_)); first | refine W1 ?_ | refine Wc ?_ | refine W2c ?_ ?_ | refine Wg ?_ | refine W2 ?_ ?_ | exact Wdead | refine Wlive (fun hb => ?_) | intro _ _ _ _ _ _ _ _ | refine We ?_ | refine Wx ?_ | refine Wt ?_ | refine Wm ?_ | refine W2m ?_ ?_ | refine Wl ?_)
              | fail)
            refine st_callP (h := hE) (k := ?_)
            refine OpsJ.normA ?_
            repeat' (first
              | (refine is_ucall ?_; first
                | refine st_callP (h := awake_spec _ _ _) (k := ?_)
                | refine st_callP (h := ThinZ_spec _ _ _ m s1 s2 s3 s4 (hm.ext extA)) (k := ?_)
                | fail)
              | (refine is_umcall ?_; first
                | refine mj_callP (h := awake_spec _ _ _) (k := ?_)
                | refine mj_callP (h := ThinZ_spec _ _ _ m s1 s2 s3 s4 (hm.ext extA)) (k := ?_)
                | fail)
              | ((fail_if_success (first | refine is_ucall ?_ | refine is_umcall ?_)); first | refine W1 ?_ | refine Wc ?_ | refine W2c ?_ ?_ | refine Wg ?_ | refine W2 ?_ ?_ | exact Wdead | refine Wlive (fun hb => ?_) | intro _ _ _ _ _ _ _ _ | refine We ?_ | refine Wx ?_ | refine Wt ?_ | refine Wm ?_ | refine W2m ?_ ?_ | refine Wl ?_)
              | fail)
            refine st_callP (h := hF) (k := ?_)
            refine OpsJ.normA ?_
            repeat' (first
              | (refine is_ucall ?_; first
                | refine st_callP (h := awake_spec _ _ _) (k := ?_)
                | refine st_callP (h := ThinZ_spec _ _ _ m s1 s2 s3 s4 (hm.ext extA)) (k := ?_)
                | fail)
              | (refine is_umcall ?_; first
                | refine mj_callP (h := awake_spec _ _ _) (k := ?_)
                | refine mj_callP (h := ThinZ_spec _ _ _ m s1 s2 s3 s4 (hm.ext extA)) (k := ?_)
                | fail)
              | ((fail_if_success (first | refine is_ucall ?_ | refine is_umcall ?_)); first | refine W1 ?_ | refine Wc ?_ | refine W2c ?_ ?_ | refine Wg ?_ | refine W2 ?_ ?_ | exact Wdead | refine Wlive (fun hb => ?_) | intro _ _ _ _ _ _ _ _ | refine We ?_ | refine Wx ?_ | refine Wt ?_ | refine Wm ?_ | refine W2m ?_ ?_ | refine Wl ?_)
              | fail)
            refine st_callP (h := hIn) (k := ?_)
            clear hF hE hIn
            refine OpsJ.normA ?_
            repeat' (first
              | (refine is_ucall ?_; first
                | refine st_callP (h := awake_spec _ _ _) (k := ?_)
                | refine st_callP (h := ThinZ_spec _ _ _ m s1 s2 s3 s4 (hm.ext extA)) (k := ?_)
                | fail)
              | (refine is_umcall ?_; first
                | refine mj_callP (h := awake_spec _ _ _) (k := ?_)
                | refine mj_callP (h := ThinZ_spec _ _ _ m s1 s2 s3 s4 (hm.ext extA)) (k := ?_)
                | fail)
              | ((fail_if_success (first | refine is_ucall ?_ | refine is_umcall ?_)); first | refine W1 ?_ | refine Wc ?_ | refine W2c ?_ ?_ | refine Wg ?_ | refine W2 ?_ ?_ | exact Wdead | refine Wlive (fun hb => ?_) | intro _ _ _ _ _ _ _ _ | refine We ?_ | refine Wx ?_ | refine Wt ?_ | refine Wm ?_ | refine W2m ?_ ?_ | refine Wl ?_)
              | fail)
            refine WPJ.draw 28 mixed (by kernel_rfl) (by kernel_rfl) (by kernel_rfl) (by decide) ?_
            refine MonoJ.normA ?_
            repeat' (first
              | (refine is_ucall ?_; first
                | refine st_callP (h := awake_spec _ _ _) (k := ?_)
                | refine st_callP (h := ThinZ_spec _ _ _ m s1 s2 s3 s4 (hm.ext extA)) (k := ?_)
                | fail)
              | (refine is_umcall ?_; first
                | refine mj_callP (h := awake_spec _ _ _) (k := ?_)
                | refine mj_callP (h := ThinZ_spec _ _ _ m s1 s2 s3 s4 (hm.ext extA)) (k := ?_)
                | fail)
              | ((fail_if_success (first | refine is_ucall ?_ | refine is_umcall ?_)); first | refine W1 ?_ | refine Wc ?_ | refine W2c ?_ ?_ | refine Wg ?_ | refine W2 ?_ ?_ | exact Wdead | refine Wlive (fun hb => ?_) | intro _ _ _ _ _ _ _ _ | refine We ?_ | refine Wx ?_ | refine Wt ?_ | refine Wm ?_ | refine W2m ?_ ?_ | refine Wl ?_)
              | fail)
            refine st_call rfl (SpareR_spec E _ _ m s1 s2 s3 s4 tv (hI.ext (x4)).y hG (hts rfl) k hkb) ?_
            rintro _ H5 g5 ⟨⟨rfl, e5⟩, rfl⟩
            have x5 : Ext H H5 := Ext.trans (x4) e5
            rw [best_spare hG k 20 (Nat.le_refl _), hk, if_neg (by simp)]
            refine OpsJ.normA ?_
            repeat' (first
              | (refine is_ucall ?_; first
                | refine st_callP (h := awake_spec _ _ _) (k := ?_)
                | refine st_callP (h := ThinZ_spec _ _ _ m s1 s2 s3 s4 (hm.ext extA)) (k := ?_)
                | fail)
              | (refine is_umcall ?_; first
                | refine mj_callP (h := awake_spec _ _ _) (k := ?_)
                | refine mj_callP (h := ThinZ_spec _ _ _ m s1 s2 s3 s4 (hm.ext extA)) (k := ?_)
                | fail)
              | ((fail_if_success (first | refine is_ucall ?_ | refine is_umcall ?_)); first | refine W1 ?_ | refine Wc ?_ | refine W2c ?_ ?_ | refine Wg ?_ | refine W2 ?_ ?_ | exact Wdead | refine Wlive (fun hb => ?_) | intro _ _ _ _ _ _ _ _ | refine We ?_ | refine Wx ?_ | refine Wt ?_ | refine Wm ?_ | refine W2m ?_ ?_ | refine Wl ?_)
              | fail)
            all_goals first | exact ⟨rfl, rfl, rfl⟩ | exact absurd trivial (by assumption) | exact absurd rfl (by assumption) | trace_state
          | true =>
            rw [hk] at hnn hfv
            obtain rfl : fv = 0 := hfv
            obtain rfl : nn = spareS m k 20 := hnn
            try clear hnn hfv
            refine OpsJ.normA ?_
            repeat' (first
              | (refine is_ucall ?_; first
                | refine st_callP (h := awake_spec _ _ _) (k := ?_)
                | refine st_callP (h := ThinZ_spec _ _ _ m s1 s2 s3 s4 (hm.ext extA)) (k := ?_)
                | fail)
              | (refine is_umcall ?_; first
                | refine mj_callP (h := awake_spec _ _ _) (k := ?_)
                | refine mj_callP (h := ThinZ_spec _ _ _ m s1 s2 s3 s4 (hm.ext extA)) (k := ?_)
                | fail)
              | ((fail_if_success (first | refine is_ucall ?_ | refine is_umcall ?_)); first | refine W1 ?_ | refine Wc ?_ | refine W2c ?_ ?_ | refine Wg ?_ | refine W2 ?_ ?_ | exact Wdead | refine Wlive (fun hb => ?_) | intro _ _ _ _ _ _ _ _ | refine We ?_ | refine Wx ?_ | refine Wt ?_ | refine Wm ?_ | refine W2m ?_ ?_ | refine Wl ?_)
              | fail)
            refine st_callP (h := hF) (k := ?_)
            refine OpsJ.normA ?_
            repeat' (first
              | (refine is_ucall ?_; first
                | refine st_callP (h := awake_spec _ _ _) (k := ?_)
                | refine st_callP (h := ThinZ_spec _ _ _ m s1 s2 s3 s4 (hm.ext extA)) (k := ?_)
                | fail)
              | (refine is_umcall ?_; first
                | refine mj_callP (h := awake_spec _ _ _) (k := ?_)
                | refine mj_callP (h := ThinZ_spec _ _ _ m s1 s2 s3 s4 (hm.ext extA)) (k := ?_)
                | fail)
              | ((fail_if_success (first | refine is_ucall ?_ | refine is_umcall ?_)); first | refine W1 ?_ | refine Wc ?_ | refine W2c ?_ ?_ | refine Wg ?_ | refine W2 ?_ ?_ | exact Wdead | refine Wlive (fun hb => ?_) | intro _ _ _ _ _ _ _ _ | refine We ?_ | refine Wx ?_ | refine Wt ?_ | refine Wm ?_ | refine W2m ?_ ?_ | refine Wl ?_)
              | fail)
            refine st_callP (h := hE) (k := ?_)
            refine OpsJ.normA ?_
            repeat' (first
              | (refine is_ucall ?_; first
                | refine st_callP (h := awake_spec _ _ _) (k := ?_)
                | refine st_callP (h := ThinZ_spec _ _ _ m s1 s2 s3 s4 (hm.ext extA)) (k := ?_)
                | fail)
              | (refine is_umcall ?_; first
                | refine mj_callP (h := awake_spec _ _ _) (k := ?_)
                | refine mj_callP (h := ThinZ_spec _ _ _ m s1 s2 s3 s4 (hm.ext extA)) (k := ?_)
                | fail)
              | ((fail_if_success (first | refine is_ucall ?_ | refine is_umcall ?_)); first | refine W1 ?_ | refine Wc ?_ | refine W2c ?_ ?_ | refine Wg ?_ | refine W2 ?_ ?_ | exact Wdead | refine Wlive (fun hb => ?_) | intro _ _ _ _ _ _ _ _ | refine We ?_ | refine Wx ?_ | refine Wt ?_ | refine Wm ?_ | refine W2m ?_ ?_ | refine Wl ?_)
              | fail)
            refine st_callP (h := hF) (k := ?_)
            refine OpsJ.normA ?_
            repeat' (first
              | (refine is_ucall ?_; first
                | refine st_callP (h := awake_spec _ _ _) (k := ?_)
                | refine st_callP (h := ThinZ_spec _ _ _ m s1 s2 s3 s4 (hm.ext extA)) (k := ?_)
                | fail)
              | (refine is_umcall ?_; first
                | refine mj_callP (h := awake_spec _ _ _) (k := ?_)
                | refine mj_callP (h := ThinZ_spec _ _ _ m s1 s2 s3 s4 (hm.ext extA)) (k := ?_)
                | fail)
              | ((fail_if_success (first | refine is_ucall ?_ | refine is_umcall ?_)); first | refine W1 ?_ | refine Wc ?_ | refine W2c ?_ ?_ | refine Wg ?_ | refine W2 ?_ ?_ | exact Wdead | refine Wlive (fun hb => ?_) | intro _ _ _ _ _ _ _ _ | refine We ?_ | refine Wx ?_ | refine Wt ?_ | refine Wm ?_ | refine W2m ?_ ?_ | refine Wl ?_)
              | fail)
            refine st_callP (h := hIn) (k := ?_)
            clear hF hE hIn
            refine OpsJ.normA ?_
            repeat' (first
              | (refine is_ucall ?_; first
                | refine st_callP (h := awake_spec _ _ _) (k := ?_)
                | refine st_callP (h := ThinZ_spec _ _ _ m s1 s2 s3 s4 (hm.ext extA)) (k := ?_)
                | fail)
              | (refine is_umcall ?_; first
                | refine mj_callP (h := awake_spec _ _ _) (k := ?_)
                | refine mj_callP (h := ThinZ_spec _ _ _ m s1 s2 s3 s4 (hm.ext extA)) (k := ?_)
                | fail)
              | ((fail_if_success (first | refine is_ucall ?_ | refine is_umcall ?_)); first | refine W1 ?_ | refine Wc ?_ | refine W2c ?_ ?_ | refine Wg ?_ | refine W2 ?_ ?_ | exact Wdead | refine Wlive (fun hb => ?_) | intro _ _ _ _ _ _ _ _ | refine We ?_ | refine Wx ?_ | refine Wt ?_ | refine Wm ?_ | refine W2m ?_ ?_ | refine Wl ?_)
              | fail)
            refine WPJ.draw 28 mixed (by kernel_rfl) (by kernel_rfl) (by kernel_rfl) (by decide) ?_
            refine MonoJ.normA ?_
            repeat' (first
              | (refine is_ucall ?_; first
                | refine st_callP (h := awake_spec _ _ _) (k := ?_)
                | refine st_callP (h := ThinZ_spec _ _ _ m s1 s2 s3 s4 (hm.ext extA)) (k := ?_)
                | fail)
              | (refine is_umcall ?_; first
                | refine mj_callP (h := awake_spec _ _ _) (k := ?_)
                | refine mj_callP (h := ThinZ_spec _ _ _ m s1 s2 s3 s4 (hm.ext extA)) (k := ?_)
                | fail)
              | ((fail_if_success (first | refine is_ucall ?_ | refine is_umcall ?_)); first | refine W1 ?_ | refine Wc ?_ | refine W2c ?_ ?_ | refine Wg ?_ | refine W2 ?_ ?_ | exact Wdead | refine Wlive (fun hb => ?_) | intro _ _ _ _ _ _ _ _ | refine We ?_ | refine Wx ?_ | refine Wt ?_ | refine Wm ?_ | refine W2m ?_ ?_ | refine Wl ?_)
              | fail)
            refine st_call rfl (SpareR_spec E _ _ m s1 s2 s3 s4 tv (hI.ext (x4)).y hG (hts rfl) k hkb) ?_
            rintro _ H5 g5 ⟨⟨rfl, e5⟩, rfl⟩
            have x5 : Ext H H5 := Ext.trans (x4) e5
            have hsp := (spareS_bd m k 20).1
            rw [best_spare hG k 20 (Nat.le_refl _), hk, if_pos rfl]
            refine OpsJ.normA ?_
            repeat' (first
              | (refine is_ucall ?_; first
                | refine st_callP (h := awake_spec _ _ _) (k := ?_)
                | refine st_callP (h := ThinZ_spec _ _ _ m s1 s2 s3 s4 (hm.ext extA)) (k := ?_)
                | fail)
              | (refine is_umcall ?_; first
                | refine mj_callP (h := awake_spec _ _ _) (k := ?_)
                | refine mj_callP (h := ThinZ_spec _ _ _ m s1 s2 s3 s4 (hm.ext extA)) (k := ?_)
                | fail)
              | ((fail_if_success (first | refine is_ucall ?_ | refine is_umcall ?_)); first | refine W1 ?_ | refine Wc ?_ | refine W2c ?_ ?_ | refine Wg ?_ | refine W2 ?_ ?_ | exact Wdead | refine Wlive (fun hb => ?_) | intro _ _ _ _ _ _ _ _ | refine We ?_ | refine Wx ?_ | refine Wt ?_ | refine Wm ?_ | refine W2m ?_ ?_ | refine Wl ?_)
              | fail)
            all_goals first | exact ⟨rfl, rfl, rfl⟩ | exact absurd trivial (by assumption) | exact absurd rfl (by assumption) | trace_state
      | true =>
        rw [hf] at hE hvv hev
        obtain rfl : ev = 0 := hev
        obtain rfl : vv = moreV m l := hvv
        try clear hvv hev
        have hff : l.length = hrs m ∧ ∀ x ∈ l, 0 ≤ x ∧ x ≤ 20 := for_of hG hf
        have hfl : l.length = m.want.length := by rw [hff.1, hG.w.wl]
        have hlb := hff.2
        have hwp : 0 < m.want.length := by have := (hrs_le hG.w).2; rw [hG.w.wl]; omega
        have hWh := fun (H' : AHeap) (e : Ext H4 H') (hrd : RdS H' (.slice (some ⟨H4.length, 0, none⟩) m.want.length m.want.length) 1 (encI (addL m.want.length m.want l))) => wholes_more trivE () H' m s1 s2 s3 s4 tv (.slice (some ⟨H4.length, 0, none⟩) m.want.length m.want.length) l ((hI.ext x4).ext e).y hG ((hts rfl).ext e) hlb hrd
        cases hi : inR 0 m.last a with
        | false =>
          rw [hi] at hIn hnn hfv
          obtain rfl : fv = 2 := hfv
          obtain rfl : nn = 0 := hnn
          try clear hnn hfv
          refine OpsJ.normA ?_
          repeat' (first
            | (refine is_ucall ?_; first
              | refine st_callP (h := awake_spec _ _ _) (k := ?_)
              | refine st_callP (h := ThinZ_spec _ _ _ m s1 s2 s3 s4 (hm.ext extA)) (k := ?_)
              | fail)
            | (refine is_umcall ?_; first
              | refine mj_callP (h := awake_spec _ _ _) (k := ?_)
              | refine mj_callP (h := ThinZ_spec _ _ _ m s1 s2 s3 s4 (hm.ext extA)) (k := ?_)
              | fail)
            | ((fail_if_success (first | refine is_ucall ?_ | refine is_umcall ?_)); first | refine W1 ?_ | refine Wc ?_ | refine W2c ?_ ?_ | refine Wg ?_ | refine W2 ?_ ?_ | exact Wdead | refine Wlive (fun hb => ?_) | intro _ _ _ _ _ _ _ _ | refine We ?_ | refine Wx ?_ | refine Wt ?_ | refine Wm ?_ | refine W2m ?_ ?_ | refine Wl ?_)
            | fail)
          refine st_callP (h := hF) (k := ?_)
          refine OpsJ.normA ?_
          repeat' (first
            | (refine is_ucall ?_; first
              | refine st_callP (h := awake_spec _ _ _) (k := ?_)
              | refine st_callP (h := ThinZ_spec _ _ _ m s1 s2 s3 s4 (hm.ext extA)) (k := ?_)
              | fail)
            | (refine is_umcall ?_; first
              | refine mj_callP (h := awake_spec _ _ _) (k := ?_)
              | refine mj_callP (h := ThinZ_spec _ _ _ m s1 s2 s3 s4 (hm.ext extA)) (k := ?_)
              | fail)
            | ((fail_if_success (first | refine is_ucall ?_ | refine is_umcall ?_)); first | refine W1 ?_ | refine Wc ?_ | refine W2c ?_ ?_ | refine Wg ?_ | refine W2 ?_ ?_ | exact Wdead | refine Wlive (fun hb => ?_) | intro _ _ _ _ _ _ _ _ | refine We ?_ | refine Wx ?_ | refine Wt ?_ | refine Wm ?_ | refine W2m ?_ ?_ | refine Wl ?_)
            | fail)
          refine st_callP (h := hE) (k := ?_)
          refine OpsJ.normA ?_
          repeat' (first
            | (refine is_ucall ?_; first
              | refine st_callP (h := awake_spec _ _ _) (k := ?_)
              | refine st_callP (h := ThinZ_spec _ _ _ m s1 s2 s3 s4 (hm.ext extA)) (k := ?_)
              | fail)
            | (refine is_umcall ?_; first
              | refine mj_callP (h := awake_spec _ _ _) (k := ?_)
              | refine mj_callP (h := ThinZ_spec _ _ _ m s1 s2 s3 s4 (hm.ext extA)) (k := ?_)
              | fail)
            | ((fail_if_success (first | refine is_ucall ?_ | refine is_umcall ?_)); first | refine W1 ?_ | refine Wc ?_ | refine W2c ?_ ?_ | refine Wg ?_ | refine W2 ?_ ?_ | exact Wdead | refine Wlive (fun hb => ?_) | intro _ _ _ _ _ _ _ _ | refine We ?_ | refine Wx ?_ | refine Wt ?_ | refine Wm ?_ | refine W2m ?_ ?_ | refine Wl ?_)
            | fail)
          refine st_callP (h := hF) (k := ?_)
          refine OpsJ.normA ?_
          repeat' (first
            | (refine is_ucall ?_; first
              | refine st_callP (h := awake_spec _ _ _) (k := ?_)
              | refine st_callP (h := ThinZ_spec _ _ _ m s1 s2 s3 s4 (hm.ext extA)) (k := ?_)
              | fail)
            | (refine is_umcall ?_; first
              | refine mj_callP (h := awake_spec _ _ _) (k := ?_)
              | refine mj_callP (h := ThinZ_spec _ _ _ m s1 s2 s3 s4 (hm.ext extA)) (k := ?_)
              | fail)
            | ((fail_if_success (first | refine is_ucall ?_ | refine is_umcall ?_)); first | refine W1 ?_ | refine Wc ?_ | refine W2c ?_ ?_ | refine Wg ?_ | refine W2 ?_ ?_ | exact Wdead | refine Wlive (fun hb => ?_) | intro _ _ _ _ _ _ _ _ | refine We ?_ | refine Wx ?_ | refine Wt ?_ | refine Wm ?_ | refine W2m ?_ ?_ | refine Wl ?_)
            | fail)
          refine st_callP (h := hIn) (k := ?_)
          clear hF hE hIn
          refine OpsJ.normA ?_
          repeat' (first
            | (refine is_ucall ?_; first
              | refine st_callP (h := awake_spec _ _ _) (k := ?_)
              | refine st_callP (h := ThinZ_spec _ _ _ m s1 s2 s3 s4 (hm.ext extA)) (k := ?_)
              | fail)
            | (refine is_umcall ?_; first
              | refine mj_callP (h := awake_spec _ _ _) (k := ?_)
              | refine mj_callP (h := ThinZ_spec _ _ _ m s1 s2 s3 s4 (hm.ext extA)) (k := ?_)
              | fail)
            | ((fail_if_success (first | refine is_ucall ?_ | refine is_umcall ?_)); first | refine W1 ?_ | refine Wc ?_ | refine W2c ?_ ?_ | refine Wg ?_ | refine W2 ?_ ?_ | exact Wdead | refine Wlive (fun hb => ?_) | intro _ _ _ _ _ _ _ _ | refine We ?_ | refine Wx ?_ | refine Wt ?_ | refine Wm ?_ | refine W2m ?_ ?_ | refine Wl ?_)
            | fail)
          refine WPJ.draw 28 mixed (by kernel_rfl) (by kernel_rfl) (by kernel_rfl) (by decide) ?_
          refine MonoJ.normA ?_
          repeat' (first
            | (refine is_ucall ?_; first
              | refine st_callP (h := awake_spec _ _ _) (k := ?_)
              | refine st_callP (h := ThinZ_spec _ _ _ m s1 s2 s3 s4 (hm.ext extA)) (k := ?_)
              | fail)
            | (refine is_umcall ?_; first
              | refine mj_callP (h := awake_spec _ _ _) (k := ?_)
              | refine mj_callP (h := ThinZ_spec _ _ _ m s1 s2 s3 s4 (hm.ext extA)) (k := ?_)
              | fail)
            | ((fail_if_success (first | refine is_ucall ?_ | refine is_umcall ?_)); first | refine W1 ?_ | refine Wc ?_ | refine W2c ?_ ?_ | refine Wg ?_ | refine W2 ?_ ?_ | exact Wdead | refine Wlive (fun hb => ?_) | intro _ _ _ _ _ _ _ _ | refine We ?_ | refine Wx ?_ | refine Wt ?_ | refine Wm ?_ | refine W2m ?_ ?_ | refine Wl ?_)
            | fail)
          refine mj_callL (h := Sum1_spec _ _ _ s2 lv m.want l (hI.ext x4).want (hr.ext x4) hfl (by omega) hwp hG.wn hlb) (k := ?_)
          have hW1 := hWh _ ⟨_, rfl⟩ (rd_addL H4 m l hfl)
          refine MonoJ.normA ?_
          repeat' (first
            | (refine is_ucall ?_; first
              | refine st_callP (h := awake_spec _ _ _) (k := ?_)
              | refine st_callP (h := ThinZ_spec _ _ _ m s1 s2 s3 s4 (hm.ext extA)) (k := ?_)
              | fail)
            | (refine is_umcall ?_; first
              | refine mj_callP (h := awake_spec _ _ _) (k := ?_)
              | refine mj_callP (h := ThinZ_spec _ _ _ m s1 s2 s3 s4 (hm.ext extA)) (k := ?_)
              | fail)
            | ((fail_if_success (first | refine is_ucall ?_ | refine is_umcall ?_)); first | refine W1 ?_ | refine Wc ?_ | refine W2c ?_ ?_ | refine Wg ?_ | refine W2 ?_ ?_ | exact Wdead | refine Wlive (fun hb => ?_) | intro _ _ _ _ _ _ _ _ | refine We ?_ | refine Wx ?_ | refine Wt ?_ | refine Wm ?_ | refine W2m ?_ ?_ | refine Wl ?_)
            | fail)
          refine mj_callP (ha := rfl) (h := hW1) (k := ?_)
          clear hW1 hWh
          generalize moreV m l = mv at *
          refine MonoJ.normA ?_
          repeat' (first
            | (refine is_ucall ?_; first
              | refine st_callP (h := awake_spec _ _ _) (k := ?_)
              | refine st_callP (h := ThinZ_spec _ _ _ m s1 s2 s3 s4 (hm.ext extA)) (k := ?_)
              | fail)
            | (refine is_umcall ?_; first
              | refine mj_callP (h := awake_spec _ _ _) (k := ?_)
              | refine mj_callP (h := ThinZ_spec _ _ _ m s1 s2 s3 s4 (hm.ext extA)) (k := ?_)
              | fail)
            | ((fail_if_success (first | refine is_ucall ?_ | refine is_umcall ?_)); first | refine W1 ?_ | refine Wc ?_ | refine W2c ?_ ?_ | refine Wg ?_ | refine W2 ?_ ?_ | exact Wdead | refine Wlive (fun hb => ?_) | intro _ _ _ _ _ _ _ _ | refine We ?_ | refine Wx ?_ | refine Wt ?_ | refine Wm ?_ | refine W2m ?_ ?_ | refine Wl ?_)
            | fail)
          all_goals first | exact ⟨rfl, rfl, rfl⟩ | exact absurd trivial (by assumption) | exact absurd rfl (by assumption) | trace_state
        | true =>
          rw [hi] at hIn hnn hfv
          obtain ⟨k, rfl⟩ : ∃ k : Nat, a = k := ⟨a.toNat, by simp only [inR, Bool.and_eq_true, decide_eq_true_eq] at hi; omega⟩
          have hkb : k < hrs m := by simp only [inR, Bool.and_eq_true, decide_eq_true_eq] at hi; have := (hrs_le hG.w).2; omega
          rw [Int.toNat_natCast] at hnn
          cases hk : allKept m with
          | false =>
            rw [hk] at hnn hfv
            obtain rfl : fv = 10 := hfv
            obtain rfl : nn = 0 := hnn
            try clear hnn hfv
            refine OpsJ.normA ?_
            repeat' (first
              | (refine is_ucall ?_; first
                | refine st_callP (h := awake_spec _ _ _) (k := ?_)
                | refine st_callP (h := ThinZ_spec _ _ _ m s1 s2 s3 s4 (hm.ext extA)) (k := ?_)
                | fail)
              | (refine is_umcall ?_; first
                | refine mj_callP (h := awake_spec _ _ _) (k := ?_)
                | refine mj_callP (h := ThinZ_spec _ _ _ m s1 s2 s3 s4 (hm.ext extA)) (k := ?_)
                | fail)
              | ((fail_if_success (first | refine is_ucall ?_ | refine is_umcall ?_)); first | refine W1 ?_ | refine Wc ?_ | refine W2c ?_ ?_ | refine Wg ?_ | refine W2 ?_ ?_ | exact Wdead | refine Wlive (fun hb => ?_) | intro _ _ _ _ _ _ _ _ | refine We ?_ | refine Wx ?_ | refine Wt ?_ | refine Wm ?_ | refine W2m ?_ ?_ | refine Wl ?_)
              | fail)
            refine st_callP (h := hF) (k := ?_)
            refine OpsJ.normA ?_
            repeat' (first
              | (refine is_ucall ?_; first
                | refine st_callP (h := awake_spec _ _ _) (k := ?_)
                | refine st_callP (h := ThinZ_spec _ _ _ m s1 s2 s3 s4 (hm.ext extA)) (k := ?_)
                | fail)
              | (refine is_umcall ?_; first
                | refine mj_callP (h := awake_spec _ _ _) (k := ?_)
                | refine mj_callP (h := ThinZ_spec _ _ _ m s1 s2 s3 s4 (hm.ext extA)) (k := ?_)
                | fail)
              | ((fail_if_success (first | refine is_ucall ?_ | refine is_umcall ?_)); first | refine W1 ?_ | refine Wc ?_ | refine W2c ?_ ?_ | refine Wg ?_ | refine W2 ?_ ?_ | exact Wdead | refine Wlive (fun hb => ?_) | intro _ _ _ _ _ _ _ _ | refine We ?_ | refine Wx ?_ | refine Wt ?_ | refine Wm ?_ | refine W2m ?_ ?_ | refine Wl ?_)
              | fail)
            refine st_callP (h := hE) (k := ?_)
            refine OpsJ.normA ?_
            repeat' (first
              | (refine is_ucall ?_; first
                | refine st_callP (h := awake_spec _ _ _) (k := ?_)
                | refine st_callP (h := ThinZ_spec _ _ _ m s1 s2 s3 s4 (hm.ext extA)) (k := ?_)
                | fail)
              | (refine is_umcall ?_; first
                | refine mj_callP (h := awake_spec _ _ _) (k := ?_)
                | refine mj_callP (h := ThinZ_spec _ _ _ m s1 s2 s3 s4 (hm.ext extA)) (k := ?_)
                | fail)
              | ((fail_if_success (first | refine is_ucall ?_ | refine is_umcall ?_)); first | refine W1 ?_ | refine Wc ?_ | refine W2c ?_ ?_ | refine Wg ?_ | refine W2 ?_ ?_ | exact Wdead | refine Wlive (fun hb => ?_) | intro _ _ _ _ _ _ _ _ | refine We ?_ | refine Wx ?_ | refine Wt ?_ | refine Wm ?_ | refine W2m ?_ ?_ | refine Wl ?_)
              | fail)
            refine st_callP (h := hF) (k := ?_)
            refine OpsJ.normA ?_
            repeat' (first
              | (refine is_ucall ?_; first
                | refine st_callP (h := awake_spec _ _ _) (k := ?_)
                | refine st_callP (h := ThinZ_spec _ _ _ m s1 s2 s3 s4 (hm.ext extA)) (k := ?_)
                | fail)
              | (refine is_umcall ?_; first
                | refine mj_callP (h := awake_spec _ _ _) (k := ?_)
                | refine mj_callP (h := ThinZ_spec _ _ _ m s1 s2 s3 s4 (hm.ext extA)) (k := ?_)
                | fail)
              | ((fail_if_success (first | refine is_ucall ?_ | refine is_umcall ?_)); first | refine W1 ?_ | refine Wc ?_ | refine W2c ?_ ?_ | refine Wg ?_ | refine W2 ?_ ?_ | exact Wdead | refine Wlive (fun hb => ?_) | intro _ _ _ _ _ _ _ _ | refine We ?_ | refine Wx ?_ | refine Wt ?_ | refine Wm ?_ | refine W2m ?_ ?_ | refine Wl ?_)
              | fail)
            refine st_callP (h := hIn) (k := ?_)
            clear hF hE hIn
            refine OpsJ.normA ?_
            repeat' (first
              | (refine is_ucall ?_; first
                | refine st_callP (h := awake_spec _ _ _) (k := ?_)
                | refine st_callP (h := ThinZ_spec _ _ _ m s1 s2 s3 s4 (hm.ext extA)) (k := ?_)
                | fail)
              | (refine is_umcall ?_; first
                | refine mj_callP (h := awake_spec _ _ _) (k := ?_)
                | refine mj_callP (h := ThinZ_spec _ _ _ m s1 s2 s3 s4 (hm.ext extA)) (k := ?_)
                | fail)
              | ((fail_if_success (first | refine is_ucall ?_ | refine is_umcall ?_)); first | refine W1 ?_ | refine Wc ?_ | refine W2c ?_ ?_ | refine Wg ?_ | refine W2 ?_ ?_ | exact Wdead | refine Wlive (fun hb => ?_) | intro _ _ _ _ _ _ _ _ | refine We ?_ | refine Wx ?_ | refine Wt ?_ | refine Wm ?_ | refine W2m ?_ ?_ | refine Wl ?_)
              | fail)
            refine WPJ.draw 28 mixed (by kernel_rfl) (by kernel_rfl) (by kernel_rfl) (by decide) ?_
            refine MonoJ.normA ?_
            repeat' (first
              | (refine is_ucall ?_; first
                | refine st_callP (h := awake_spec _ _ _) (k := ?_)
                | refine st_callP (h := ThinZ_spec _ _ _ m s1 s2 s3 s4 (hm.ext extA)) (k := ?_)
                | fail)
              | (refine is_umcall ?_; first
                | refine mj_callP (h := awake_spec _ _ _) (k := ?_)
                | refine mj_callP (h := ThinZ_spec _ _ _ m s1 s2 s3 s4 (hm.ext extA)) (k := ?_)
                | fail)
              | ((fail_if_success (first | refine is_ucall ?_ | refine is_umcall ?_)); first | refine W1 ?_ | refine Wc ?_ | refine W2c ?_ ?_ | refine Wg ?_ | refine W2 ?_ ?_ | exact Wdead | refine Wlive (fun hb => ?_) | intro _ _ _ _ _ _ _ _ | refine We ?_ | refine Wx ?_ | refine Wt ?_ | refine Wm ?_ | refine W2m ?_ ?_ | refine Wl ?_)
              | fail)
            refine mj_callL (h := Sum1_spec _ _ _ s2 lv m.want l (hI.ext x4).want (hr.ext x4) hfl (by omega) hwp hG.wn hlb) (k := ?_)
            have hW1 := hWh _ ⟨_, rfl⟩ (rd_addL H4 m l hfl)
            refine MonoJ.normA ?_
            repeat' (first
              | (refine is_ucall ?_; first
                | refine st_callP (h := awake_spec _ _ _) (k := ?_)
                | refine st_callP (h := ThinZ_spec _ _ _ m s1 s2 s3 s4 (hm.ext extA)) (k := ?_)
                | fail)
              | (refine is_umcall ?_; first
                | refine mj_callP (h := awake_spec _ _ _) (k := ?_)
                | refine mj_callP (h := ThinZ_spec _ _ _ m s1 s2 s3 s4 (hm.ext extA)) (k := ?_)
                | fail)
              | ((fail_if_success (first | refine is_ucall ?_ | refine is_umcall ?_)); first | refine W1 ?_ | refine Wc ?_ | refine W2c ?_ ?_ | refine Wg ?_ | refine W2 ?_ ?_ | exact Wdead | refine Wlive (fun hb => ?_) | intro _ _ _ _ _ _ _ _ | refine We ?_ | refine Wx ?_ | refine Wt ?_ | refine Wm ?_ | refine W2m ?_ ?_ | refine Wl ?_)
              | fail)
            refine mj_callP (ha := rfl) (h := hW1) (k := ?_)
            clear hW1 hWh
            generalize moreV m l = mv at *
            refine MonoJ.normA ?_
            repeat' (first
              | (refine is_ucall ?_; first
                | refine st_callP (h := awake_spec _ _ _) (k := ?_)
                | refine st_callP (h := ThinZ_spec _ _ _ m s1 s2 s3 s4 (hm.ext extA)) (k := ?_)
                | fail)
              | (refine is_umcall ?_; first
                | refine mj_callP (h := awake_spec _ _ _) (k := ?_)
                | refine mj_callP (h := ThinZ_spec _ _ _ m s1 s2 s3 s4 (hm.ext extA)) (k := ?_)
                | fail)
              | ((fail_if_success (first | refine is_ucall ?_ | refine is_umcall ?_)); first | refine W1 ?_ | refine Wc ?_ | refine W2c ?_ ?_ | refine Wg ?_ | refine W2 ?_ ?_ | exact Wdead | refine Wlive (fun hb => ?_) | intro _ _ _ _ _ _ _ _ | refine We ?_ | refine Wx ?_ | refine Wt ?_ | refine Wm ?_ | refine W2m ?_ ?_ | refine Wl ?_)
              | fail)
            all_goals try exact absurd trivial (by assumption)
            all_goals try exact absurd rfl (by assumption)
            refine st_call rfl (SpareR_spec E _ _ m s1 s2 s3 s4 tv (hI.ext (x4.app _)).y hG ((hts rfl).ext ⟨_, rfl⟩) k hkb) ?_
            rintro _ H5 g5 ⟨⟨rfl, e5⟩, rfl⟩
            have x5 : Ext H H5 := Ext.trans (x4.app _) e5
            rw [best_spare hG k 20 (Nat.le_refl _), hk, if_neg (by simp)]
            refine OpsJ.normA ?_
            repeat' (first
              | (refine is_ucall ?_; first
                | refine st_callP (h := awake_spec _ _ _) (k := ?_)
                | refine st_callP (h := ThinZ_spec _ _ _ m s1 s2 s3 s4 (hm.ext extA)) (k := ?_)
                | fail)
              | (refine is_umcall ?_; first
                | refine mj_callP (h := awake_spec _ _ _) (k := ?_)
                | refine mj_callP (h := ThinZ_spec _ _ _ m s1 s2 s3 s4 (hm.ext extA)) (k := ?_)
                | fail)
              | ((fail_if_success (first | refine is_ucall ?_ | refine is_umcall ?_)); first | refine W1 ?_ | refine Wc ?_ | refine W2c ?_ ?_ | refine Wg ?_ | refine W2 ?_ ?_ | exact Wdead | refine Wlive (fun hb => ?_) | intro _ _ _ _ _ _ _ _ | refine We ?_ | refine Wx ?_ | refine Wt ?_ | refine Wm ?_ | refine W2m ?_ ?_ | refine Wl ?_)
              | fail)
            all_goals first | exact ⟨rfl, rfl, rfl⟩ | exact absurd trivial (by assumption) | exact absurd rfl (by assumption) | trace_state
          | true =>
            rw [hk] at hnn hfv
            obtain rfl : fv = 0 := hfv
            obtain rfl : nn = spareS m k 20 := hnn
            try clear hnn hfv
            refine OpsJ.normA ?_
            repeat' (first
              | (refine is_ucall ?_; first
                | refine st_callP (h := awake_spec _ _ _) (k := ?_)
                | refine st_callP (h := ThinZ_spec _ _ _ m s1 s2 s3 s4 (hm.ext extA)) (k := ?_)
                | fail)
              | (refine is_umcall ?_; first
                | refine mj_callP (h := awake_spec _ _ _) (k := ?_)
                | refine mj_callP (h := ThinZ_spec _ _ _ m s1 s2 s3 s4 (hm.ext extA)) (k := ?_)
                | fail)
              | ((fail_if_success (first | refine is_ucall ?_ | refine is_umcall ?_)); first | refine W1 ?_ | refine Wc ?_ | refine W2c ?_ ?_ | refine Wg ?_ | refine W2 ?_ ?_ | exact Wdead | refine Wlive (fun hb => ?_) | intro _ _ _ _ _ _ _ _ | refine We ?_ | refine Wx ?_ | refine Wt ?_ | refine Wm ?_ | refine W2m ?_ ?_ | refine Wl ?_)
              | fail)
            refine st_callP (h := hF) (k := ?_)
            refine OpsJ.normA ?_
            repeat' (first
              | (refine is_ucall ?_; first
                | refine st_callP (h := awake_spec _ _ _) (k := ?_)
                | refine st_callP (h := ThinZ_spec _ _ _ m s1 s2 s3 s4 (hm.ext extA)) (k := ?_)
                | fail)
              | (refine is_umcall ?_; first
                | refine mj_callP (h := awake_spec _ _ _) (k := ?_)
                | refine mj_callP (h := ThinZ_spec _ _ _ m s1 s2 s3 s4 (hm.ext extA)) (k := ?_)
                | fail)
              | ((fail_if_success (first | refine is_ucall ?_ | refine is_umcall ?_)); first | refine W1 ?_ | refine Wc ?_ | refine W2c ?_ ?_ | refine Wg ?_ | refine W2 ?_ ?_ | exact Wdead | refine Wlive (fun hb => ?_) | intro _ _ _ _ _ _ _ _ | refine We ?_ | refine Wx ?_ | refine Wt ?_ | refine Wm ?_ | refine W2m ?_ ?_ | refine Wl ?_)
              | fail)
            refine st_callP (h := hE) (k := ?_)
            refine OpsJ.normA ?_
            repeat' (first
              | (refine is_ucall ?_; first
                | refine st_callP (h := awake_spec _ _ _) (k := ?_)
                | refine st_callP (h := ThinZ_spec _ _ _ m s1 s2 s3 s4 (hm.ext extA)) (k := ?_)
                | fail)
              | (refine is_umcall ?_; first
                | refine mj_callP (h := awake_spec _ _ _) (k := ?_)
                | refine mj_callP (h := ThinZ_spec _ _ _ m s1 s2 s3 s4 (hm.ext extA)) (k := ?_)
                | fail)
              | ((fail_if_success (first | refine is_ucall ?_ | refine is_umcall ?_)); first | refine W1 ?_ | refine Wc ?_ | refine W2c ?_ ?_ | refine Wg ?_ | refine W2 ?_ ?_ | exact Wdead | refine Wlive (fun hb => ?_) | intro _ _ _ _ _ _ _ _ | refine We ?_ | refine Wx ?_ | refine Wt ?_ | refine Wm ?_ | refine W2m ?_ ?_ | refine Wl ?_)
              | fail)
            refine st_callP (h := hF) (k := ?_)
            refine OpsJ.normA ?_
            repeat' (first
              | (refine is_ucall ?_; first
                | refine st_callP (h := awake_spec _ _ _) (k := ?_)
                | refine st_callP (h := ThinZ_spec _ _ _ m s1 s2 s3 s4 (hm.ext extA)) (k := ?_)
                | fail)
              | (refine is_umcall ?_; first
                | refine mj_callP (h := awake_spec _ _ _) (k := ?_)
                | refine mj_callP (h := ThinZ_spec _ _ _ m s1 s2 s3 s4 (hm.ext extA)) (k := ?_)
                | fail)
              | ((fail_if_success (first | refine is_ucall ?_ | refine is_umcall ?_)); first | refine W1 ?_ | refine Wc ?_ | refine W2c ?_ ?_ | refine Wg ?_ | refine W2 ?_ ?_ | exact Wdead | refine Wlive (fun hb => ?_) | intro _ _ _ _ _ _ _ _ | refine We ?_ | refine Wx ?_ | refine Wt ?_ | refine Wm ?_ | refine W2m ?_ ?_ | refine Wl ?_)
              | fail)
            refine st_callP (h := hIn) (k := ?_)
            clear hF hE hIn
            refine OpsJ.normA ?_
            repeat' (first
              | (refine is_ucall ?_; first
                | refine st_callP (h := awake_spec _ _ _) (k := ?_)
                | refine st_callP (h := ThinZ_spec _ _ _ m s1 s2 s3 s4 (hm.ext extA)) (k := ?_)
                | fail)
              | (refine is_umcall ?_; first
                | refine mj_callP (h := awake_spec _ _ _) (k := ?_)
                | refine mj_callP (h := ThinZ_spec _ _ _ m s1 s2 s3 s4 (hm.ext extA)) (k := ?_)
                | fail)
              | ((fail_if_success (first | refine is_ucall ?_ | refine is_umcall ?_)); first | refine W1 ?_ | refine Wc ?_ | refine W2c ?_ ?_ | refine Wg ?_ | refine W2 ?_ ?_ | exact Wdead | refine Wlive (fun hb => ?_) | intro _ _ _ _ _ _ _ _ | refine We ?_ | refine Wx ?_ | refine Wt ?_ | refine Wm ?_ | refine W2m ?_ ?_ | refine Wl ?_)
              | fail)
            refine WPJ.draw 28 mixed (by kernel_rfl) (by kernel_rfl) (by kernel_rfl) (by decide) ?_
            refine MonoJ.normA ?_
            repeat' (first
              | (refine is_ucall ?_; first
                | refine st_callP (h := awake_spec _ _ _) (k := ?_)
                | refine st_callP (h := ThinZ_spec _ _ _ m s1 s2 s3 s4 (hm.ext extA)) (k := ?_)
                | fail)
              | (refine is_umcall ?_; first
                | refine mj_callP (h := awake_spec _ _ _) (k := ?_)
                | refine mj_callP (h := ThinZ_spec _ _ _ m s1 s2 s3 s4 (hm.ext extA)) (k := ?_)
                | fail)
              | ((fail_if_success (first | refine is_ucall ?_ | refine is_umcall ?_)); first | refine W1 ?_ | refine Wc ?_ | refine W2c ?_ ?_ | refine Wg ?_ | refine W2 ?_ ?_ | exact Wdead | refine Wlive (fun hb => ?_) | intro _ _ _ _ _ _ _ _ | refine We ?_ | refine Wx ?_ | refine Wt ?_ | refine Wm ?_ | refine W2m ?_ ?_ | refine Wl ?_)
              | fail)
            refine mj_callL (h := Sum1_spec _ _ _ s2 lv m.want l (hI.ext x4).want (hr.ext x4) hfl (by omega) hwp hG.wn hlb) (k := ?_)
            have hW1 := hWh _ ⟨_, rfl⟩ (rd_addL H4 m l hfl)
            refine MonoJ.normA ?_
            repeat' (first
              | (refine is_ucall ?_; first
                | refine st_callP (h := awake_spec _ _ _) (k := ?_)
                | refine st_callP (h := ThinZ_spec _ _ _ m s1 s2 s3 s4 (hm.ext extA)) (k := ?_)
                | fail)
              | (refine is_umcall ?_; first
                | refine mj_callP (h := awake_spec _ _ _) (k := ?_)
                | refine mj_callP (h := ThinZ_spec _ _ _ m s1 s2 s3 s4 (hm.ext extA)) (k := ?_)
                | fail)
              | ((fail_if_success (first | refine is_ucall ?_ | refine is_umcall ?_)); first | refine W1 ?_ | refine Wc ?_ | refine W2c ?_ ?_ | refine Wg ?_ | refine W2 ?_ ?_ | exact Wdead | refine Wlive (fun hb => ?_) | intro _ _ _ _ _ _ _ _ | refine We ?_ | refine Wx ?_ | refine Wt ?_ | refine Wm ?_ | refine W2m ?_ ?_ | refine Wl ?_)
              | fail)
            refine mj_callP (ha := rfl) (h := hW1) (k := ?_)
            clear hW1 hWh
            generalize moreV m l = mv at *
            refine MonoJ.normA ?_
            repeat' (first
              | (refine is_ucall ?_; first
                | refine st_callP (h := awake_spec _ _ _) (k := ?_)
                | refine st_callP (h := ThinZ_spec _ _ _ m s1 s2 s3 s4 (hm.ext extA)) (k := ?_)
                | fail)
              | (refine is_umcall ?_; first
                | refine mj_callP (h := awake_spec _ _ _) (k := ?_)
                | refine mj_callP (h := ThinZ_spec _ _ _ m s1 s2 s3 s4 (hm.ext extA)) (k := ?_)
                | fail)
              | ((fail_if_success (first | refine is_ucall ?_ | refine is_umcall ?_)); first | refine W1 ?_ | refine Wc ?_ | refine W2c ?_ ?_ | refine Wg ?_ | refine W2 ?_ ?_ | exact Wdead | refine Wlive (fun hb => ?_) | intro _ _ _ _ _ _ _ _ | refine We ?_ | refine Wx ?_ | refine Wt ?_ | refine Wm ?_ | refine W2m ?_ ?_ | refine Wl ?_)
              | fail)
            all_goals try exact absurd trivial (by assumption)
            all_goals try exact absurd rfl (by assumption)
            refine st_call rfl (SpareR_spec E _ _ m s1 s2 s3 s4 tv (hI.ext (x4.app _)).y hG ((hts rfl).ext ⟨_, rfl⟩) k hkb) ?_
            rintro _ H5 g5 ⟨⟨rfl, e5⟩, rfl⟩
            have x5 : Ext H H5 := Ext.trans (x4.app _) e5
            have hsp := (spareS_bd m k 20).1
            rw [best_spare hG k 20 (Nat.le_refl _), hk, if_pos rfl]
            refine OpsJ.normA ?_
            repeat' (first
              | (refine is_ucall ?_; first
                | refine st_callP (h := awake_spec _ _ _) (k := ?_)
                | refine st_callP (h := ThinZ_spec _ _ _ m s1 s2 s3 s4 (hm.ext extA)) (k := ?_)
                | fail)
              | (refine is_umcall ?_; first
                | refine mj_callP (h := awake_spec _ _ _) (k := ?_)
                | refine mj_callP (h := ThinZ_spec _ _ _ m s1 s2 s3 s4 (hm.ext extA)) (k := ?_)
                | fail)
              | ((fail_if_success (first | refine is_ucall ?_ | refine is_umcall ?_)); first | refine W1 ?_ | refine Wc ?_ | refine W2c ?_ ?_ | refine Wg ?_ | refine W2 ?_ ?_ | exact Wdead | refine Wlive (fun hb => ?_) | intro _ _ _ _ _ _ _ _ | refine We ?_ | refine Wx ?_ | refine Wt ?_ | refine Wm ?_ | refine W2m ?_ ?_ | refine Wl ?_)
              | fail)
            all_goals first | exact ⟨rfl, rfl, rfl⟩ | exact absurd trivial (by assumption) | exact absurd rfl (by assumption) | trace_state
end
end Go.Proofs.Ytjbiidlmpaibkaa
