import Derived.Test.YtehobnpoeodhkaaRz
import Derived.Test.YtehobnpoeodhkaaV9
namespace Go.Proofs.Ytehobnpoeodhkaa
open Go Go.Abs Go.Proofs
set_option maxHeartbeats 4000000
set_option maxRecDepth 20000
attribute [local irreducible] CallJ OpsJ WPJ CallV MonoJ SpecJ

theorem rd_enc9 {H : AHeap} {i cap : Nat} {cs : List Value} {own : Bool} {l : List Int} (hi : H[i]? = some (.row cs 1 own)) (ht : cs.take l.length = encE l) : RdS H (.slice (some ⟨i, 0, none⟩) l.length cap) 1 (encI l) := by
  have h1 : (encE l).length = l.length := by simp [encE]
  have h2 : l.length ≤ cs.length := by have := congrArg List.length ht; rw [List.length_take, h1] at this; omega
  refine ⟨fun x hx => by obtain ⟨a, _, rfl⟩ := List.mem_map.1 hx; rfl, .inl ⟨i, 0, cap, cs, 1, own, by simp, hi, by simp; omega, ?_⟩⟩
  rw [List.drop_zero, encI_eq, enc1_flat]
  simpa using ht
section
variable {γ : Type} (E : Env γ) (g : γ) (H : AHeap)
theorem FirstC (m : HouseM) (s1 s2 s3 : Value) (a e : Int) (ha : firstV m = a) (he : firstE m = e) (hm : HouseIs H m s1 s2 s3) : CallJ Try.prog E 52 [hv m s1 s2 s3] (fun v H' g' => v = .tuple #[.int .i64 a, .int .i64 e] ∧ H' = H ∧ g' = g) H g := by
  rw [← ha, ← he]; exact First_spec E g H m s1 s2 s3 hm
theorem FirstRefC (m : HouseM) (s1 s2 s3 : Value) (r : Int) (hr : firstR m = r) (hm : HouseIs H m s1 s2 s3) (hG : Good m) : CallJ Try.prog E 56 [hv m s1 s2 s3] (fun v H' g' => v = .int .i64 r ∧ H' = H ∧ g' = g) H g := by
  rw [← hr]; exact FirstRef E g H m s1 s2 s3 hm hG
theorem LeaveX (m : HouseM) (s1 s2 s3 : Value) (c : Int) (hc : checkS m = c) (hS : c ≠ 0) (hm : HouseIs H m s1 s2 s3) : CallJ Try.prog E 53 [hv m s1 s2 s3] (fun v H' g' => v = .tuple #[.slice none 0 0, .int .i64 c] ∧ H' = H ∧ g' = g) H g :=
  (Leave_spec E g H m s1 s2 s3 hm).mono (by
    rintro v H' g' ⟨h, rfl⟩
    unfold LeaveA at h
    rw [if_neg (by rw [hc]; exact hS), hc] at h
    exact ⟨h.1, h.2, rfl⟩)
theorem ints_same (sv tv : Value) (a : List Int) (ha : RdS H sv 1 (encI a)) (hb : RdS H tv 1 (encI a)) (hn : a.length ≤ 1000000) : CallJ Try.prog E 54 [sv, tv] (fun v H' g' => v = .bool true ∧ H' = H ∧ g' = g) H g := by
  have h := ints_spec E g H sv tv a a ha hb hn hn
  rw [decide_eq_true rfl] at h
  exact h
theorem LeaveR9 (m : HouseM) (s1 s2 s3 : Value) (hS : checkS m = 0) (hm : HouseIs H m s1 s2 s3) : CallJ Try.prog E 53 [hv m s1 s2 s3] (fun v H' g' => (∃ sv, v = .tuple #[sv, .int .i64 0] ∧ RdS H' sv 1 (encI (leaveS m)) ∧ Ext H H') ∧ g' = g) H g :=
  (Leave_spec E g H m s1 s2 s3 hm).mono (by
    rintro v H' g' ⟨h, rfl⟩
    unfold LeaveA at h
    rw [if_pos hS] at h
    rcases h with ⟨h0, rfl, rfl⟩ | ⟨cs, cap, rfl, rfl, ht, _⟩
    · exact ⟨⟨_, rfl, by rw [h0]; exact ⟨by simp, .inr ⟨rfl, .inl rfl⟩⟩, Ext.refl _⟩, rfl⟩
    · exact ⟨⟨_, rfl, rd_enc9 List.getElem?_concat_length ht, ⟨_, rfl⟩⟩, rfl⟩)
theorem faultC9 (m : HouseM) (s1 s2 s3 : Value) (c : Int) (hc : checkS m = c) (hm : HouseIs H m s1 s2 s3) : CallJ Try.prog E 29 [hv m s1 s2 s3] (fun v H' g' => v = .int .i64 c ∧ H' = H ∧ g' = g) H g := by
  rw [← hc]; exact fault_spec E g H m s1 s2 s3 hm
theorem leaves_law (m : HouseM) (s1 s2 s3 : Value) (hm : HouseW H m s1 s2 s3) : CallJ Try.prog E 9 [hv m s1 s2 s3] (fun v H' g' => v = .bool true ∧ H' = H ∧ g' = g) H g := by
  have hok : [Value.int .i64 m.hour, Value.int .i64 m.grace, s1, s2, s3].all cellOk = true := by have := hm.ok; simp [cellOk] at this ⊢; exact this
  refine CallJ.tidy ?_
  unfold hv
  refine CallJ.enter Try.func9 rfl (by simp only [Try.ntmps9, List.length_cons, List.length_nil, Nat.zero_add, Nat.reduceSub, List.replicate_succ, List.replicate_zero, List.cons_append, List.nil_append]; rfl) ?_
  repeat' (first
    | (refine is_ucall ?_; first
      | refine st_callP (h := ThinW_spec _ _ _ m s1 s2 s3 (hm.ext extA)) (k := ?_)
      | refine st_callP (h := awake_spec _ _ _) (k := ?_)
      | refine st_callP (h := faultC9 _ _ _ m s1 s2 s3 _ hc (hI.ext extA)) (k := ?_)
      | refine st_callP (h := FirstC _ _ _ m t1 t2 t3 _ _ hfa hfe (hm1.ext extA)) (k := ?_)
      | refine st_callP (h := LeaveX _ _ _ m u1 u2 u3 _ hc hS (hm2.ext extA)) (k := ?_)
      | refine st_callP (h := FirstRefC _ _ _ m s1 s2 s3 _ hfr (hI.ext extA) hG) (k := ?_)
      | refine st_callP (h := ints_same _ _ _ qv rv _ (hq.ext extA) (hqr.ext extA) hll) (k := ?_)
      | fail)
    | (refine is_umcall ?_; first
      | refine mj_callP (h := ThinW_spec _ _ _ m s1 s2 s3 (hm.ext extA)) (k := ?_)
      | refine mj_callP (h := awake_spec _ _ _) (k := ?_)
      | refine mj_callP (h := faultC9 _ _ _ m s1 s2 s3 _ hc (hI.ext extA)) (k := ?_)
      | refine mj_callP (h := FirstC _ _ _ m t1 t2 t3 _ _ hfa hfe (hm1.ext extA)) (k := ?_)
      | refine mj_callP (h := LeaveX _ _ _ m u1 u2 u3 _ hc hS (hm2.ext extA)) (k := ?_)
      | refine mj_callP (h := FirstRefC _ _ _ m s1 s2 s3 _ hfr (hI.ext extA) hG) (k := ?_)
      | refine mj_callP (h := ints_same _ _ _ qv rv _ (hq.ext extA) (hqr.ext extA) hll) (k := ?_)
      | fail)
    | refine W1 ?_ | refine Wc ?_ | refine W2c ?_ ?_ | refine Wg ?_ | refine W2 ?_ ?_ | exact Wdead | refine Wlive (fun hb => ?_) | intro _ _ _ _ _ _ _ _ | refine We ?_ | refine Wx ?_ | refine Wt ?_ | refine Wm ?_ | refine W2m ?_ ?_ | refine Wl ?_
    | fail)
  · exact ⟨rfl, rfl, rfl⟩
  · have ht : thinS m = true := by assumption
    have hI := hm.is ht
    obtain ⟨c, hc⟩ : ∃ c, checkS m = c := ⟨_, rfl⟩
    refine st_call rfl (House_w E _ _ m s1 s2 s3 (hI.ext extA) ht) ?_
    rintro _ H1 g1 ⟨⟨t1, t2, t3, rfl, hm1, e1⟩, rfl⟩
    have x1 : Ext H H1 := Ext.trans extA e1
    have hb1 : H1[H.length]? = some (.row [.int .i64 m.hour, .int .i64 m.grace, s1, s2, s3] 1 true) := e1.get getA
    by_cases hS : c = 0
    · subst hS
      have hG := good_of hc
      have hll : (leaveS m).length ≤ 1000000 := by
        rw [← best_eq hG]; exact best_len hG (Nat.le_refl _)
      have hn3 := hG.n3
      have key : ∃ (a e r : Int), firstV m = a ∧ firstE m = e ∧ firstR m = r ∧ ((0 ≤ r ∧ a = r ∧ e = 0) ∨ (r = -1 ∧ a = 0 ∧ e = 7)) := by
        refine ⟨_, _, _, rfl, rfl, rfl, ?_⟩
        unfold firstV firstE firstR
        rw [if_pos hc, if_pos hc]
        cases firstA m with
        | none => exact .inr ⟨rfl, rfl, rfl⟩
        | some k => exact .inl ⟨Int.natCast_nonneg k, rfl, rfl⟩
      obtain ⟨a, e, r, hfa, hfe, hfr, key⟩ := key
      refine OpsJ.normA ?_
      repeat' (first
        | (refine is_ucall ?_; first
          | refine st_callP (h := ThinW_spec _ _ _ m s1 s2 s3 (hm.ext extA)) (k := ?_)
          | refine st_callP (h := awake_spec _ _ _) (k := ?_)
          | refine st_callP (h := faultC9 _ _ _ m s1 s2 s3 _ hc (hI.ext extA)) (k := ?_)
          | refine st_callP (h := FirstC _ _ _ m t1 t2 t3 _ _ hfa hfe (hm1.ext extA)) (k := ?_)
          | refine st_callP (h := LeaveX _ _ _ m u1 u2 u3 _ hc hS (hm2.ext extA)) (k := ?_)
          | refine st_callP (h := FirstRefC _ _ _ m s1 s2 s3 _ hfr (hI.ext extA) hG) (k := ?_)
          | refine st_callP (h := ints_same _ _ _ qv rv _ (hq.ext extA) (hqr.ext extA) hll) (k := ?_)
          | fail)
        | (refine is_umcall ?_; first
          | refine mj_callP (h := ThinW_spec _ _ _ m s1 s2 s3 (hm.ext extA)) (k := ?_)
          | refine mj_callP (h := awake_spec _ _ _) (k := ?_)
          | refine mj_callP (h := faultC9 _ _ _ m s1 s2 s3 _ hc (hI.ext extA)) (k := ?_)
          | refine mj_callP (h := FirstC _ _ _ m t1 t2 t3 _ _ hfa hfe (hm1.ext extA)) (k := ?_)
          | refine mj_callP (h := LeaveX _ _ _ m u1 u2 u3 _ hc hS (hm2.ext extA)) (k := ?_)
          | refine mj_callP (h := FirstRefC _ _ _ m s1 s2 s3 _ hfr (hI.ext extA) hG) (k := ?_)
          | refine mj_callP (h := ints_same _ _ _ qv rv _ (hq.ext extA) (hqr.ext extA) hll) (k := ?_)
          | fail)
        | refine W1 ?_ | refine Wc ?_ | refine W2c ?_ ?_ | refine Wg ?_ | refine W2 ?_ ?_ | exact Wdead | refine Wlive (fun hb => ?_) | intro _ _ _ _ _ _ _ _ | refine We ?_ | refine Wx ?_ | refine Wt ?_ | refine Wm ?_ | refine W2m ?_ ?_ | refine Wl ?_
        | fail)
      refine st_call rfl (House_w E _ _ m s1 s2 s3 (hI.ext x1) ht) ?_
      rintro _ H2 g2 ⟨⟨u1, u2, u3, rfl, hm2, e2⟩, rfl⟩
      have x2 : Ext H H2 := x1.trans e2
      have hb2 := e2.get hb1
      refine OpsJ.normA ?_
      repeat' (first
        | (refine is_ucall ?_; first
          | refine st_callP (h := ThinW_spec _ _ _ m s1 s2 s3 (hm.ext extA)) (k := ?_)
          | refine st_callP (h := awake_spec _ _ _) (k := ?_)
          | refine st_callP (h := faultC9 _ _ _ m s1 s2 s3 _ hc (hI.ext extA)) (k := ?_)
          | refine st_callP (h := FirstC _ _ _ m t1 t2 t3 _ _ hfa hfe (hm1.ext extA)) (k := ?_)
          | refine st_callP (h := LeaveX _ _ _ m u1 u2 u3 _ hc hS (hm2.ext extA)) (k := ?_)
          | refine st_callP (h := FirstRefC _ _ _ m s1 s2 s3 _ hfr (hI.ext extA) hG) (k := ?_)
          | refine st_callP (h := ints_same _ _ _ qv rv _ (hq.ext extA) (hqr.ext extA) hll) (k := ?_)
          | fail)
        | (refine is_umcall ?_; first
          | refine mj_callP (h := ThinW_spec _ _ _ m s1 s2 s3 (hm.ext extA)) (k := ?_)
          | refine mj_callP (h := awake_spec _ _ _) (k := ?_)
          | refine mj_callP (h := faultC9 _ _ _ m s1 s2 s3 _ hc (hI.ext extA)) (k := ?_)
          | refine mj_callP (h := FirstC _ _ _ m t1 t2 t3 _ _ hfa hfe (hm1.ext extA)) (k := ?_)
          | refine mj_callP (h := LeaveX _ _ _ m u1 u2 u3 _ hc hS (hm2.ext extA)) (k := ?_)
          | refine mj_callP (h := FirstRefC _ _ _ m s1 s2 s3 _ hfr (hI.ext extA) hG) (k := ?_)
          | refine mj_callP (h := ints_same _ _ _ qv rv _ (hq.ext extA) (hqr.ext extA) hll) (k := ?_)
          | fail)
        | refine W1 ?_ | refine Wc ?_ | refine W2c ?_ ?_ | refine Wg ?_ | refine W2 ?_ ?_ | exact Wdead | refine Wlive (fun hb => ?_) | intro _ _ _ _ _ _ _ _ | refine We ?_ | refine Wx ?_ | refine Wt ?_ | refine Wm ?_ | refine W2m ?_ ?_ | refine Wl ?_
        | fail)
      refine st_call rfl (LeaveR9 E _ _ m u1 u2 u3 hc (hm2.ext extA)) ?_
      rintro _ H3 g3 ⟨⟨qv, rfl, hq, e3⟩, rfl⟩
      have x3 : Ext H H3 := x2.trans e3
      have hb3 := e3.get hb2
      clear hm1 hm2 e1 e2 e3 x1 x2 hb1 hb2
      refine OpsJ.normA ?_
      repeat' (first
        | (refine is_ucall ?_; first
          | refine st_callP (h := ThinW_spec _ _ _ m s1 s2 s3 (hm.ext extA)) (k := ?_)
          | refine st_callP (h := awake_spec _ _ _) (k := ?_)
          | refine st_callP (h := faultC9 _ _ _ m s1 s2 s3 _ hc (hI.ext extA)) (k := ?_)
          | refine st_callP (h := FirstC _ _ _ m t1 t2 t3 _ _ hfa hfe (hm1.ext extA)) (k := ?_)
          | refine st_callP (h := LeaveX _ _ _ m u1 u2 u3 _ hc hS (hm2.ext extA)) (k := ?_)
          | refine st_callP (h := FirstRefC _ _ _ m s1 s2 s3 _ hfr (hI.ext extA) hG) (k := ?_)
          | refine st_callP (h := ints_same _ _ _ qv rv _ (hq.ext extA) (hqr.ext extA) hll) (k := ?_)
          | fail)
        | (refine is_umcall ?_; first
          | refine mj_callP (h := ThinW_spec _ _ _ m s1 s2 s3 (hm.ext extA)) (k := ?_)
          | refine mj_callP (h := awake_spec _ _ _) (k := ?_)
          | refine mj_callP (h := faultC9 _ _ _ m s1 s2 s3 _ hc (hI.ext extA)) (k := ?_)
          | refine mj_callP (h := FirstC _ _ _ m t1 t2 t3 _ _ hfa hfe (hm1.ext extA)) (k := ?_)
          | refine mj_callP (h := LeaveX _ _ _ m u1 u2 u3 _ hc hS (hm2.ext extA)) (k := ?_)
          | refine mj_callP (h := FirstRefC _ _ _ m s1 s2 s3 _ hfr (hI.ext extA) hG) (k := ?_)
          | refine mj_callP (h := ints_same _ _ _ qv rv _ (hq.ext extA) (hqr.ext extA) hll) (k := ?_)
          | fail)
        | refine W1 ?_ | refine Wc ?_ | refine W2c ?_ ?_ | refine Wg ?_ | refine W2 ?_ ?_ | exact Wdead | refine Wlive (fun hb => ?_) | intro _ _ _ _ _ _ _ _ | refine We ?_ | refine Wx ?_ | refine Wt ?_ | refine Wm ?_ | refine W2m ?_ ?_ | refine Wl ?_
        | fail)
      refine st_call rfl (LeaveRef E _ _ m s1 s2 s3 (hI.ext x3) hG) ?_
      rintro rv H4 g4 ⟨⟨hqr, e4⟩, rfl⟩
      have x4 : Ext H H4 := x3.trans e4
      have hb4 := e4.get hb3
      replace hq := hq.ext e4
      clear e4 x3 hb3
      refine OpsJ.normA ?_
      rcases key with ⟨h1, rfl, rfl⟩ | ⟨rfl, rfl, rfl⟩
      · skip
        repeat' (first
          | (refine is_ucall ?_; first
            | refine st_callP (h := ThinW_spec _ _ _ m s1 s2 s3 (hm.ext extA)) (k := ?_)
            | refine st_callP (h := awake_spec _ _ _) (k := ?_)
            | refine st_callP (h := faultC9 _ _ _ m s1 s2 s3 _ hc (hI.ext extA)) (k := ?_)
            | refine st_callP (h := FirstC _ _ _ m t1 t2 t3 _ _ hfa hfe (hm1.ext extA)) (k := ?_)
            | refine st_callP (h := LeaveX _ _ _ m u1 u2 u3 _ hc hS (hm2.ext extA)) (k := ?_)
            | refine st_callP (h := FirstRefC _ _ _ m s1 s2 s3 _ hfr (hI.ext extA) hG) (k := ?_)
            | refine st_callP (h := ints_same _ _ _ qv rv _ (hq.ext extA) (hqr.ext extA) hll) (k := ?_)
            | fail)
          | (refine is_umcall ?_; first
            | refine mj_callP (h := ThinW_spec _ _ _ m s1 s2 s3 (hm.ext extA)) (k := ?_)
            | refine mj_callP (h := awake_spec _ _ _) (k := ?_)
            | refine mj_callP (h := faultC9 _ _ _ m s1 s2 s3 _ hc (hI.ext extA)) (k := ?_)
            | refine mj_callP (h := FirstC _ _ _ m t1 t2 t3 _ _ hfa hfe (hm1.ext extA)) (k := ?_)
            | refine mj_callP (h := LeaveX _ _ _ m u1 u2 u3 _ hc hS (hm2.ext extA)) (k := ?_)
            | refine mj_callP (h := FirstRefC _ _ _ m s1 s2 s3 _ hfr (hI.ext extA) hG) (k := ?_)
            | refine mj_callP (h := ints_same _ _ _ qv rv _ (hq.ext extA) (hqr.ext extA) hll) (k := ?_)
            | fail)
          | refine W1 ?_ | refine Wc ?_ | refine W2c ?_ ?_ | refine Wg ?_ | refine W2 ?_ ?_ | exact Wdead | refine Wlive (fun hb => ?_) | intro _ _ _ _ _ _ _ _ | refine We ?_ | refine Wx ?_ | refine Wt ?_ | refine Wm ?_ | refine W2m ?_ ?_ | refine Wl ?_
          | fail)
        all_goals first | exact ⟨rfl, rfl, rfl⟩ | (refine absurd trivial ?_; assumption)
      · skip
        repeat' (first
          | (refine is_ucall ?_; first
            | refine st_callP (h := ThinW_spec _ _ _ m s1 s2 s3 (hm.ext extA)) (k := ?_)
            | refine st_callP (h := awake_spec _ _ _) (k := ?_)
            | refine st_callP (h := faultC9 _ _ _ m s1 s2 s3 _ hc (hI.ext extA)) (k := ?_)
            | refine st_callP (h := FirstC _ _ _ m t1 t2 t3 _ _ hfa hfe (hm1.ext extA)) (k := ?_)
            | refine st_callP (h := LeaveX _ _ _ m u1 u2 u3 _ hc hS (hm2.ext extA)) (k := ?_)
            | refine st_callP (h := FirstRefC _ _ _ m s1 s2 s3 _ hfr (hI.ext extA) hG) (k := ?_)
            | refine st_callP (h := ints_same _ _ _ qv rv _ (hq.ext extA) (hqr.ext extA) hll) (k := ?_)
            | fail)
          | (refine is_umcall ?_; first
            | refine mj_callP (h := ThinW_spec _ _ _ m s1 s2 s3 (hm.ext extA)) (k := ?_)
            | refine mj_callP (h := awake_spec _ _ _) (k := ?_)
            | refine mj_callP (h := faultC9 _ _ _ m s1 s2 s3 _ hc (hI.ext extA)) (k := ?_)
            | refine mj_callP (h := FirstC _ _ _ m t1 t2 t3 _ _ hfa hfe (hm1.ext extA)) (k := ?_)
            | refine mj_callP (h := LeaveX _ _ _ m u1 u2 u3 _ hc hS (hm2.ext extA)) (k := ?_)
            | refine mj_callP (h := FirstRefC _ _ _ m s1 s2 s3 _ hfr (hI.ext extA) hG) (k := ?_)
            | refine mj_callP (h := ints_same _ _ _ qv rv _ (hq.ext extA) (hqr.ext extA) hll) (k := ?_)
            | fail)
          | refine W1 ?_ | refine Wc ?_ | refine W2c ?_ ?_ | refine Wg ?_ | refine W2 ?_ ?_ | exact Wdead | refine Wlive (fun hb => ?_) | intro _ _ _ _ _ _ _ _ | refine We ?_ | refine Wx ?_ | refine Wt ?_ | refine Wm ?_ | refine W2m ?_ ?_ | refine Wl ?_
          | fail)
        all_goals first | exact ⟨rfl, rfl, rfl⟩ | (refine absurd trivial ?_; assumption)
    · obtain ⟨a, hfa, ha⟩ : ∃ a, firstV m = a ∧ a = 0 := ⟨_, rfl, by unfold firstV; rw [if_neg (by rw [hc]; exact hS)]⟩
      obtain ⟨e, hfe, he⟩ : ∃ e, firstE m = e ∧ e = c := ⟨_, rfl, by unfold firstE; rw [if_neg (by rw [hc]; exact hS), hc]⟩
      subst ha he
      refine OpsJ.normA ?_
      repeat' (first
        | (refine is_ucall ?_; first
          | refine st_callP (h := ThinW_spec _ _ _ m s1 s2 s3 (hm.ext extA)) (k := ?_)
          | refine st_callP (h := awake_spec _ _ _) (k := ?_)
          | refine st_callP (h := faultC9 _ _ _ m s1 s2 s3 _ hc (hI.ext extA)) (k := ?_)
          | refine st_callP (h := FirstC _ _ _ m t1 t2 t3 _ _ hfa hfe (hm1.ext extA)) (k := ?_)
          | refine st_callP (h := LeaveX _ _ _ m u1 u2 u3 _ hc hS (hm2.ext extA)) (k := ?_)
          | refine st_callP (h := FirstRefC _ _ _ m s1 s2 s3 _ hfr (hI.ext extA) hG) (k := ?_)
          | refine st_callP (h := ints_same _ _ _ qv rv _ (hq.ext extA) (hqr.ext extA) hll) (k := ?_)
          | fail)
        | (refine is_umcall ?_; first
          | refine mj_callP (h := ThinW_spec _ _ _ m s1 s2 s3 (hm.ext extA)) (k := ?_)
          | refine mj_callP (h := awake_spec _ _ _) (k := ?_)
          | refine mj_callP (h := faultC9 _ _ _ m s1 s2 s3 _ hc (hI.ext extA)) (k := ?_)
          | refine mj_callP (h := FirstC _ _ _ m t1 t2 t3 _ _ hfa hfe (hm1.ext extA)) (k := ?_)
          | refine mj_callP (h := LeaveX _ _ _ m u1 u2 u3 _ hc hS (hm2.ext extA)) (k := ?_)
          | refine mj_callP (h := FirstRefC _ _ _ m s1 s2 s3 _ hfr (hI.ext extA) hG) (k := ?_)
          | refine mj_callP (h := ints_same _ _ _ qv rv _ (hq.ext extA) (hqr.ext extA) hll) (k := ?_)
          | fail)
        | refine W1 ?_ | refine Wc ?_ | refine W2c ?_ ?_ | refine Wg ?_ | refine W2 ?_ ?_ | exact Wdead | refine Wlive (fun hb => ?_) | intro _ _ _ _ _ _ _ _ | refine We ?_ | refine Wx ?_ | refine Wt ?_ | refine Wm ?_ | refine W2m ?_ ?_ | refine Wl ?_
        | fail)
      refine st_call rfl (House_w E _ _ m s1 s2 s3 (hI.ext x1) ht) ?_
      rintro _ H2 g2 ⟨⟨u1, u2, u3, rfl, hm2, e2⟩, rfl⟩
      have x2 : Ext H H2 := x1.trans e2
      have hb2 := e2.get hb1
      refine OpsJ.normA ?_
      repeat' (first
        | (refine is_ucall ?_; first
          | refine st_callP (h := ThinW_spec _ _ _ m s1 s2 s3 (hm.ext extA)) (k := ?_)
          | refine st_callP (h := awake_spec _ _ _) (k := ?_)
          | refine st_callP (h := faultC9 _ _ _ m s1 s2 s3 _ hc (hI.ext extA)) (k := ?_)
          | refine st_callP (h := FirstC _ _ _ m t1 t2 t3 _ _ hfa hfe (hm1.ext extA)) (k := ?_)
          | refine st_callP (h := LeaveX _ _ _ m u1 u2 u3 _ hc hS (hm2.ext extA)) (k := ?_)
          | refine st_callP (h := FirstRefC _ _ _ m s1 s2 s3 _ hfr (hI.ext extA) hG) (k := ?_)
          | refine st_callP (h := ints_same _ _ _ qv rv _ (hq.ext extA) (hqr.ext extA) hll) (k := ?_)
          | fail)
        | (refine is_umcall ?_; first
          | refine mj_callP (h := ThinW_spec _ _ _ m s1 s2 s3 (hm.ext extA)) (k := ?_)
          | refine mj_callP (h := awake_spec _ _ _) (k := ?_)
          | refine mj_callP (h := faultC9 _ _ _ m s1 s2 s3 _ hc (hI.ext extA)) (k := ?_)
          | refine mj_callP (h := FirstC _ _ _ m t1 t2 t3 _ _ hfa hfe (hm1.ext extA)) (k := ?_)
          | refine mj_callP (h := LeaveX _ _ _ m u1 u2 u3 _ hc hS (hm2.ext extA)) (k := ?_)
          | refine mj_callP (h := FirstRefC _ _ _ m s1 s2 s3 _ hfr (hI.ext extA) hG) (k := ?_)
          | refine mj_callP (h := ints_same _ _ _ qv rv _ (hq.ext extA) (hqr.ext extA) hll) (k := ?_)
          | fail)
        | refine W1 ?_ | refine Wc ?_ | refine W2c ?_ ?_ | refine Wg ?_ | refine W2 ?_ ?_ | exact Wdead | refine Wlive (fun hb => ?_) | intro _ _ _ _ _ _ _ _ | refine We ?_ | refine Wx ?_ | refine Wt ?_ | refine Wm ?_ | refine W2m ?_ ?_ | refine Wl ?_
        | fail)
      all_goals first | exact ⟨rfl, rfl, rfl⟩ | (refine absurd trivial ?_; assumption)
end
end Go.Proofs.Ytehobnpoeodhkaa
