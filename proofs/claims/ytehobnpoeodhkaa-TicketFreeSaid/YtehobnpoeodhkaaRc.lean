import Derived.Test.YtehobnpoeodhkaaRb
import Derived.Test.YtehobnpoeodhkaaRs
import Derived.Test.YtehobnpoeodhkaaV9
namespace Go.Proofs.Ytehobnpoeodhkaa
open Go Go.Abs Go.Proofs
set_option maxHeartbeats 4000000
set_option maxRecDepth 20000
attribute [local irreducible] CallJ OpsJ WPJ CallV MonoJ SpecJ

section
variable {γ : Type} (E : Env γ) (g : γ) (H : AHeap)
theorem FreeC (m : HouseM) (s1 s2 s3 : Value) (t z : Int) (r : Int × Int) (hz : freeE m t = z) (hr : (if z = 0 then (loS (truthsL m) (freeQ m t), hiS (truthsL m) (freeQ m t)) else (0, 0)) = r) (hm : HouseIs H m s1 s2 s3) : CallJ Try.prog E 47 [hv m s1 s2 s3, .int .i64 t] (fun v H' g' => v = .tuple #[.agg ⟨encR r⟩, .int .i64 z] ∧ H' = H ∧ g' = g) H g :=
  (Free_spec E g H m s1 s2 s3 t hm).mono (by rintro v H' g' ⟨rfl, rfl, rfl⟩; rw [hz, ← hr]; refine ⟨?_, rfl, rfl⟩; split <;> rfl)
theorem IsOpenC (m : HouseM) (s1 s2 s3 : Value) (tub : Int) (b : Bool) (hb : isInUseS m tub m.tickets.length = b) (hm : HouseIs H m s1 s2 s3) (hG : Good m) : CallJ Try.prog E 48 [hv m s1 s2 s3, .int .i64 tub] (fun v H' g' => v = .bool b ∧ H' = H ∧ g' = g) H g := by
  rw [← hb]; exact IsOpen_spec E g H m s1 s2 s3 tub hm hG
theorem FreeRP (m : HouseM) (s1 s2 s3 lv : Value) (t : Int) (r : Int × Int) (hT : checkT m = 0) (hr : (loS (truthsL m) (freeQ m t), hiS (truthsL m) (freeQ m t)) = r) (hm : HouseIs H m s1 s2 s3) (hL : LL H lv (refL m)) : CallJ Try.prog E 49 [hv m s1 s2 s3, lv, .int .i64 t] (fun v H' g' => v = .agg ⟨encR r⟩ ∧ H' = H ∧ g' = g) H g := by
  have hG := good_of (sure_zero hT).1
  rw [← hr, free_eq hT]
  exact FreeR_spec E g H m s1 s2 s3 lv (refL m) t hm hL hG (by have := refL_len m; omega) (ref_isE hG)
theorem free_law (m : HouseM) (s1 s2 s3 : Value) (t : Int) (hm : HouseW H m s1 s2 s3) (_ : -9223372036854775808 ≤ t ∧ t ≤ 9223372036854775807) : CallJ Try.prog E 7 [hv m s1 s2 s3, .int .i64 t] (fun v H' g' => v = .bool true ∧ H' = H ∧ g' = g) H g := by
  have hok : [Value.int .i64 m.hour, Value.int .i64 m.grace, s1, s2, s3].all cellOk = true := by have := hm.ok; simp [cellOk] at this ⊢; exact this
  refine CallJ.tidy ?_
  unfold hv
  refine CallJ.enter Try.func7 rfl (by simp only [Try.ntmps7, List.length_cons, List.length_nil, Nat.zero_add, Nat.reduceAdd, Nat.reduceSub, List.replicate_succ, List.replicate_zero, List.cons_append, List.nil_append]; rfl) ?_
  repeat' (first
    | (refine is_ucall ?_; first
      | refine st_callP (h := ThinW_spec _ _ _ m s1 s2 s3 (hm.ext extA)) (k := ?_)
      | refine st_callP (h := awake_spec _ _ _) (k := ?_)
      | refine st_callP (h := faultC _ _ _ m s1 s2 s3 _ hc (hI.ext extA)) (k := ?_)
      | refine st_callP (h := InX _ _ _ t _ _ _ hbi) (k := ?_)
      | refine st_callP (h := IsOpenC _ _ _ m s1 s2 s3 t _ hbo (hI.ext extA) hG) (k := ?_)
      | refine st_callP (h := FreeRP _ _ _ m s1 s2 s3 lv t _ hT0 hpv (hI.ext extA) (hL0.ext extA)) (k := ?_)
      | refine st_callP (h := to_spec _ _ _ _) (k := ?_)
      | fail)
    | (refine is_umcall ?_; first
      | refine mj_callP (h := ThinW_spec _ _ _ m s1 s2 s3 (hm.ext extA)) (k := ?_)
      | refine mj_callP (h := awake_spec _ _ _) (k := ?_)
      | refine mj_callP (h := faultC _ _ _ m s1 s2 s3 _ hc (hI.ext extA)) (k := ?_)
      | refine mj_callP (h := InX _ _ _ t _ _ _ hbi) (k := ?_)
      | refine mj_callP (h := IsOpenC _ _ _ m s1 s2 s3 t _ hbo (hI.ext extA) hG) (k := ?_)
      | refine mj_callP (h := FreeRP _ _ _ m s1 s2 s3 lv t _ hT0 hpv (hI.ext extA) (hL0.ext extA)) (k := ?_)
      | refine mj_callP (h := to_spec _ _ _ _) (k := ?_)
      | fail)
    | refine W1 ?_ | refine Wc ?_ | refine W2c ?_ ?_ | refine Wg ?_ | refine W2 ?_ ?_ | exact Wdead | refine Wlive (fun hb => ?_) | intro _ _ _ _ _ _ _ _ | refine We ?_ | refine Wx ?_ | refine Wt ?_ | refine Wm ?_ | refine W2m ?_ ?_ | refine Wl ?_
    | fail)
  · exact ⟨rfl, rfl, rfl⟩
  · have ht : thinS m = true := by assumption
    have hI := hm.is ht
    obtain ⟨bi, hbi⟩ : ∃ b, (decide (0 ≤ t) && decide (t ≤ 8)) = b := ⟨_, rfl⟩
    obtain ⟨bo, hbo⟩ : ∃ b, isInUseS m t m.tickets.length = b := ⟨_, rfl⟩
    have key : ∃ (c e z : Int) (r : Int × Int), checkS m = c ∧ checkT m = e ∧ freeE m t = z ∧ (if z = 0 then (loS (truthsL m) (freeQ m t), hiS (truthsL m) (freeQ m t)) else (0, 0)) = r ∧
        ((c ≠ 0 ∧ e = c ∧ z = c ∧ r = (0, 0)) ∨ (c = 0 ∧ bi = false ∧ z = 2 ∧ r = (0, 0)) ∨ (c = 0 ∧ bi = true ∧ ((bo = true ∧ z = 8 ∧ r = (0, 0)) ∨ (bo = false ∧ ((e = 11 ∧ z = 11 ∧ r = (0, 0)) ∨ (e = 0 ∧ z = 0)))))) := by
      refine ⟨_, _, _, _, rfl, rfl, rfl, rfl, ?_⟩
      by_cases hS : checkS m = 0
      · have hcE : freeE m t = if bi = true then (if bo = true then 8 else if hasS m then 0 else 11) else 2 := by unfold freeE; rw [if_pos hS, hbi, hbo]
        have hcT : checkT m = if hasS m then 0 else 11 := by unfold checkT; rw [if_pos hS]
        rw [hcE, hcT]
        cases bi
        · exact .inr (.inl ⟨hS, rfl, rfl, rfl⟩)
        · refine .inr (.inr ⟨hS, rfl, ?_⟩)
          cases bo
          · refine .inr ⟨rfl, ?_⟩
            cases hasS m
            · exact .inl ⟨rfl, rfl, rfl⟩
            · exact .inr ⟨rfl, rfl⟩
          · exact .inl ⟨rfl, rfl, rfl⟩
      · have hcE : freeE m t = checkS m := by unfold freeE; rw [if_neg hS]
        have hcT := checkT_not hS
        exact .inl ⟨hS, hcT, hcE, by rw [hcE, if_neg hS]⟩
    obtain ⟨c, e, z, r, hc, he, hz, hr, key⟩ := key
    refine st_call rfl (House_w E _ _ m s1 s2 s3 (hI.ext extA) ht) ?_
    rintro _ H1 g1 ⟨⟨t1, t2, t3, rfl, hm1, e1⟩, rfl⟩
    have x1 : Ext H H1 := Ext.trans extA e1
    have hb1 : H1[H.length]? = some (.row [.int .i64 m.hour, .int .i64 m.grace, s1, s2, s3] 1 true) := e1.get getA
    refine OpsJ.normA ?_
    repeat' (first
      | (refine is_ucall ?_; first
        | refine st_callP (h := ThinW_spec _ _ _ m s1 s2 s3 (hm.ext extA)) (k := ?_)
        | refine st_callP (h := awake_spec _ _ _) (k := ?_)
        | refine st_callP (h := faultC _ _ _ m s1 s2 s3 _ hc (hI.ext extA)) (k := ?_)
        | refine st_callP (h := InX _ _ _ t _ _ _ hbi) (k := ?_)
        | refine st_callP (h := IsOpenC _ _ _ m s1 s2 s3 t _ hbo (hI.ext extA) hG) (k := ?_)
        | refine st_callP (h := FreeRP _ _ _ m s1 s2 s3 lv t _ hT0 hpv (hI.ext extA) (hL0.ext extA)) (k := ?_)
        | refine st_callP (h := to_spec _ _ _ _) (k := ?_)
        | fail)
      | (refine is_umcall ?_; first
        | refine mj_callP (h := ThinW_spec _ _ _ m s1 s2 s3 (hm.ext extA)) (k := ?_)
        | refine mj_callP (h := awake_spec _ _ _) (k := ?_)
        | refine mj_callP (h := faultC _ _ _ m s1 s2 s3 _ hc (hI.ext extA)) (k := ?_)
        | refine mj_callP (h := InX _ _ _ t _ _ _ hbi) (k := ?_)
        | refine mj_callP (h := IsOpenC _ _ _ m s1 s2 s3 t _ hbo (hI.ext extA) hG) (k := ?_)
        | refine mj_callP (h := FreeRP _ _ _ m s1 s2 s3 lv t _ hT0 hpv (hI.ext extA) (hL0.ext extA)) (k := ?_)
        | refine mj_callP (h := to_spec _ _ _ _) (k := ?_)
        | fail)
      | refine W1 ?_ | refine Wc ?_ | refine W2c ?_ ?_ | refine Wg ?_ | refine W2 ?_ ?_ | exact Wdead | refine Wlive (fun hb => ?_) | intro _ _ _ _ _ _ _ _ | refine We ?_ | refine Wx ?_ | refine Wt ?_ | refine Wm ?_ | refine W2m ?_ ?_ | refine Wl ?_
      | fail)
    refine st_callP (h := FreeC E _ _ m t1 t2 t3 t z r hz hr (hm1.ext extA)) (k := ?_)
    refine OpsJ.normA ?_
    repeat' (first
      | (refine is_ucall ?_; first
        | refine st_callP (h := ThinW_spec _ _ _ m s1 s2 s3 (hm.ext extA)) (k := ?_)
        | refine st_callP (h := awake_spec _ _ _) (k := ?_)
        | refine st_callP (h := faultC _ _ _ m s1 s2 s3 _ hc (hI.ext extA)) (k := ?_)
        | refine st_callP (h := InX _ _ _ t _ _ _ hbi) (k := ?_)
        | refine st_callP (h := IsOpenC _ _ _ m s1 s2 s3 t _ hbo (hI.ext extA) hG) (k := ?_)
        | refine st_callP (h := FreeRP _ _ _ m s1 s2 s3 lv t _ hT0 hpv (hI.ext extA) (hL0.ext extA)) (k := ?_)
        | refine st_callP (h := to_spec _ _ _ _) (k := ?_)
        | fail)
      | (refine is_umcall ?_; first
        | refine mj_callP (h := ThinW_spec _ _ _ m s1 s2 s3 (hm.ext extA)) (k := ?_)
        | refine mj_callP (h := awake_spec _ _ _) (k := ?_)
        | refine mj_callP (h := faultC _ _ _ m s1 s2 s3 _ hc (hI.ext extA)) (k := ?_)
        | refine mj_callP (h := InX _ _ _ t _ _ _ hbi) (k := ?_)
        | refine mj_callP (h := IsOpenC _ _ _ m s1 s2 s3 t _ hbo (hI.ext extA) hG) (k := ?_)
        | refine mj_callP (h := FreeRP _ _ _ m s1 s2 s3 lv t _ hT0 hpv (hI.ext extA) (hL0.ext extA)) (k := ?_)
        | refine mj_callP (h := to_spec _ _ _ _) (k := ?_)
        | fail)
      | refine W1 ?_ | refine Wc ?_ | refine W2c ?_ ?_ | refine Wg ?_ | refine W2 ?_ ?_ | exact Wdead | refine Wlive (fun hb => ?_) | intro _ _ _ _ _ _ _ _ | refine We ?_ | refine Wx ?_ | refine Wt ?_ | refine Wm ?_ | refine W2m ?_ ?_ | refine Wl ?_
      | fail)
    refine st_call rfl (sureX E _ _ m s1 s2 s3 e he (hI.ext (x1.app _))) ?_
    rintro _ H5 g5 ⟨⟨lv, rfl, hL, hLn, e5⟩, rfl⟩
    have x5 : Ext H H5 := (x1.app _).trans e5
    have hb5 := e5.get (get_old hb1)
    have hr5 := e5.get (get_new0 rfl)
    clear e1 e5 hb1 x1 hm1
    refine OpsJ.normA ?_
    rcases key with ⟨hc0, rfl, rfl, rfl⟩ | ⟨rfl, rfl, rfl, rfl⟩ | ⟨rfl, rfl, ⟨rfl, rfl, rfl⟩ | ⟨rfl, ⟨rfl, rfl, rfl⟩ | ⟨rfl, rfl⟩⟩⟩
    · skip
      repeat' (first
        | (refine is_ucall ?_; first
          | refine st_callP (h := ThinW_spec _ _ _ m s1 s2 s3 (hm.ext extA)) (k := ?_)
          | refine st_callP (h := awake_spec _ _ _) (k := ?_)
          | refine st_callP (h := faultC _ _ _ m s1 s2 s3 _ hc (hI.ext extA)) (k := ?_)
          | refine st_callP (h := InX _ _ _ t _ _ _ hbi) (k := ?_)
          | refine st_callP (h := IsOpenC _ _ _ m s1 s2 s3 t _ hbo (hI.ext extA) hG) (k := ?_)
          | refine st_callP (h := FreeRP _ _ _ m s1 s2 s3 lv t _ hT0 hpv (hI.ext extA) (hL0.ext extA)) (k := ?_)
          | refine st_callP (h := to_spec _ _ _ _) (k := ?_)
          | fail)
        | (refine is_umcall ?_; first
          | refine mj_callP (h := ThinW_spec _ _ _ m s1 s2 s3 (hm.ext extA)) (k := ?_)
          | refine mj_callP (h := awake_spec _ _ _) (k := ?_)
          | refine mj_callP (h := faultC _ _ _ m s1 s2 s3 _ hc (hI.ext extA)) (k := ?_)
          | refine mj_callP (h := InX _ _ _ t _ _ _ hbi) (k := ?_)
          | refine mj_callP (h := IsOpenC _ _ _ m s1 s2 s3 t _ hbo (hI.ext extA) hG) (k := ?_)
          | refine mj_callP (h := FreeRP _ _ _ m s1 s2 s3 lv t _ hT0 hpv (hI.ext extA) (hL0.ext extA)) (k := ?_)
          | refine mj_callP (h := to_spec _ _ _ _) (k := ?_)
          | fail)
        | refine W1 ?_ | refine Wc ?_ | refine W2c ?_ ?_ | refine Wg ?_ | refine W2 ?_ ?_ | exact Wdead | refine Wlive (fun hb => ?_) | intro _ _ _ _ _ _ _ _ | refine We ?_ | refine Wx ?_ | refine Wt ?_ | refine Wm ?_ | refine W2m ?_ ?_ | refine Wl ?_
        | fail)
      · refine st_eqI (n := 2) (xs := [0, 0]) (ys := [0, 0]) rfl rfl rfl rfl ?_
        rw [decide_eq_true rfl]
        refine OpsJ.normA ?_
        repeat' (first
          | (refine is_ucall ?_; first
            | refine st_callP (h := ThinW_spec _ _ _ m s1 s2 s3 (hm.ext extA)) (k := ?_)
            | refine st_callP (h := awake_spec _ _ _) (k := ?_)
            | refine st_callP (h := faultC _ _ _ m s1 s2 s3 _ hc (hI.ext extA)) (k := ?_)
            | refine st_callP (h := InX _ _ _ t _ _ _ hbi) (k := ?_)
            | refine st_callP (h := IsOpenC _ _ _ m s1 s2 s3 t _ hbo (hI.ext extA) hG) (k := ?_)
            | refine st_callP (h := FreeRP _ _ _ m s1 s2 s3 lv t _ hT0 hpv (hI.ext extA) (hL0.ext extA)) (k := ?_)
            | refine st_callP (h := to_spec _ _ _ _) (k := ?_)
            | fail)
          | (refine is_umcall ?_; first
            | refine mj_callP (h := ThinW_spec _ _ _ m s1 s2 s3 (hm.ext extA)) (k := ?_)
            | refine mj_callP (h := awake_spec _ _ _) (k := ?_)
            | refine mj_callP (h := faultC _ _ _ m s1 s2 s3 _ hc (hI.ext extA)) (k := ?_)
            | refine mj_callP (h := InX _ _ _ t _ _ _ hbi) (k := ?_)
            | refine mj_callP (h := IsOpenC _ _ _ m s1 s2 s3 t _ hbo (hI.ext extA) hG) (k := ?_)
            | refine mj_callP (h := FreeRP _ _ _ m s1 s2 s3 lv t _ hT0 hpv (hI.ext extA) (hL0.ext extA)) (k := ?_)
            | refine mj_callP (h := to_spec _ _ _ _) (k := ?_)
            | fail)
          | refine W1 ?_ | refine Wc ?_ | refine W2c ?_ ?_ | refine Wg ?_ | refine W2 ?_ ?_ | exact Wdead | refine Wlive (fun hb => ?_) | intro _ _ _ _ _ _ _ _ | refine We ?_ | refine Wx ?_ | refine Wt ?_ | refine Wm ?_ | refine W2m ?_ ?_ | refine Wl ?_
          | fail)
        exact ⟨rfl, rfl, rfl⟩
      · refine absurd trivial ?_; assumption
    all_goals have hG := good_of hc
    · skip
      repeat' (first
        | (refine is_ucall ?_; first
          | refine st_callP (h := ThinW_spec _ _ _ m s1 s2 s3 (hm.ext extA)) (k := ?_)
          | refine st_callP (h := awake_spec _ _ _) (k := ?_)
          | refine st_callP (h := faultC _ _ _ m s1 s2 s3 _ hc (hI.ext extA)) (k := ?_)
          | refine st_callP (h := InX _ _ _ t _ _ _ hbi) (k := ?_)
          | refine st_callP (h := IsOpenC _ _ _ m s1 s2 s3 t _ hbo (hI.ext extA) hG) (k := ?_)
          | refine st_callP (h := FreeRP _ _ _ m s1 s2 s3 lv t _ hT0 hpv (hI.ext extA) (hL0.ext extA)) (k := ?_)
          | refine st_callP (h := to_spec _ _ _ _) (k := ?_)
          | fail)
        | (refine is_umcall ?_; first
          | refine mj_callP (h := ThinW_spec _ _ _ m s1 s2 s3 (hm.ext extA)) (k := ?_)
          | refine mj_callP (h := awake_spec _ _ _) (k := ?_)
          | refine mj_callP (h := faultC _ _ _ m s1 s2 s3 _ hc (hI.ext extA)) (k := ?_)
          | refine mj_callP (h := InX _ _ _ t _ _ _ hbi) (k := ?_)
          | refine mj_callP (h := IsOpenC _ _ _ m s1 s2 s3 t _ hbo (hI.ext extA) hG) (k := ?_)
          | refine mj_callP (h := FreeRP _ _ _ m s1 s2 s3 lv t _ hT0 hpv (hI.ext extA) (hL0.ext extA)) (k := ?_)
          | refine mj_callP (h := to_spec _ _ _ _) (k := ?_)
          | fail)
        | refine W1 ?_ | refine Wc ?_ | refine W2c ?_ ?_ | refine Wg ?_ | refine W2 ?_ ?_ | exact Wdead | refine Wlive (fun hb => ?_) | intro _ _ _ _ _ _ _ _ | refine We ?_ | refine Wx ?_ | refine Wt ?_ | refine Wm ?_ | refine W2m ?_ ?_ | refine Wl ?_
        | fail)
      · refine st_eqI (n := 2) (xs := [0, 0]) (ys := [0, 0]) rfl rfl rfl rfl ?_
        rw [decide_eq_true rfl]
        refine OpsJ.normA ?_
        repeat' (first
          | (refine is_ucall ?_; first
            | refine st_callP (h := ThinW_spec _ _ _ m s1 s2 s3 (hm.ext extA)) (k := ?_)
            | refine st_callP (h := awake_spec _ _ _) (k := ?_)
            | refine st_callP (h := faultC _ _ _ m s1 s2 s3 _ hc (hI.ext extA)) (k := ?_)
            | refine st_callP (h := InX _ _ _ t _ _ _ hbi) (k := ?_)
            | refine st_callP (h := IsOpenC _ _ _ m s1 s2 s3 t _ hbo (hI.ext extA) hG) (k := ?_)
            | refine st_callP (h := FreeRP _ _ _ m s1 s2 s3 lv t _ hT0 hpv (hI.ext extA) (hL0.ext extA)) (k := ?_)
            | refine st_callP (h := to_spec _ _ _ _) (k := ?_)
            | fail)
          | (refine is_umcall ?_; first
            | refine mj_callP (h := ThinW_spec _ _ _ m s1 s2 s3 (hm.ext extA)) (k := ?_)
            | refine mj_callP (h := awake_spec _ _ _) (k := ?_)
            | refine mj_callP (h := faultC _ _ _ m s1 s2 s3 _ hc (hI.ext extA)) (k := ?_)
            | refine mj_callP (h := InX _ _ _ t _ _ _ hbi) (k := ?_)
            | refine mj_callP (h := IsOpenC _ _ _ m s1 s2 s3 t _ hbo (hI.ext extA) hG) (k := ?_)
            | refine mj_callP (h := FreeRP _ _ _ m s1 s2 s3 lv t _ hT0 hpv (hI.ext extA) (hL0.ext extA)) (k := ?_)
            | refine mj_callP (h := to_spec _ _ _ _) (k := ?_)
            | fail)
          | refine W1 ?_ | refine Wc ?_ | refine W2c ?_ ?_ | refine Wg ?_ | refine W2 ?_ ?_ | exact Wdead | refine Wlive (fun hb => ?_) | intro _ _ _ _ _ _ _ _ | refine We ?_ | refine Wx ?_ | refine Wt ?_ | refine Wm ?_ | refine W2m ?_ ?_ | refine Wl ?_
          | fail)
        exact ⟨rfl, rfl, rfl⟩
      all_goals (refine absurd trivial ?_; assumption)
    · skip
      repeat' (first
        | (refine is_ucall ?_; first
          | refine st_callP (h := ThinW_spec _ _ _ m s1 s2 s3 (hm.ext extA)) (k := ?_)
          | refine st_callP (h := awake_spec _ _ _) (k := ?_)
          | refine st_callP (h := faultC _ _ _ m s1 s2 s3 _ hc (hI.ext extA)) (k := ?_)
          | refine st_callP (h := InX _ _ _ t _ _ _ hbi) (k := ?_)
          | refine st_callP (h := IsOpenC _ _ _ m s1 s2 s3 t _ hbo (hI.ext extA) hG) (k := ?_)
          | refine st_callP (h := FreeRP _ _ _ m s1 s2 s3 lv t _ hT0 hpv (hI.ext extA) (hL0.ext extA)) (k := ?_)
          | refine st_callP (h := to_spec _ _ _ _) (k := ?_)
          | fail)
        | (refine is_umcall ?_; first
          | refine mj_callP (h := ThinW_spec _ _ _ m s1 s2 s3 (hm.ext extA)) (k := ?_)
          | refine mj_callP (h := awake_spec _ _ _) (k := ?_)
          | refine mj_callP (h := faultC _ _ _ m s1 s2 s3 _ hc (hI.ext extA)) (k := ?_)
          | refine mj_callP (h := InX _ _ _ t _ _ _ hbi) (k := ?_)
          | refine mj_callP (h := IsOpenC _ _ _ m s1 s2 s3 t _ hbo (hI.ext extA) hG) (k := ?_)
          | refine mj_callP (h := FreeRP _ _ _ m s1 s2 s3 lv t _ hT0 hpv (hI.ext extA) (hL0.ext extA)) (k := ?_)
          | refine mj_callP (h := to_spec _ _ _ _) (k := ?_)
          | fail)
        | refine W1 ?_ | refine Wc ?_ | refine W2c ?_ ?_ | refine Wg ?_ | refine W2 ?_ ?_ | exact Wdead | refine Wlive (fun hb => ?_) | intro _ _ _ _ _ _ _ _ | refine We ?_ | refine Wx ?_ | refine Wt ?_ | refine Wm ?_ | refine W2m ?_ ?_ | refine Wl ?_
        | fail)
      · refine st_eqI (n := 2) (xs := [0, 0]) (ys := [0, 0]) rfl rfl rfl rfl ?_
        rw [decide_eq_true rfl]
        refine OpsJ.normA ?_
        repeat' (first
          | (refine is_ucall ?_; first
            | refine st_callP (h := ThinW_spec _ _ _ m s1 s2 s3 (hm.ext extA)) (k := ?_)
            | refine st_callP (h := awake_spec _ _ _) (k := ?_)
            | refine st_callP (h := faultC _ _ _ m s1 s2 s3 _ hc (hI.ext extA)) (k := ?_)
            | refine st_callP (h := InX _ _ _ t _ _ _ hbi) (k := ?_)
            | refine st_callP (h := IsOpenC _ _ _ m s1 s2 s3 t _ hbo (hI.ext extA) hG) (k := ?_)
            | refine st_callP (h := FreeRP _ _ _ m s1 s2 s3 lv t _ hT0 hpv (hI.ext extA) (hL0.ext extA)) (k := ?_)
            | refine st_callP (h := to_spec _ _ _ _) (k := ?_)
            | fail)
          | (refine is_umcall ?_; first
            | refine mj_callP (h := ThinW_spec _ _ _ m s1 s2 s3 (hm.ext extA)) (k := ?_)
            | refine mj_callP (h := awake_spec _ _ _) (k := ?_)
            | refine mj_callP (h := faultC _ _ _ m s1 s2 s3 _ hc (hI.ext extA)) (k := ?_)
            | refine mj_callP (h := InX _ _ _ t _ _ _ hbi) (k := ?_)
            | refine mj_callP (h := IsOpenC _ _ _ m s1 s2 s3 t _ hbo (hI.ext extA) hG) (k := ?_)
            | refine mj_callP (h := FreeRP _ _ _ m s1 s2 s3 lv t _ hT0 hpv (hI.ext extA) (hL0.ext extA)) (k := ?_)
            | refine mj_callP (h := to_spec _ _ _ _) (k := ?_)
            | fail)
          | refine W1 ?_ | refine Wc ?_ | refine W2c ?_ ?_ | refine Wg ?_ | refine W2 ?_ ?_ | exact Wdead | refine Wlive (fun hb => ?_) | intro _ _ _ _ _ _ _ _ | refine We ?_ | refine Wx ?_ | refine Wt ?_ | refine Wm ?_ | refine W2m ?_ ?_ | refine Wl ?_
          | fail)
        exact ⟨rfl, rfl, rfl⟩
      all_goals (refine absurd trivial ?_; assumption)
    · skip
      repeat' (first
        | (refine is_ucall ?_; first
          | refine st_callP (h := ThinW_spec _ _ _ m s1 s2 s3 (hm.ext extA)) (k := ?_)
          | refine st_callP (h := awake_spec _ _ _) (k := ?_)
          | refine st_callP (h := faultC _ _ _ m s1 s2 s3 _ hc (hI.ext extA)) (k := ?_)
          | refine st_callP (h := InX _ _ _ t _ _ _ hbi) (k := ?_)
          | refine st_callP (h := IsOpenC _ _ _ m s1 s2 s3 t _ hbo (hI.ext extA) hG) (k := ?_)
          | refine st_callP (h := FreeRP _ _ _ m s1 s2 s3 lv t _ hT0 hpv (hI.ext extA) (hL0.ext extA)) (k := ?_)
          | refine st_callP (h := to_spec _ _ _ _) (k := ?_)
          | fail)
        | (refine is_umcall ?_; first
          | refine mj_callP (h := ThinW_spec _ _ _ m s1 s2 s3 (hm.ext extA)) (k := ?_)
          | refine mj_callP (h := awake_spec _ _ _) (k := ?_)
          | refine mj_callP (h := faultC _ _ _ m s1 s2 s3 _ hc (hI.ext extA)) (k := ?_)
          | refine mj_callP (h := InX _ _ _ t _ _ _ hbi) (k := ?_)
          | refine mj_callP (h := IsOpenC _ _ _ m s1 s2 s3 t _ hbo (hI.ext extA) hG) (k := ?_)
          | refine mj_callP (h := FreeRP _ _ _ m s1 s2 s3 lv t _ hT0 hpv (hI.ext extA) (hL0.ext extA)) (k := ?_)
          | refine mj_callP (h := to_spec _ _ _ _) (k := ?_)
          | fail)
        | refine W1 ?_ | refine Wc ?_ | refine W2c ?_ ?_ | refine Wg ?_ | refine W2 ?_ ?_ | exact Wdead | refine Wlive (fun hb => ?_) | intro _ _ _ _ _ _ _ _ | refine We ?_ | refine Wx ?_ | refine Wt ?_ | refine Wm ?_ | refine W2m ?_ ?_ | refine Wl ?_
        | fail)
      · refine st_eqI (n := 2) (xs := [0, 0]) (ys := [0, 0]) rfl rfl rfl rfl ?_
        rw [decide_eq_true rfl]
        refine OpsJ.normA ?_
        repeat' (first
          | (refine is_ucall ?_; first
            | refine st_callP (h := ThinW_spec _ _ _ m s1 s2 s3 (hm.ext extA)) (k := ?_)
            | refine st_callP (h := awake_spec _ _ _) (k := ?_)
            | refine st_callP (h := faultC _ _ _ m s1 s2 s3 _ hc (hI.ext extA)) (k := ?_)
            | refine st_callP (h := InX _ _ _ t _ _ _ hbi) (k := ?_)
            | refine st_callP (h := IsOpenC _ _ _ m s1 s2 s3 t _ hbo (hI.ext extA) hG) (k := ?_)
            | refine st_callP (h := FreeRP _ _ _ m s1 s2 s3 lv t _ hT0 hpv (hI.ext extA) (hL0.ext extA)) (k := ?_)
            | refine st_callP (h := to_spec _ _ _ _) (k := ?_)
            | fail)
          | (refine is_umcall ?_; first
            | refine mj_callP (h := ThinW_spec _ _ _ m s1 s2 s3 (hm.ext extA)) (k := ?_)
            | refine mj_callP (h := awake_spec _ _ _) (k := ?_)
            | refine mj_callP (h := faultC _ _ _ m s1 s2 s3 _ hc (hI.ext extA)) (k := ?_)
            | refine mj_callP (h := InX _ _ _ t _ _ _ hbi) (k := ?_)
            | refine mj_callP (h := IsOpenC _ _ _ m s1 s2 s3 t _ hbo (hI.ext extA) hG) (k := ?_)
            | refine mj_callP (h := FreeRP _ _ _ m s1 s2 s3 lv t _ hT0 hpv (hI.ext extA) (hL0.ext extA)) (k := ?_)
            | refine mj_callP (h := to_spec _ _ _ _) (k := ?_)
            | fail)
          | refine W1 ?_ | refine Wc ?_ | refine W2c ?_ ?_ | refine Wg ?_ | refine W2 ?_ ?_ | exact Wdead | refine Wlive (fun hb => ?_) | intro _ _ _ _ _ _ _ _ | refine We ?_ | refine Wx ?_ | refine Wt ?_ | refine Wm ?_ | refine W2m ?_ ?_ | refine Wl ?_
          | fail)
        exact ⟨rfl, rfl, rfl⟩
      all_goals (refine absurd trivial ?_; assumption)
    · have hT0 := he
      have hL0 := hL rfl
      rw [if_pos rfl] at hr
      have hpv := hr
      repeat' (first
        | (refine is_ucall ?_; first
          | refine st_callP (h := ThinW_spec _ _ _ m s1 s2 s3 (hm.ext extA)) (k := ?_)
          | refine st_callP (h := awake_spec _ _ _) (k := ?_)
          | refine st_callP (h := faultC _ _ _ m s1 s2 s3 _ hc (hI.ext extA)) (k := ?_)
          | refine st_callP (h := InX _ _ _ t _ _ _ hbi) (k := ?_)
          | refine st_callP (h := IsOpenC _ _ _ m s1 s2 s3 t _ hbo (hI.ext extA) hG) (k := ?_)
          | refine st_callP (h := FreeRP _ _ _ m s1 s2 s3 lv t _ hT0 hpv (hI.ext extA) (hL0.ext extA)) (k := ?_)
          | refine st_callP (h := to_spec _ _ _ _) (k := ?_)
          | fail)
        | (refine is_umcall ?_; first
          | refine mj_callP (h := ThinW_spec _ _ _ m s1 s2 s3 (hm.ext extA)) (k := ?_)
          | refine mj_callP (h := awake_spec _ _ _) (k := ?_)
          | refine mj_callP (h := faultC _ _ _ m s1 s2 s3 _ hc (hI.ext extA)) (k := ?_)
          | refine mj_callP (h := InX _ _ _ t _ _ _ hbi) (k := ?_)
          | refine mj_callP (h := IsOpenC _ _ _ m s1 s2 s3 t _ hbo (hI.ext extA) hG) (k := ?_)
          | refine mj_callP (h := FreeRP _ _ _ m s1 s2 s3 lv t _ hT0 hpv (hI.ext extA) (hL0.ext extA)) (k := ?_)
          | refine mj_callP (h := to_spec _ _ _ _) (k := ?_)
          | fail)
        | refine W1 ?_ | refine Wc ?_ | refine W2c ?_ ?_ | refine Wg ?_ | refine W2 ?_ ?_ | exact Wdead | refine Wlive (fun hb => ?_) | intro _ _ _ _ _ _ _ _ | refine We ?_ | refine Wx ?_ | refine Wt ?_ | refine Wm ?_ | refine W2m ?_ ?_ | refine Wl ?_
        | fail)
      refine WPJ.draw 15 mixed (by kernel_rfl) (by kernel_rfl) (by kernel_rfl) (by decide) ?_
      refine MonoJ.normA ?_
      repeat' (first
        | (refine is_ucall ?_; first
          | refine st_callP (h := ThinW_spec _ _ _ m s1 s2 s3 (hm.ext extA)) (k := ?_)
          | refine st_callP (h := awake_spec _ _ _) (k := ?_)
          | refine st_callP (h := faultC _ _ _ m s1 s2 s3 _ hc (hI.ext extA)) (k := ?_)
          | refine st_callP (h := InX _ _ _ t _ _ _ hbi) (k := ?_)
          | refine st_callP (h := IsOpenC _ _ _ m s1 s2 s3 t _ hbo (hI.ext extA) hG) (k := ?_)
          | refine st_callP (h := FreeRP _ _ _ m s1 s2 s3 lv t _ hT0 hpv (hI.ext extA) (hL0.ext extA)) (k := ?_)
          | refine st_callP (h := to_spec _ _ _ _) (k := ?_)
          | fail)
        | (refine is_umcall ?_; first
          | refine mj_callP (h := ThinW_spec _ _ _ m s1 s2 s3 (hm.ext extA)) (k := ?_)
          | refine mj_callP (h := awake_spec _ _ _) (k := ?_)
          | refine mj_callP (h := faultC _ _ _ m s1 s2 s3 _ hc (hI.ext extA)) (k := ?_)
          | refine mj_callP (h := InX _ _ _ t _ _ _ hbi) (k := ?_)
          | refine mj_callP (h := IsOpenC _ _ _ m s1 s2 s3 t _ hbo (hI.ext extA) hG) (k := ?_)
          | refine mj_callP (h := FreeRP _ _ _ m s1 s2 s3 lv t _ hT0 hpv (hI.ext extA) (hL0.ext extA)) (k := ?_)
          | refine mj_callP (h := to_spec _ _ _ _) (k := ?_)
          | fail)
        | refine W1 ?_ | refine Wc ?_ | refine W2c ?_ ?_ | refine Wg ?_ | refine W2 ?_ ?_ | exact Wdead | refine Wlive (fun hb => ?_) | intro _ _ _ _ _ _ _ _ | refine We ?_ | refine Wx ?_ | refine Wt ?_ | refine Wm ?_ | refine W2m ?_ ?_ | refine Wl ?_
        | fail)
      refine mj_eqI (n := 2) (xs := [r.1, r.2]) (ys := [r.1, r.2]) rfl rfl rfl rfl ?_
      rw [decide_eq_true rfl]
      refine MonoJ.normA ?_
      repeat' (first
        | (refine is_ucall ?_; first
          | refine st_callP (h := ThinW_spec _ _ _ m s1 s2 s3 (hm.ext extA)) (k := ?_)
          | refine st_callP (h := awake_spec _ _ _) (k := ?_)
          | refine st_callP (h := faultC _ _ _ m s1 s2 s3 _ hc (hI.ext extA)) (k := ?_)
          | refine st_callP (h := InX _ _ _ t _ _ _ hbi) (k := ?_)
          | refine st_callP (h := IsOpenC _ _ _ m s1 s2 s3 t _ hbo (hI.ext extA) hG) (k := ?_)
          | refine st_callP (h := FreeRP _ _ _ m s1 s2 s3 lv t _ hT0 hpv (hI.ext extA) (hL0.ext extA)) (k := ?_)
          | refine st_callP (h := to_spec _ _ _ _) (k := ?_)
          | fail)
        | (refine is_umcall ?_; first
          | refine mj_callP (h := ThinW_spec _ _ _ m s1 s2 s3 (hm.ext extA)) (k := ?_)
          | refine mj_callP (h := awake_spec _ _ _) (k := ?_)
          | refine mj_callP (h := faultC _ _ _ m s1 s2 s3 _ hc (hI.ext extA)) (k := ?_)
          | refine mj_callP (h := InX _ _ _ t _ _ _ hbi) (k := ?_)
          | refine mj_callP (h := IsOpenC _ _ _ m s1 s2 s3 t _ hbo (hI.ext extA) hG) (k := ?_)
          | refine mj_callP (h := FreeRP _ _ _ m s1 s2 s3 lv t _ hT0 hpv (hI.ext extA) (hL0.ext extA)) (k := ?_)
          | refine mj_callP (h := to_spec _ _ _ _) (k := ?_)
          | fail)
        | refine W1 ?_ | refine Wc ?_ | refine W2c ?_ ?_ | refine Wg ?_ | refine W2 ?_ ?_ | exact Wdead | refine Wlive (fun hb => ?_) | intro _ _ _ _ _ _ _ _ | refine We ?_ | refine Wx ?_ | refine Wt ?_ | refine Wm ?_ | refine W2m ?_ ?_ | refine Wl ?_
        | fail)
      exact ⟨rfl, rfl, rfl⟩
end
end Go.Proofs.Ytehobnpoeodhkaa
