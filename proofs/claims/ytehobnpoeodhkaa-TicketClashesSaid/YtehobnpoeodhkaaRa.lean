import Derived.Test.YtehobnpoeodhkaaR8
import Derived.Test.YtehobnpoeodhkaaV9
namespace Go.Proofs.Ytehobnpoeodhkaa
open Go Go.Abs Go.Proofs
set_option maxHeartbeats 4000000
set_option maxRecDepth 20000
attribute [local irreducible] CallJ OpsJ WPJ CallV MonoJ SpecJ

section
variable {γ : Type} (E : Env γ) (g : γ) (H : AHeap)
theorem sureW (m : HouseM) (s1 s2 s3 : Value) (e : Int) (he : checkT m = e) (hm : HouseIs H m s1 s2 s3) : CallJ Try.prog E 36 [hv m s1 s2 s3] (fun v H' g' => (∃ lv, v = .tuple #[lv, .int .i64 e] ∧ (e = 0 → LL H' lv (refL m)) ∧ (e ≠ 0 → lv = .slice none 0 0) ∧ Ext H H') ∧ g' = g) H g := by
  by_cases h : e = 0
  · subst h
    exact (sureT E g H m s1 s2 s3 he hm).mono (by rintro v H' g' ⟨⟨lv, h1, h2, h3⟩, rfl⟩; exact ⟨⟨lv, h1, fun _ => h2, fun h => absurd rfl h, h3⟩, rfl⟩)
  · exact (sureN E g H m s1 s2 s3 e he h hm).mono (by rintro v H' g' ⟨⟨h1, h2⟩, rfl⟩; exact ⟨⟨_, h1, fun h' => absurd h' h, fun _ => rfl, h2⟩, rfl⟩)
theorem InC (n lo hi : Int) (b : Bool) (hb : (decide (lo ≤ n) && decide (n ≤ hi)) = b) : CallJ Try.prog E 45 [.int .i64 n, .int .i64 lo, .int .i64 hi] (fun v H' g' => v = .bool b ∧ H' = H ∧ g' = g) H g := by
  rw [← hb]; exact In_spec E g H n lo hi
theorem ClashC (m : HouseM) (s1 s2 s3 : Value) (t u z p : Int) (hz : clashE m t u = z) (hp : (if z = 0 then verdictS (truthsL m) (clashQ m t u) else 0) = p) (hm : HouseIs H m s1 s2 s3) : CallJ Try.prog E 44 [hv m s1 s2 s3, .int .i64 t, .int .i64 u] (fun v H' g' => v = .tuple #[.int .i64 p, .int .i64 z] ∧ H' = H ∧ g' = g) H g :=
  (Clash_spec E g H m s1 s2 s3 t u hm).mono (by rintro v H' g' ⟨rfl, rfl, rfl⟩; rw [hz, hp]; exact ⟨rfl, rfl, rfl⟩)
theorem ClashRP (m : HouseM) (s1 s2 s3 lv : Value) (t u p : Int) (hT : checkT m = 0) (hp : verdictS (truthsL m) (clashQ m t u) = p) (ht : 0 ≤ t ∧ t < m.tickets.length) (hu : 0 ≤ u ∧ u < m.tickets.length) (hm : HouseIs H m s1 s2 s3) (hL : LL H lv (refL m)) : CallJ Try.prog E 46 [hv m s1 s2 s3, lv, .int .i64 t, .int .i64 u] (fun v H' g' => v = .int .i64 p ∧ H' = H ∧ g' = g) H g := by
  have hG := good_of (sure_zero hT).1
  obtain ⟨a, rfl⟩ : ∃ a : Nat, t = a := ⟨t.toNat, by omega⟩
  obtain ⟨b, rfl⟩ : ∃ b : Nat, u = b := ⟨u.toNat, by omega⟩
  rw [← hp, clash_eq hT (by omega) (by omega)]
  exact ClashR_spec E g H m s1 s2 s3 lv (refL m) a b hm hL hG (by have := refL_len m; omega) (ref_isE hG) (by omega) (by omega)
theorem clashes_law (m : HouseM) (s1 s2 s3 : Value) (t u : Int) (hm : HouseW H m s1 s2 s3) (_ : -9223372036854775808 ≤ t ∧ t ≤ 9223372036854775807) (_ : -9223372036854775808 ≤ u ∧ u ≤ 9223372036854775807) : CallJ Try.prog E 6 [hv m s1 s2 s3, .int .i64 t, .int .i64 u] (fun v H' g' => v = .bool true ∧ H' = H ∧ g' = g) H g := by
  have hok : [Value.int .i64 m.hour, Value.int .i64 m.grace, s1, s2, s3].all cellOk = true := by have := hm.ok; simp [cellOk] at this ⊢; exact this
  refine CallJ.tidy ?_
  unfold hv
  refine CallJ.enter Try.func6 rfl (by simp only [Try.ntmps6, List.length_cons, List.length_nil, Nat.zero_add, Nat.reduceAdd, Nat.reduceSub, List.replicate_succ, List.replicate_zero, List.cons_append, List.nil_append]; rfl) ?_
  repeat' (first
    | (refine is_ucall ?_; first
      | refine st_callP (h := ThinW_spec _ _ _ m s1 s2 s3 (hm.ext extA)) (k := ?_)
      | refine st_callP (h := awake_spec _ _ _) (k := ?_)
      | refine st_callP (h := faultC _ _ _ m s1 s2 s3 _ hc (hI.ext extA)) (k := ?_)
      | refine st_callP (h := InC _ _ _ t _ _ _ hbt) (k := ?_)
      | refine st_callP (h := InC _ _ _ u _ _ _ hbu) (k := ?_)
      | refine st_callP (h := ClashRP _ _ _ m s1 s2 s3 lv t u _ hT0 hpv htl hul (hI.ext extA) (hL0.ext extA)) (k := ?_)
      | fail)
    | (refine is_umcall ?_; first
      | refine mj_callP (h := ThinW_spec _ _ _ m s1 s2 s3 (hm.ext extA)) (k := ?_)
      | refine mj_callP (h := awake_spec _ _ _) (k := ?_)
      | refine mj_callP (h := faultC _ _ _ m s1 s2 s3 _ hc (hI.ext extA)) (k := ?_)
      | refine mj_callP (h := InC _ _ _ t _ _ _ hbt) (k := ?_)
      | refine mj_callP (h := InC _ _ _ u _ _ _ hbu) (k := ?_)
      | refine mj_callP (h := ClashRP _ _ _ m s1 s2 s3 lv t u _ hT0 hpv htl hul (hI.ext extA) (hL0.ext extA)) (k := ?_)
      | fail)
    | refine W1 ?_ | refine Wc ?_ | refine W2c ?_ ?_ | refine Wg ?_ | refine W2 ?_ ?_ | exact Wdead | refine Wlive (fun hb => ?_) | intro _ _ _ _ _ _ _ _ | refine We ?_ | refine Wx ?_ | refine Wt ?_ | refine Wm ?_ | refine W2m ?_ ?_ | refine Wl ?_
    | fail)
  · exact ⟨rfl, rfl, rfl⟩
  · have ht : thinS m = true := by assumption
    have hI := hm.is ht
    have hst := hI.tickets
    have hn2 := hI.n2
    obtain ⟨bt, hbt⟩ : ∃ b, (decide (0 ≤ t) && decide (t ≤ (m.tickets.length : Int) - 1)) = b := ⟨_, rfl⟩
    obtain ⟨bu, hbu⟩ : ∃ b, (decide (0 ≤ u) && decide (u ≤ (m.tickets.length : Int) - 1)) = b := ⟨_, rfl⟩
    have hbt' : hasT m t = bt := by rw [← hbt]; unfold hasT; congr 1; exact decide_eq_decide.2 (by omega)
    have hbu' : hasT m u = bu := by rw [← hbu]; unfold hasT; congr 1; exact decide_eq_decide.2 (by omega)
    have key : ∃ c e z p : Int, checkS m = c ∧ checkT m = e ∧ clashE m t u = z ∧ (if z = 0 then verdictS (truthsL m) (clashQ m t u) else 0) = p ∧
        ((c ≠ 0 ∧ e = c ∧ z = c ∧ p = 0) ∨ (c = 0 ∧ (bt && bu) = false ∧ z = 2 ∧ p = 0) ∨ (c = 0 ∧ (bt && bu) = true ∧ ((t = u ∧ z = 6 ∧ p = 0) ∨ (t ≠ u ∧ ((e = 11 ∧ z = 11 ∧ p = 0) ∨ (e = 0 ∧ z = 0)))))) := by
      refine ⟨_, _, _, _, rfl, rfl, rfl, rfl, ?_⟩
      by_cases hS : checkS m = 0
      · have hcE : clashE m t u = if (bt && bu) = true then (if t = u then 6 else if hasS m then 0 else 11) else 2 := by unfold clashE; rw [if_pos hS, hbt', hbu']
        have hcT : checkT m = if hasS m then 0 else 11 := by unfold checkT; rw [if_pos hS]
        rw [hcE, hcT]
        by_cases hb : (bt && bu) = true
        · refine .inr (.inr ⟨hS, hb, ?_⟩)
          rw [if_pos hb]
          by_cases htu : t = u
          · exact .inl ⟨htu, by rw [if_pos htu], by rw [if_pos htu]; rfl⟩
          · refine .inr ⟨htu, ?_⟩
            rw [if_neg htu]
            cases hasS m
            · exact .inl ⟨rfl, rfl, rfl⟩
            · exact .inr ⟨rfl, rfl⟩
        · exact .inr (.inl ⟨hS, by simpa using hb, by rw [if_neg hb], by rw [if_neg hb]; rfl⟩)
      · have hcE : clashE m t u = checkS m := by unfold clashE; rw [if_neg hS]
        have hcT := checkT_not hS
        exact .inl ⟨hS, hcT, hcE, by rw [hcE, if_neg hS]⟩
    obtain ⟨c, e, z, p, hc, he, hz, hp, key⟩ := key
    refine st_call rfl (House_w E _ _ m s1 s2 s3 (hI.ext extA) ht) ?_
    rintro _ H1 g1 ⟨⟨t1, t2, t3, rfl, hm1, e1⟩, rfl⟩
    have x1 : Ext H H1 := Ext.trans extA e1
    have hb1 : H1[H.length]? = some (.row [.int .i64 m.hour, .int .i64 m.grace, s1, s2, s3] 1 true) := e1.get getA
    refine OpsJ.normA ?_
    repeat' (first
      | (refine is_ucall ?_; first
        | refine st_callP (h := ThinW_spec _ _ _ m s1 s2 s3 (hm.ext extA)) (k := ?_)
        | refine st_callP (h := awake_spec _ _ _) (k := ?_)
        | refine st_callP (h := faultC _ _ _ m s1 s2 s3 _ hc (hI.ext extA)) (k := ?_)
        | refine st_callP (h := InC _ _ _ t _ _ _ hbt) (k := ?_)
        | refine st_callP (h := InC _ _ _ u _ _ _ hbu) (k := ?_)
        | refine st_callP (h := ClashRP _ _ _ m s1 s2 s3 lv t u _ hT0 hpv htl hul (hI.ext extA) (hL0.ext extA)) (k := ?_)
        | fail)
      | (refine is_umcall ?_; first
        | refine mj_callP (h := ThinW_spec _ _ _ m s1 s2 s3 (hm.ext extA)) (k := ?_)
        | refine mj_callP (h := awake_spec _ _ _) (k := ?_)
        | refine mj_callP (h := faultC _ _ _ m s1 s2 s3 _ hc (hI.ext extA)) (k := ?_)
        | refine mj_callP (h := InC _ _ _ t _ _ _ hbt) (k := ?_)
        | refine mj_callP (h := InC _ _ _ u _ _ _ hbu) (k := ?_)
        | refine mj_callP (h := ClashRP _ _ _ m s1 s2 s3 lv t u _ hT0 hpv htl hul (hI.ext extA) (hL0.ext extA)) (k := ?_)
        | fail)
      | refine W1 ?_ | refine Wc ?_ | refine W2c ?_ ?_ | refine Wg ?_ | refine W2 ?_ ?_ | exact Wdead | refine Wlive (fun hb => ?_) | intro _ _ _ _ _ _ _ _ | refine We ?_ | refine Wx ?_ | refine Wt ?_ | refine Wm ?_ | refine W2m ?_ ?_ | refine Wl ?_
      | fail)
    refine st_callP (h := ClashC E _ _ m t1 t2 t3 t u z p hz hp (hm1.ext extA)) (k := ?_)
    refine OpsJ.normA ?_
    repeat' (first
      | (refine is_ucall ?_; first
        | refine st_callP (h := ThinW_spec _ _ _ m s1 s2 s3 (hm.ext extA)) (k := ?_)
        | refine st_callP (h := awake_spec _ _ _) (k := ?_)
        | refine st_callP (h := faultC _ _ _ m s1 s2 s3 _ hc (hI.ext extA)) (k := ?_)
        | refine st_callP (h := InC _ _ _ t _ _ _ hbt) (k := ?_)
        | refine st_callP (h := InC _ _ _ u _ _ _ hbu) (k := ?_)
        | refine st_callP (h := ClashRP _ _ _ m s1 s2 s3 lv t u _ hT0 hpv htl hul (hI.ext extA) (hL0.ext extA)) (k := ?_)
        | fail)
      | (refine is_umcall ?_; first
        | refine mj_callP (h := ThinW_spec _ _ _ m s1 s2 s3 (hm.ext extA)) (k := ?_)
        | refine mj_callP (h := awake_spec _ _ _) (k := ?_)
        | refine mj_callP (h := faultC _ _ _ m s1 s2 s3 _ hc (hI.ext extA)) (k := ?_)
        | refine mj_callP (h := InC _ _ _ t _ _ _ hbt) (k := ?_)
        | refine mj_callP (h := InC _ _ _ u _ _ _ hbu) (k := ?_)
        | refine mj_callP (h := ClashRP _ _ _ m s1 s2 s3 lv t u _ hT0 hpv htl hul (hI.ext extA) (hL0.ext extA)) (k := ?_)
        | fail)
      | refine W1 ?_ | refine Wc ?_ | refine W2c ?_ ?_ | refine Wg ?_ | refine W2 ?_ ?_ | exact Wdead | refine Wlive (fun hb => ?_) | intro _ _ _ _ _ _ _ _ | refine We ?_ | refine Wx ?_ | refine Wt ?_ | refine Wm ?_ | refine W2m ?_ ?_ | refine Wl ?_
      | fail)
    refine st_call rfl (sureW E _ _ m s1 s2 s3 e he (hI.ext x1)) ?_
    rintro _ H5 g5 ⟨⟨lv, rfl, hL, hLn, e5⟩, rfl⟩
    have x5 : Ext H H5 := x1.trans e5
    have hb5 := e5.get hb1
    clear e1 e5 hb1 x1 hm1
    refine OpsJ.normA ?_
    rcases key with ⟨hc0, rfl, rfl, rfl⟩ | ⟨rfl, hbb, rfl, rfl⟩ | ⟨rfl, hbb, ⟨htu, rfl, rfl⟩ | ⟨htu, ⟨rfl, rfl, rfl⟩ | ⟨rfl, rfl⟩⟩⟩
    · skip
      repeat' (first
        | (refine is_ucall ?_; first
          | refine st_callP (h := ThinW_spec _ _ _ m s1 s2 s3 (hm.ext extA)) (k := ?_)
          | refine st_callP (h := awake_spec _ _ _) (k := ?_)
          | refine st_callP (h := faultC _ _ _ m s1 s2 s3 _ hc (hI.ext extA)) (k := ?_)
          | refine st_callP (h := InC _ _ _ t _ _ _ hbt) (k := ?_)
          | refine st_callP (h := InC _ _ _ u _ _ _ hbu) (k := ?_)
          | refine st_callP (h := ClashRP _ _ _ m s1 s2 s3 lv t u _ hT0 hpv htl hul (hI.ext extA) (hL0.ext extA)) (k := ?_)
          | fail)
        | (refine is_umcall ?_; first
          | refine mj_callP (h := ThinW_spec _ _ _ m s1 s2 s3 (hm.ext extA)) (k := ?_)
          | refine mj_callP (h := awake_spec _ _ _) (k := ?_)
          | refine mj_callP (h := faultC _ _ _ m s1 s2 s3 _ hc (hI.ext extA)) (k := ?_)
          | refine mj_callP (h := InC _ _ _ t _ _ _ hbt) (k := ?_)
          | refine mj_callP (h := InC _ _ _ u _ _ _ hbu) (k := ?_)
          | refine mj_callP (h := ClashRP _ _ _ m s1 s2 s3 lv t u _ hT0 hpv htl hul (hI.ext extA) (hL0.ext extA)) (k := ?_)
          | fail)
        | refine W1 ?_ | refine Wc ?_ | refine W2c ?_ ?_ | refine Wg ?_ | refine W2 ?_ ?_ | exact Wdead | refine Wlive (fun hb => ?_) | intro _ _ _ _ _ _ _ _ | refine We ?_ | refine Wx ?_ | refine Wt ?_ | refine Wm ?_ | refine W2m ?_ ?_ | refine Wl ?_
        | fail)
      all_goals first | exact ⟨rfl, rfl, rfl⟩ | (refine absurd trivial ?_; assumption)
    · cases bt
      · skip
        repeat' (first
          | (refine is_ucall ?_; first
            | refine st_callP (h := ThinW_spec _ _ _ m s1 s2 s3 (hm.ext extA)) (k := ?_)
            | refine st_callP (h := awake_spec _ _ _) (k := ?_)
            | refine st_callP (h := faultC _ _ _ m s1 s2 s3 _ hc (hI.ext extA)) (k := ?_)
            | refine st_callP (h := InC _ _ _ t _ _ _ hbt) (k := ?_)
            | refine st_callP (h := InC _ _ _ u _ _ _ hbu) (k := ?_)
            | refine st_callP (h := ClashRP _ _ _ m s1 s2 s3 lv t u _ hT0 hpv htl hul (hI.ext extA) (hL0.ext extA)) (k := ?_)
            | fail)
          | (refine is_umcall ?_; first
            | refine mj_callP (h := ThinW_spec _ _ _ m s1 s2 s3 (hm.ext extA)) (k := ?_)
            | refine mj_callP (h := awake_spec _ _ _) (k := ?_)
            | refine mj_callP (h := faultC _ _ _ m s1 s2 s3 _ hc (hI.ext extA)) (k := ?_)
            | refine mj_callP (h := InC _ _ _ t _ _ _ hbt) (k := ?_)
            | refine mj_callP (h := InC _ _ _ u _ _ _ hbu) (k := ?_)
            | refine mj_callP (h := ClashRP _ _ _ m s1 s2 s3 lv t u _ hT0 hpv htl hul (hI.ext extA) (hL0.ext extA)) (k := ?_)
            | fail)
          | refine W1 ?_ | refine Wc ?_ | refine W2c ?_ ?_ | refine Wg ?_ | refine W2 ?_ ?_ | exact Wdead | refine Wlive (fun hb => ?_) | intro _ _ _ _ _ _ _ _ | refine We ?_ | refine Wx ?_ | refine Wt ?_ | refine Wm ?_ | refine W2m ?_ ?_ | refine Wl ?_
          | fail)
        all_goals first | exact ⟨rfl, rfl, rfl⟩ | (refine absurd trivial ?_; assumption)
      · cases bu
        · skip
          repeat' (first
            | (refine is_ucall ?_; first
              | refine st_callP (h := ThinW_spec _ _ _ m s1 s2 s3 (hm.ext extA)) (k := ?_)
              | refine st_callP (h := awake_spec _ _ _) (k := ?_)
              | refine st_callP (h := faultC _ _ _ m s1 s2 s3 _ hc (hI.ext extA)) (k := ?_)
              | refine st_callP (h := InC _ _ _ t _ _ _ hbt) (k := ?_)
              | refine st_callP (h := InC _ _ _ u _ _ _ hbu) (k := ?_)
              | refine st_callP (h := ClashRP _ _ _ m s1 s2 s3 lv t u _ hT0 hpv htl hul (hI.ext extA) (hL0.ext extA)) (k := ?_)
              | fail)
            | (refine is_umcall ?_; first
              | refine mj_callP (h := ThinW_spec _ _ _ m s1 s2 s3 (hm.ext extA)) (k := ?_)
              | refine mj_callP (h := awake_spec _ _ _) (k := ?_)
              | refine mj_callP (h := faultC _ _ _ m s1 s2 s3 _ hc (hI.ext extA)) (k := ?_)
              | refine mj_callP (h := InC _ _ _ t _ _ _ hbt) (k := ?_)
              | refine mj_callP (h := InC _ _ _ u _ _ _ hbu) (k := ?_)
              | refine mj_callP (h := ClashRP _ _ _ m s1 s2 s3 lv t u _ hT0 hpv htl hul (hI.ext extA) (hL0.ext extA)) (k := ?_)
              | fail)
            | refine W1 ?_ | refine Wc ?_ | refine W2c ?_ ?_ | refine Wg ?_ | refine W2 ?_ ?_ | exact Wdead | refine Wlive (fun hb => ?_) | intro _ _ _ _ _ _ _ _ | refine We ?_ | refine Wx ?_ | refine Wt ?_ | refine Wm ?_ | refine W2m ?_ ?_ | refine Wl ?_
            | fail)
          all_goals first | exact ⟨rfl, rfl, rfl⟩ | (refine absurd trivial ?_; assumption)
        · cases hbb
    all_goals obtain ⟨rfl, rfl⟩ : bt = true ∧ bu = true := by simpa using hbb
    · skip
      repeat' (first
        | (refine is_ucall ?_; first
          | refine st_callP (h := ThinW_spec _ _ _ m s1 s2 s3 (hm.ext extA)) (k := ?_)
          | refine st_callP (h := awake_spec _ _ _) (k := ?_)
          | refine st_callP (h := faultC _ _ _ m s1 s2 s3 _ hc (hI.ext extA)) (k := ?_)
          | refine st_callP (h := InC _ _ _ t _ _ _ hbt) (k := ?_)
          | refine st_callP (h := InC _ _ _ u _ _ _ hbu) (k := ?_)
          | refine st_callP (h := ClashRP _ _ _ m s1 s2 s3 lv t u _ hT0 hpv htl hul (hI.ext extA) (hL0.ext extA)) (k := ?_)
          | fail)
        | (refine is_umcall ?_; first
          | refine mj_callP (h := ThinW_spec _ _ _ m s1 s2 s3 (hm.ext extA)) (k := ?_)
          | refine mj_callP (h := awake_spec _ _ _) (k := ?_)
          | refine mj_callP (h := faultC _ _ _ m s1 s2 s3 _ hc (hI.ext extA)) (k := ?_)
          | refine mj_callP (h := InC _ _ _ t _ _ _ hbt) (k := ?_)
          | refine mj_callP (h := InC _ _ _ u _ _ _ hbu) (k := ?_)
          | refine mj_callP (h := ClashRP _ _ _ m s1 s2 s3 lv t u _ hT0 hpv htl hul (hI.ext extA) (hL0.ext extA)) (k := ?_)
          | fail)
        | refine W1 ?_ | refine Wc ?_ | refine W2c ?_ ?_ | refine Wg ?_ | refine W2 ?_ ?_ | exact Wdead | refine Wlive (fun hb => ?_) | intro _ _ _ _ _ _ _ _ | refine We ?_ | refine Wx ?_ | refine Wt ?_ | refine Wm ?_ | refine W2m ?_ ?_ | refine Wl ?_
        | fail)
      all_goals first | exact ⟨rfl, rfl, rfl⟩ | (refine absurd trivial ?_; assumption)
    · skip
      repeat' (first
        | (refine is_ucall ?_; first
          | refine st_callP (h := ThinW_spec _ _ _ m s1 s2 s3 (hm.ext extA)) (k := ?_)
          | refine st_callP (h := awake_spec _ _ _) (k := ?_)
          | refine st_callP (h := faultC _ _ _ m s1 s2 s3 _ hc (hI.ext extA)) (k := ?_)
          | refine st_callP (h := InC _ _ _ t _ _ _ hbt) (k := ?_)
          | refine st_callP (h := InC _ _ _ u _ _ _ hbu) (k := ?_)
          | refine st_callP (h := ClashRP _ _ _ m s1 s2 s3 lv t u _ hT0 hpv htl hul (hI.ext extA) (hL0.ext extA)) (k := ?_)
          | fail)
        | (refine is_umcall ?_; first
          | refine mj_callP (h := ThinW_spec _ _ _ m s1 s2 s3 (hm.ext extA)) (k := ?_)
          | refine mj_callP (h := awake_spec _ _ _) (k := ?_)
          | refine mj_callP (h := faultC _ _ _ m s1 s2 s3 _ hc (hI.ext extA)) (k := ?_)
          | refine mj_callP (h := InC _ _ _ t _ _ _ hbt) (k := ?_)
          | refine mj_callP (h := InC _ _ _ u _ _ _ hbu) (k := ?_)
          | refine mj_callP (h := ClashRP _ _ _ m s1 s2 s3 lv t u _ hT0 hpv htl hul (hI.ext extA) (hL0.ext extA)) (k := ?_)
          | fail)
        | refine W1 ?_ | refine Wc ?_ | refine W2c ?_ ?_ | refine Wg ?_ | refine W2 ?_ ?_ | exact Wdead | refine Wlive (fun hb => ?_) | intro _ _ _ _ _ _ _ _ | refine We ?_ | refine Wx ?_ | refine Wt ?_ | refine Wm ?_ | refine W2m ?_ ?_ | refine Wl ?_
        | fail)
      all_goals first | exact ⟨rfl, rfl, rfl⟩ | (refine absurd trivial ?_; assumption)
    · have hT0 := he
      have hL0 := hL rfl
      have htl : 0 ≤ t ∧ t < m.tickets.length := by simp at hbt; omega
      have hul : 0 ≤ u ∧ u < m.tickets.length := by simp at hbu; omega
      rw [if_pos rfl] at hp
      have hpv := hp
      repeat' (first
        | (refine is_ucall ?_; first
          | refine st_callP (h := ThinW_spec _ _ _ m s1 s2 s3 (hm.ext extA)) (k := ?_)
          | refine st_callP (h := awake_spec _ _ _) (k := ?_)
          | refine st_callP (h := faultC _ _ _ m s1 s2 s3 _ hc (hI.ext extA)) (k := ?_)
          | refine st_callP (h := InC _ _ _ t _ _ _ hbt) (k := ?_)
          | refine st_callP (h := InC _ _ _ u _ _ _ hbu) (k := ?_)
          | refine st_callP (h := ClashRP _ _ _ m s1 s2 s3 lv t u _ hT0 hpv htl hul (hI.ext extA) (hL0.ext extA)) (k := ?_)
          | fail)
        | (refine is_umcall ?_; first
          | refine mj_callP (h := ThinW_spec _ _ _ m s1 s2 s3 (hm.ext extA)) (k := ?_)
          | refine mj_callP (h := awake_spec _ _ _) (k := ?_)
          | refine mj_callP (h := faultC _ _ _ m s1 s2 s3 _ hc (hI.ext extA)) (k := ?_)
          | refine mj_callP (h := InC _ _ _ t _ _ _ hbt) (k := ?_)
          | refine mj_callP (h := InC _ _ _ u _ _ _ hbu) (k := ?_)
          | refine mj_callP (h := ClashRP _ _ _ m s1 s2 s3 lv t u _ hT0 hpv htl hul (hI.ext extA) (hL0.ext extA)) (k := ?_)
          | fail)
        | refine W1 ?_ | refine Wc ?_ | refine W2c ?_ ?_ | refine Wg ?_ | refine W2 ?_ ?_ | exact Wdead | refine Wlive (fun hb => ?_) | intro _ _ _ _ _ _ _ _ | refine We ?_ | refine Wx ?_ | refine Wt ?_ | refine Wm ?_ | refine W2m ?_ ?_ | refine Wl ?_
        | fail)
      all_goals first | exact ⟨rfl, rfl, rfl⟩ | (refine absurd trivial ?_; assumption) | trace_state
end
end Go.Proofs.Ytehobnpoeodhkaa
