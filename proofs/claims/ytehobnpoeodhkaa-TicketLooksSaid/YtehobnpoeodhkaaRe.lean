import Derived.Test.YtehobnpoeodhkaaRd
import Derived.Test.YtehobnpoeodhkaaV9
namespace Go.Proofs.Ytehobnpoeodhkaa
open Go Go.Abs Go.Proofs
set_option maxHeartbeats 4000000
set_option maxRecDepth 20000
attribute [local irreducible] CallJ OpsJ WPJ CallV MonoJ SpecJ

section
variable {γ : Type} (E : Env γ) (g : γ) (H : AHeap)
theorem LookC (m : HouseM) (s1 s2 s3 : Value) (z k n : Int) (hz : lookE m = z) (hk : (if z = 0 then (indexS (leavesS m) (lookV m), lookV m) else (0, 0)) = (k, n)) (hm : HouseIs H m s1 s2 s3) : CallJ Try.prog E 50 [hv m s1 s2 s3] (fun v H' g' => v = .tuple #[.int .i64 k, .int .i64 n, .int .i64 z] ∧ H' = H ∧ g' = g) H g :=
  (Look_spec E g H m s1 s2 s3 hm).mono (by
    rintro v H' g' ⟨rfl, rfl, rfl⟩
    refine ⟨?_, rfl, rfl⟩
    rw [hz]
    by_cases h : z = 0
    · rw [if_pos h] at hk ⊢
      cases hk
      rw [h]
    · rw [if_neg h] at hk ⊢
      cases hk
      rfl)
theorem LookRP (m : HouseM) (s1 s2 s3 lv : Value) (k n : Int) (hT : checkT m = 0) (h0 : 0 < m.clocks.length) (hk : (indexS (leavesS m) (lookV m), lookV m) = (k, n)) (hm : HouseIs H m s1 s2 s3) (hL : LL H lv (refL m)) : CallJ Try.prog E 51 [hv m s1 s2 s3, lv] (fun v H' g' => v = .tuple #[.int .i64 k, .int .i64 n] ∧ H' = H ∧ g' = g) H g := by
  have hG := good_of (sure_zero hT).1
  rw [look_eq hG h0] at hk
  refine (LookR_spec E g H m s1 s2 s3 lv (refL m) hm hL (by have := refL_len m; omega) h0 (fun c hc l hl => ?_)).mono ?_
  · have := ((mem_ref hG l).1 hl).1
    simp only [isE, Bool.and_eq_true, decide_eq_true_eq] at this
    omega
  · rintro v H' g' ⟨rfl, rfl, rfl⟩
    rw [hk]
    exact ⟨rfl, rfl, rfl⟩
theorem looks_law (m : HouseM) (s1 s2 s3 : Value) (hm : HouseW H m s1 s2 s3) : CallJ Try.prog E 8 [hv m s1 s2 s3] (fun v H' g' => v = .bool true ∧ H' = H ∧ g' = g) H g := by
  have hok : [Value.int .i64 m.hour, Value.int .i64 m.grace, s1, s2, s3].all cellOk = true := by have := hm.ok; simp [cellOk] at this ⊢; exact this
  refine CallJ.tidy ?_
  unfold hv
  refine CallJ.enter Try.func8 rfl (by simp only [Try.ntmps8, List.length_cons, List.length_nil, Nat.zero_add, Nat.reduceSub, List.replicate_succ, List.replicate_zero, List.cons_append, List.nil_append]; rfl) ?_
  repeat' (first
    | (refine is_ucall ?_; first
      | refine st_callP (h := ThinW_spec _ _ _ m s1 s2 s3 (hm.ext extA)) (k := ?_)
      | refine st_callP (h := awake_spec _ _ _) (k := ?_)
      | fail)
    | (refine is_umcall ?_; first
      | refine mj_callP (h := ThinW_spec _ _ _ m s1 s2 s3 (hm.ext extA)) (k := ?_)
      | refine mj_callP (h := awake_spec _ _ _) (k := ?_)
      | fail)
    | refine W1 ?_ | refine Wc ?_ | refine W2c ?_ ?_ | refine Wg ?_ | refine W2 ?_ ?_ | exact Wdead | refine Wlive (fun hb => ?_) | intro _ _ _ _ _ _ _ _ | refine We ?_ | refine Wx ?_ | refine Wt ?_ | refine Wm ?_ | refine W2m ?_ ?_ | refine Wl ?_
    | fail)
  · exact ⟨rfl, rfl, rfl⟩
  · have ht : thinS m = true := by assumption
    have hI := hm.is ht
    have hsc := hI.clocks
    have hn1 := hI.n1
    have key : ∃ e z k n : Int, checkT m = e ∧ lookE m = z ∧ (if z = 0 then (indexS (leavesS m) (lookV m), lookV m) else (0, 0)) = (k, n) ∧
        ((e ≠ 0 ∧ z = e ∧ k = 0 ∧ n = 0) ∨ (e = 0 ∧ m.clocks.length = 0 ∧ z = 7 ∧ k = 0 ∧ n = 0) ∨ (e = 0 ∧ m.clocks.length ≠ 0 ∧ z = 0)) := by
      unfold lookE
      by_cases hT : checkT m = 0
      · rw [if_pos hT]
        by_cases h0 : m.clocks.length = 0
        · rw [if_pos h0]
          exact ⟨_, _, 0, 0, rfl, rfl, rfl, .inr (.inl ⟨hT, h0, rfl, rfl, rfl⟩)⟩
        · rw [if_neg h0]
          exact ⟨_, _, _, _, rfl, rfl, rfl, .inr (.inr ⟨hT, h0, rfl⟩)⟩
      · rw [if_neg hT]
        exact ⟨_, _, 0, 0, rfl, rfl, by rw [if_neg hT], .inl ⟨hT, rfl, rfl, rfl⟩⟩
    obtain ⟨e, z, k, n, he, hz, hk, key⟩ := key
    refine st_call rfl (House_w E _ _ m s1 s2 s3 (hI.ext extA) ht) ?_
    rintro _ H1 g1 ⟨⟨t1, t2, t3, rfl, hm1, e1⟩, rfl⟩
    have x1 : Ext H H1 := Ext.trans extA e1
    have hb1 : H1[H.length]? = some (.row [.int .i64 m.hour, .int .i64 m.grace, s1, s2, s3] 1 true) := e1.get getA
    refine OpsJ.normA ?_
    repeat' (first
      | (refine is_ucall ?_; first
        | refine st_callP (h := ThinW_spec _ _ _ m s1 s2 s3 (hm.ext extA)) (k := ?_)
        | refine st_callP (h := awake_spec _ _ _) (k := ?_)
        | fail)
      | (refine is_umcall ?_; first
        | refine mj_callP (h := ThinW_spec _ _ _ m s1 s2 s3 (hm.ext extA)) (k := ?_)
        | refine mj_callP (h := awake_spec _ _ _) (k := ?_)
        | fail)
      | refine W1 ?_ | refine Wc ?_ | refine W2c ?_ ?_ | refine Wg ?_ | refine W2 ?_ ?_ | exact Wdead | refine Wlive (fun hb => ?_) | intro _ _ _ _ _ _ _ _ | refine We ?_ | refine Wx ?_ | refine Wt ?_ | refine Wm ?_ | refine W2m ?_ ?_ | refine Wl ?_
      | fail)
    refine st_callP (h := LookC E _ _ m t1 t2 t3 z k n hz hk (hm1.ext extA)) (k := ?_)
    refine OpsJ.normA ?_
    repeat' (first
      | (refine is_ucall ?_; first
        | refine st_callP (h := ThinW_spec _ _ _ m s1 s2 s3 (hm.ext extA)) (k := ?_)
        | refine st_callP (h := awake_spec _ _ _) (k := ?_)
        | fail)
      | (refine is_umcall ?_; first
        | refine mj_callP (h := ThinW_spec _ _ _ m s1 s2 s3 (hm.ext extA)) (k := ?_)
        | refine mj_callP (h := awake_spec _ _ _) (k := ?_)
        | fail)
      | refine W1 ?_ | refine Wc ?_ | refine W2c ?_ ?_ | refine Wg ?_ | refine W2 ?_ ?_ | exact Wdead | refine Wlive (fun hb => ?_) | intro _ _ _ _ _ _ _ _ | refine We ?_ | refine Wx ?_ | refine Wt ?_ | refine Wm ?_ | refine W2m ?_ ?_ | refine Wl ?_
      | fail)
    refine st_call rfl (sureX E _ _ m s1 s2 s3 e he (hI.ext x1)) ?_
    rintro _ H5 g5 ⟨⟨lv, rfl, hL, hLn, e5⟩, rfl⟩
    have x5 : Ext H H5 := x1.trans e5
    have hb5 := e5.get hb1
    clear e1 e5 hb1 x1 hm1
    refine OpsJ.normA ?_
    rcases key with ⟨he0, rfl, rfl, rfl⟩ | ⟨rfl, hl0, rfl, rfl, rfl⟩ | ⟨rfl, hl0, rfl⟩
    · skip
      repeat' (first
        | (refine is_ucall ?_; first
          | refine st_callP (h := ThinW_spec _ _ _ m s1 s2 s3 (hm.ext extA)) (k := ?_)
          | refine st_callP (h := awake_spec _ _ _) (k := ?_)
          | fail)
        | (refine is_umcall ?_; first
          | refine mj_callP (h := ThinW_spec _ _ _ m s1 s2 s3 (hm.ext extA)) (k := ?_)
          | refine mj_callP (h := awake_spec _ _ _) (k := ?_)
          | fail)
        | refine W1 ?_ | refine Wc ?_ | refine W2c ?_ ?_ | refine Wg ?_ | refine W2 ?_ ?_ | exact Wdead | refine Wlive (fun hb => ?_) | intro _ _ _ _ _ _ _ _ | refine We ?_ | refine Wx ?_ | refine Wt ?_ | refine Wm ?_ | refine W2m ?_ ?_ | refine Wl ?_
        | fail)
      · exact ⟨rfl, rfl, rfl⟩
      all_goals (refine absurd trivial ?_; assumption)
    · skip
      repeat' (first
        | (refine is_ucall ?_; first
          | refine st_callP (h := ThinW_spec _ _ _ m s1 s2 s3 (hm.ext extA)) (k := ?_)
          | refine st_callP (h := awake_spec _ _ _) (k := ?_)
          | fail)
        | (refine is_umcall ?_; first
          | refine mj_callP (h := ThinW_spec _ _ _ m s1 s2 s3 (hm.ext extA)) (k := ?_)
          | refine mj_callP (h := awake_spec _ _ _) (k := ?_)
          | fail)
        | refine W1 ?_ | refine Wc ?_ | refine W2c ?_ ?_ | refine Wg ?_ | refine W2 ?_ ?_ | exact Wdead | refine Wlive (fun hb => ?_) | intro _ _ _ _ _ _ _ _ | refine We ?_ | refine Wx ?_ | refine Wt ?_ | refine Wm ?_ | refine W2m ?_ ?_ | refine Wl ?_
        | fail)
      exact ⟨rfl, rfl, rfl⟩
    · rw [if_pos rfl] at hk
      have h0 : 0 < m.clocks.length := by omega
      have hL0 := hL rfl
      repeat' (first
        | (refine is_ucall ?_; first
          | refine st_callP (h := ThinW_spec _ _ _ m s1 s2 s3 (hm.ext extA)) (k := ?_)
          | refine st_callP (h := awake_spec _ _ _) (k := ?_)
          | fail)
        | (refine is_umcall ?_; first
          | refine mj_callP (h := ThinW_spec _ _ _ m s1 s2 s3 (hm.ext extA)) (k := ?_)
          | refine mj_callP (h := awake_spec _ _ _) (k := ?_)
          | fail)
        | refine W1 ?_ | refine Wc ?_ | refine W2c ?_ ?_ | refine Wg ?_ | refine W2 ?_ ?_ | exact Wdead | refine Wlive (fun hb => ?_) | intro _ _ _ _ _ _ _ _ | refine We ?_ | refine Wx ?_ | refine Wt ?_ | refine Wm ?_ | refine W2m ?_ ?_ | refine Wl ?_
        | fail)
      refine st_callP (h := LookRP E _ _ m s1 s2 s3 lv k n he h0 hk (hI.ext extA) (hL0.ext extA)) (k := ?_)
      refine OpsJ.normA ?_
      repeat' (first
        | (refine is_ucall ?_; first
          | refine st_callP (h := ThinW_spec _ _ _ m s1 s2 s3 (hm.ext extA)) (k := ?_)
          | refine st_callP (h := awake_spec _ _ _) (k := ?_)
          | fail)
        | (refine is_umcall ?_; first
          | refine mj_callP (h := ThinW_spec _ _ _ m s1 s2 s3 (hm.ext extA)) (k := ?_)
          | refine mj_callP (h := awake_spec _ _ _) (k := ?_)
          | fail)
        | refine W1 ?_ | refine Wc ?_ | refine W2c ?_ ?_ | refine Wg ?_ | refine W2 ?_ ?_ | exact Wdead | refine Wlive (fun hb => ?_) | intro _ _ _ _ _ _ _ _ | refine We ?_ | refine Wx ?_ | refine Wt ?_ | refine Wm ?_ | refine W2m ?_ ?_ | refine Wl ?_
        | fail)
      · exact ⟨rfl, rfl, rfl⟩
      all_goals (refine absurd trivial ?_; assumption)
end
end Go.Proofs.Ytehobnpoeodhkaa
