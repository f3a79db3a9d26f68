import Derived.Test.YtjbiidlmpaibkaaIow
import Derived.Test.YtjbiidlmpaibkaaU6
namespace Go.Proofs.Ytjbiidlmpaibkaa
open Go Go.Abs Go.Proofs
set_option maxHeartbeats 8000000
set_option maxRecDepth 20000
attribute [local irreducible] CallJ OpsJ WPJ CallV MonoJ SpecJ

theorem keepsL_at {m : CopM} {j : Nat} (hj : j < hrs m) : (keepsL m).getD j 0 = verdictS (truthsL m) (keepQ m j) := by
  unfold keepsL
  simp [List.getD, hj]
section
variable {γ : Type} (E : Env γ) (g : γ) (H : AHeap)
theorem LacksR_spec (m : CopM) (s1 s2 s3 s4 lv : Value) (hm : CopY H m s1 s2 s3 s4) (hG : Good m) (hl : TrL H lv (truR m (manyS m).toNat)) :
    CallJ Try.prog E 38 [cv m s1 s2 s3 s4, lv] (fun v H' g' => v = .int .i64 (match lacksF m (hrs m) with | none => -1 | some j => (j : Int)) ∧ H' = H ∧ g' = g) H g := by
  have hok := hm.cells
  have hlc : cellOk lv = true := by obtain ⟨tv, hr, _⟩ := hl; obtain ⟨a, b, c, rfl⟩ := RdS.shape hr; rfl
  obtain ⟨hn5, hnl⟩ := hrs_le hG.w
  have hM : (truR m (manyS m).toNat).length ≤ 3000 := by have := manyS_eq m; have := truR_len m (manyS m).toNat; omega
  have hkeep : ∀ (g' : Unit) (H' : AHeap) (j : Nat), j < hrs m → Ext H H' → CallJ Try.prog trivE 37 [cv m s1 s2 s3 s4, lv, .int .i64 j] (fun v H2 g2 => v = .int .i64 ((keepsL m).getD j 0) ∧ H2 = H' ∧ g2 = g') H' g' := fun g' H' j hj he => by
    rw [keepsL_at hj, ← truR_verdict hG]
    exact KeepsR_spec trivE g' H' m s1 s2 s3 s4 lv _ (hm.ext he) hG (hl.ext he) (fun t ht => (truR_mem hG ht).2) hM j hj
  have hkeepE : ∀ (g' : γ) (H' : AHeap) (j : Nat), j < hrs m → Ext H H' → CallJ Try.prog E 37 [cv m s1 s2 s3 s4, lv, .int .i64 j] (fun v H2 g2 => v = .int .i64 ((keepsL m).getD j 0) ∧ H2 = H' ∧ g2 = g') H' g' := fun g' H' j hj he => by
    rw [keepsL_at hj, ← truR_verdict hG]
    exact KeepsR_spec E g' H' m s1 s2 s3 s4 lv _ (hm.ext he) hG (hl.ext he) (fun t ht => (truR_mem hG ht).2) hM j hj
  refine CallJ.tidy ?_
  unfold cv
  clear hkeep
  refine CallJ.enter Try.func38 rfl (by simp only [Try.ntmps38, List.length_cons, List.length_nil, Nat.zero_add, Nat.reduceAdd, Nat.reduceSub, List.replicate_succ, List.replicate_zero, List.cons_append, List.nil_append]; rfl) ?_
  repeat' (first
    | ((fail_if_success (first | refine is_ucall ?_ | refine is_umcall ?_)); first | refine W1 ?_ | refine Wc ?_ | refine W2c ?_ ?_ | refine Wg ?_ | refine W2 ?_ ?_ | exact Wdead | refine Wlive (fun hb => ?_) | intro _ _ _ _ _ _ _ _ | refine We ?_ | refine Wx ?_ | refine Wt ?_ | refine Wm ?_ | refine W2m ?_ ?_ | refine Wl ?_)
    | fail)
  refine WPJ.loopT (hrs m) [6, 7, 8, 9, 12, 13, 14, 15, 16, 17, 10, 11] (fun j (_ : Unit) => [(5, .int .i64 j)])
    (fun j _ H1 g1 => g1 = g ∧ H1 = H ++ [.row (ccells m s1 s2 s3 s4) 1 true] ∧ ∀ i < j, (keepsL m).getD i 0 = 1) 0 () (Nat.zero_le _) (by intro p hp; simp at hp; rcases hp with rfl; rfl) ⟨rfl, rfl, fun i h => by omega⟩ ?_
  rintro j _ H1 g1 hj ⟨rfl, rfl, hx⟩ hl0
  simp only [updT, maskT, List.set_cons_zero, List.set_cons_succ]
  rcases Nat.lt_or_ge j (hrs m) with hlt | hge
  · have hF : (keepsL m).getD j 0 ≠ 1 → lacksF m (hrs m) = some j := fun h => firstS_some hlt (decide_eq_true h) fun k hk => decide_eq_false fun h2 => h2 (hx k hk)
    have hX : (keepsL m).getD j 0 = 1 → ∀ i < j + 1, (keepsL m).getD i 0 = 1 := fun h i hi => by
      rcases Nat.lt_or_ge i j with h2 | h2
      · exact hx i h2
      · obtain rfl : i = j := by omega
        exact h
    have hK := hkeepE g1 (H ++ [.row (ccells m s1 s2 s3 s4) 1 true]) j hlt ⟨_, rfl⟩
    clear hkeepE
    generalize (keepsL m).getD j 0 = x at *
    repeat' (first
      | ((fail_if_success (first | refine is_ucall ?_ | refine is_umcall ?_)); first | refine W1 ?_ | refine Wc ?_ | refine W2c ?_ ?_ | refine Wg ?_ | refine W2 ?_ ?_ | exact Wdead | refine Wlive (fun hb => ?_) | intro _ _ _ _ _ _ _ _ | refine We ?_ | refine Wx ?_ | refine Wt ?_ | refine Wm ?_ | refine W2m ?_ ?_ | refine Wl ?_)
      | fail)
    refine st_callP (h := hK) (k := ?_)
    clear hK
    refine OpsJ.normA ?_
    repeat' (first
      | ((fail_if_success (first | refine is_ucall ?_ | refine is_umcall ?_)); first | refine W1 ?_ | refine Wc ?_ | refine W2c ?_ ?_ | refine Wg ?_ | refine W2 ?_ ?_ | exact Wdead | refine Wlive (fun hb => ?_) | intro _ _ _ _ _ _ _ _ | refine We ?_ | refine Wx ?_ | refine Wt ?_ | refine Wm ?_ | refine W2m ?_ ?_ | refine Wl ?_)
      | fail)
    · rw [hF (by assumption)]
      exact ⟨rfl, rfl, rfl⟩
    · exact ⟨(), hlt, (by repeat' (first | exact Weak.nil | refine Weak.wild ?_ | refine Weak.same ?_ | refine Weak.intEq (by first | omega | (simp; done) | (push_cast; omega)) ?_)), rfl, rfl, hX (by first | assumption | omega)⟩
  · obtain rfl : j = hrs m := by omega
    have hnone : lacksF m (hrs m) = none := firstS_none fun k hk => decide_eq_false fun h2 => h2 (hx k hk)
    rw [hnone]
    repeat' (first
      | ((fail_if_success (first | refine is_ucall ?_ | refine is_umcall ?_)); first | refine W1 ?_ | refine Wc ?_ | refine W2c ?_ ?_ | refine Wg ?_ | refine W2 ?_ ?_ | exact Wdead | refine Wlive (fun hb => ?_) | intro _ _ _ _ _ _ _ _ | refine We ?_ | refine Wx ?_ | refine Wt ?_ | refine Wm ?_ | refine W2m ?_ ?_ | refine Wl ?_)
      | fail)
    exact ⟨rfl, rfl, rfl⟩
theorem sure_spec (m : CopM) (s1 s2 s3 s4 : Value) (hm : CopY H m s1 s2 s3 s4) :
    CallJ Try.prog E 32 [cv m s1 s2 s3 s4] (fun v H' g' => ((∃ lv, v = .tuple #[lv, .int .i64 (checkT m)] ∧ (checkT m = 0 → TrL H' lv (truR m (manyS m).toNat))) ∧ Ext H H') ∧ g' = g) H g := by
  have hok := hm.cells
  unfold cv
  refine CallJ.enter Try.func32 rfl (by simp only [Try.ntmps32, List.length_cons, List.length_nil, Nat.zero_add, Nat.reduceSub, List.replicate_succ, List.replicate_zero, List.cons_append, List.nil_append]; rfl) ?_
  repeat' (first
    | ((fail_if_success (first | refine is_ucall ?_ | refine is_umcall ?_)); first | refine W1 ?_ | refine Wc ?_ | refine W2c ?_ ?_ | refine Wg ?_ | refine W2 ?_ ?_ | exact Wdead | refine Wlive (fun hb => ?_) | intro _ _ _ _ _ _ _ _ | refine We ?_ | refine Wx ?_ | refine Wt ?_ | refine Wm ?_ | refine W2m ?_ ?_ | refine Wl ?_)
    | fail)
  refine st_callP (h := fault_spec _ _ _ m s1 s2 s3 s4 (hm.ext extA)) (k := ?_)
  by_cases hz : checkS m = 0
  case neg =>
    have hT : checkT m = checkS m := by unfold checkT; rw [if_neg hz]
    rw [hT]
    refine OpsJ.normA ?_
    repeat' (first
      | ((fail_if_success (first | refine is_ucall ?_ | refine is_umcall ?_)); first | refine W1 ?_ | refine Wc ?_ | refine W2c ?_ ?_ | refine Wg ?_ | refine W2 ?_ ?_ | exact Wdead | refine Wlive (fun hb => ?_) | intro _ _ _ _ _ _ _ _ | refine We ?_ | refine Wx ?_ | refine Wt ?_ | refine Wm ?_ | refine W2m ?_ ?_ | refine Wl ?_)
      | fail)
    exact ⟨⟨⟨_, rfl, fun h => absurd h hz⟩, extA⟩, rfl⟩
  case pos =>
    have hG := good_of hz
    have hM : (truR m (manyS m).toNat).length ≤ 3000 := by have := manyS_eq m; have := truR_len m (manyS m).toNat; omega
    have hN := truR_nil hG
    have hT : checkT m = if hasS m then 0 else 11 := by unfold checkT; rw [if_pos hz]
    rw [hz]
    refine OpsJ.normA ?_
    repeat' (first
      | ((fail_if_success (first | refine is_ucall ?_ | refine is_umcall ?_)); first | refine W1 ?_ | refine Wc ?_ | refine W2c ?_ ?_ | refine Wg ?_ | refine W2 ?_ ?_ | exact Wdead | refine Wlive (fun hb => ?_) | intro _ _ _ _ _ _ _ _ | refine We ?_ | refine Wx ?_ | refine Wt ?_ | refine Wm ?_ | refine W2m ?_ ?_ | refine Wl ?_)
      | fail)
    refine st_call rfl (Truths_spec E _ _ m s1 s2 s3 s4 (hm.ext extA) hG) ?_
    rintro lv H1 g1 ⟨⟨hl, e1⟩, rfl⟩
    have x1 : Ext H H1 := Ext.trans extA e1
    clear e1
    obtain ⟨tv, hr, htl, hrow⟩ := id hl
    generalize truR m (manyS m).toNat = ts at *
    refine OpsJ.normA ?_
    repeat' (first
      | ((fail_if_success (first | refine is_ucall ?_ | refine is_umcall ?_)); first | refine W1 ?_ | refine Wc ?_ | refine W2c ?_ ?_ | refine Wg ?_ | refine W2 ?_ ?_ | exact Wdead | refine Wlive (fun hb => ?_) | intro _ _ _ _ _ _ _ _ | refine We ?_ | refine Wx ?_ | refine Wt ?_ | refine Wm ?_ | refine W2m ?_ ?_ | refine Wl ?_)
      | fail)
    · have h0 : hasS m = false := by rw [hN, decide_eq_false_iff_not]; omega
      rw [hT, h0]
      exact ⟨⟨⟨_, rfl, fun h => absurd h (by decide)⟩, x1⟩, rfl⟩
    · have h0 : hasS m = true := by rw [hN, decide_eq_true_eq]; omega
      rw [hT, h0]
      exact ⟨⟨⟨_, rfl, fun _ => hl⟩, x1⟩, rfl⟩
end
end Go.Proofs.Ytjbiidlmpaibkaa
