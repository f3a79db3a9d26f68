import Derived.Test.YtjbiidlmpaibkaaIkp
namespace Go.Proofs.Ytjbiidlmpaibkaa
open Go Go.Abs Go.Proofs
set_option maxHeartbeats 1600000
attribute [local irreducible] CallJ OpsJ WPJ CallV MonoJ SpecJ
def encV (t : Int × Value) : List Value := [.int .i64 t.1, t.2]
theorem encV_len (t : Int × Value) : (encV t).length = 2 := rfl
def TrL (H : AHeap) (v : Value) (ts : List (Int × List Int)) : Prop :=
  ∃ tv : List (Int × Value), RdS H v 2 (tv.map encV) ∧ tv.length = ts.length ∧ ∀ k (h1 : k < tv.length) (h2 : k < ts.length), tv[k].1 = ts[k].1 ∧ RdS H tv[k].2 1 (encI ts[k].2)
theorem TrL.ext {H H' : AHeap} {v : Value} {ts : List (Int × List Int)} (h : TrL H v ts) (he : Ext H H') : TrL H' v ts := by
  obtain ⟨tv, h1, h2, h3⟩ := h
  exact ⟨tv, h1.ext he, h2, fun k a b => ⟨(h3 k a b).1, (h3 k a b).2.ext he⟩⟩
def truR (m : CopM) (k : Nat) : List (Int × List Int) := ((List.range k).filter fun n => isT m (nthT m n)).map fun n => (nthH m n, nthL m n)
theorem truR_step (m : CopM) (k : Nat) : truR m (k + 1) = if isT m (nthT m k) then truR m k ++ [(nthH m k, nthL m k)] else truR m k := by
  unfold truR
  rw [List.range_succ, List.filter_append]
  cases h : isT m (nthT m k) <;> simp [h]
theorem truR_len (m : CopM) (k : Nat) : (truR m k).length ≤ k := by
  unfold truR; rw [List.length_map]
  have := List.length_filter_le (fun n => isT m (nthT m n)) (List.range k)
  simpa using this
def TrG (H : AHeap) (n : Nat) (v : Value) (ts : List (Int × List Int)) : Prop :=
  ∃ tv : List (Int × Value), AppG encV 2 H n v tv ∧ tv.length = ts.length ∧ ∀ k (h1 : k < tv.length) (h2 : k < ts.length), tv[k].1 = ts[k].1 ∧
    ∃ r, tv[k].2 = .slice (some ⟨r, 0, none⟩) ts[k].2.length ts[k].2.length ∧ H[r]? = some (.row (encE ts[k].2) 1 true) ∧ ∀ i l c, v = .slice (some ⟨i, 0, none⟩) l c → r ≠ i
theorem TrG.app {H : AHeap} {n : Nat} {v : Value} {ts : List (Int × List Int)} (h : TrG H n v ts) (L : AHeap) : TrG (H ++ L) n v ts := by
  obtain ⟨tv, hA, h1, h2⟩ := h
  refine ⟨tv, hA.app _, h1, fun k a b => ?_⟩
  obtain ⟨q1, r, q2, q3, q4⟩ := h2 k a b
  exact ⟨q1, r, q2, get_old q3, q4⟩
theorem TrG.list {H : AHeap} {n : Nat} {v : Value} {ts : List (Int × List Int)} (h : TrG H n v ts) : TrL H v ts := by
  obtain ⟨tv, hA, h1, h2⟩ := h
  refine ⟨tv, hA.rd encV_len, h1, fun k a b => ?_⟩
  obtain ⟨q1, r, q2, q3, q4⟩ := h2 k a b
  exact ⟨q1, by rw [q2]; exact rd_encE q3 (List.take_of_length_le (by simp [encE]))⟩
section
variable {γ : Type} (E : Env γ) (g : γ) (H : AHeap)
theorem Truths_spec (m : CopM) (s1 s2 s3 s4 : Value) (hm : CopY H m s1 s2 s3 s4) (hG : Good m) :
    CallJ Try.prog E 61 [cv m s1 s2 s3 s4] (fun v H' g' => (TrL H' v (truR m (manyS m).toNat) ∧ Ext H H') ∧ g' = g) H g := by
  have hok := hm.cells
  have hM0 : (((manyS m).toNat : Nat) : Int) = manyS m := by
    have := prodS_pos m.loss hG.lb
    have hh := hG.hh
    simp only [upTo, Bool.and_eq_true, decide_eq_true_eq] at hh
    have : 0 ≤ sizesS m := Int.mul_nonneg (by omega) (by omega)
    rw [manyS_eq]; omega
  have hM : (manyS m).toNat ≤ 3000 := by
    have := manyS_eq m
    omega
  obtain ⟨K, hK⟩ : ∃ K, K = (manyS m).toNat := ⟨_, rfl⟩
  rw [← hK] at hM0 hM ⊢
  clear hK
  unfold cv
  refine CallJ.enter Try.func61 rfl (by simp only [Try.ntmps61, List.length_cons, List.length_nil, Nat.zero_add, Nat.reduceSub, List.replicate_succ, List.replicate_zero, List.cons_append, List.nil_append]; rfl) ?_
  repeat' (first
    | ((fail_if_success (first | refine is_ucall ?_ | refine is_umcall ?_)); first | refine W1 ?_ | refine Wc ?_ | refine W2c ?_ ?_ | refine Wg ?_ | refine W2 ?_ ?_ | exact Wdead | refine Wlive (fun hb => ?_) | intro _ _ _ _ _ _ _ _ | refine We ?_ | refine Wx ?_ | refine Wt ?_ | refine Wm ?_ | refine W2m ?_ ?_ | refine Wl ?_)
    | fail)
  refine WPJ.loopT K [5, 6, 7, 8, 9, 12, 13, 14, 15, 16, 17, 18, 19, 20, 21, 22, 23, 24, 10, 11] (fun j (v : Value) => [(4, .int .i64 j), (3, v)])
    (fun j v H1 g1 => g1 = g ∧ Ext H H1 ∧ H1[H.length]? = some (.row (ccells m s1 s2 s3 s4) 1 true) ∧ TrG H1 (H.length + 1) v (truR m j) ∧ H.length + 1 ≤ H1.length) 0 (.slice none 0 0) (Nat.zero_le _)
    (by intro p hp; simp at hp; rcases hp with rfl | rfl <;> rfl) ⟨rfl, extA, getA, ⟨[], AppG.nil, rfl, fun k h => absurd h (by simp)⟩, by simp⟩ ?_
  rintro j v1 H1 g1 hj ⟨rfl, he, hb0, hT, hlen⟩ hl0
  simp only [updT, maskT, List.set_cons_zero, List.set_cons_succ]
  obtain ⟨hn5, hnl⟩ := hrs_le hG.w
  have hll := hG.ll
  have hmx := hm.ext he
  have hnl5 : (nthL m j).length = hrs m := by have : (nthL m j).length = m.loss.length := digits_len _ _; omega
  have htok := hG.valid.tok _ (nth_mem hG j)
  repeat' (first
    | ((fail_if_success (first | refine is_ucall ?_ | refine is_umcall ?_)); first | refine W1 ?_ | refine Wc ?_ | refine W2c ?_ ?_ | refine Wg ?_ | refine W2 ?_ ?_ | exact Wdead | refine Wlive (fun hb => ?_) | intro _ _ _ _ _ _ _ _ | refine We ?_ | refine Wx ?_ | refine Wt ?_ | refine Wm ?_ | refine W2m ?_ ?_ | refine Wl ?_)
    | fail)
  refine st_callP (h := Many_spec _ _ _ m s1 s2 s3 s4 hmx hG.hh hG.lb) (k := ?_)
  refine OpsJ.normA ?_
  rw [← hM0]
  rcases Nat.lt_or_ge j K with hlt | hge
  · have hfull := rightB_full m (nthT m j)
    have hstep := truR_step m j
    have hlj := truR_len m j
    have hnr := hG.nr
    repeat' (first
      | ((fail_if_success (first | refine is_ucall ?_ | refine is_umcall ?_)); first | refine W1 ?_ | refine Wc ?_ | refine W2c ?_ ?_ | refine Wg ?_ | refine W2 ?_ ?_ | exact Wdead | refine Wlive (fun hb => ?_) | intro _ _ _ _ _ _ _ _ | refine We ?_ | refine Wx ?_ | refine Wt ?_ | refine Wm ?_ | refine W2m ?_ ?_ | refine Wl ?_)
      | fail)
    refine st_call rfl (Nth_spec _ _ _ m s1 s2 s3 s4 j hmx hG (by omega)) ?_
    rintro _ _ g ⟨rfl, rfl, rfl⟩
    refine OpsJ.normA ?_
    repeat' (first
      | ((fail_if_success (first | refine is_ucall ?_ | refine is_umcall ?_)); first | refine W1 ?_ | refine Wc ?_ | refine W2c ?_ ?_ | refine Wg ?_ | refine W2 ?_ ?_ | exact Wdead | refine Wlive (fun hb => ?_) | intro _ _ _ _ _ _ _ _ | refine We ?_ | refine Wx ?_ | refine Wt ?_ | refine Wm ?_ | refine W2m ?_ ?_ | refine Wl ?_)
      | fail)
    refine WPJ.draw 6 mixed (by kernel_rfl) (by kernel_rfl) (by kernel_rfl) (by decide) ?_
    refine MonoJ.normA ?_
    repeat' (first
      | ((fail_if_success (first | refine is_ucall ?_ | refine is_umcall ?_)); first | refine W1 ?_ | refine Wc ?_ | refine W2c ?_ ?_ | refine Wg ?_ | refine W2 ?_ ?_ | exact Wdead | refine Wlive (fun hb => ?_) | intro _ _ _ _ _ _ _ _ | refine We ?_ | refine Wx ?_ | refine Wt ?_ | refine Wm ?_ | refine W2m ?_ ?_ | refine Wl ?_)
      | fail)
    refine mj_callP (h := Right_spec _ _ _ m s1 s2 s3 s4 (.slice (some ⟨H1.length, 0, none⟩) (nthL m j).length (nthL m j).length) (nthH m j) (nthL m j) (hmx.ext extA) hG htok hnl5 (rd_encE (own := true) getA (List.take_of_length_le (by simp [encE])))) (k := ?_)
    refine MonoJ.normA ?_
    repeat' (first
      | ((fail_if_success (first | refine is_ucall ?_ | refine is_umcall ?_)); first | refine W1 ?_ | refine Wc ?_ | refine W2c ?_ ?_ | refine Wg ?_ | refine W2 ?_ ?_ | exact Wdead | refine Wlive (fun hb => ?_) | intro _ _ _ _ _ _ _ _ | refine We ?_ | refine Wx ?_ | refine Wt ?_ | refine Wm ?_ | refine W2m ?_ ?_ | refine Wl ?_)
      | fail)
    refine mj_callP (h := Full_spec _ _ _ m s1 s2 s3 s4 (hmx.ext extA) (by omega)) (k := ?_)
    refine MonoJ.normA ?_
    repeat' (first
      | ((fail_if_success (first | refine is_ucall ?_ | refine is_umcall ?_)); first | refine W1 ?_ | refine Wc ?_ | refine W2c ?_ ?_ | refine Wg ?_ | refine W2 ?_ ?_ | exact Wdead | refine Wlive (fun hb => ?_) | intro _ _ _ _ _ _ _ _ | refine We ?_ | refine Wx ?_ | refine Wt ?_ | refine Wm ?_ | refine W2m ?_ ?_ | refine Wl ?_)
      | fail)
    · have hT1 : isT m (nthT m j) = true := by rw [← hfull, decide_eq_true_eq]; exact Int.ofNat.inj (by assumption)
      rw [hT1, if_pos rfl] at hstep
      obtain ⟨tv, hA, htl, hrow⟩ := hT
      have hbnd : ∀ i l c, v1 = .slice (some ⟨i, 0, none⟩) l c → H.length + 1 ≤ i ∧ i < H1.length := by
        rintro i l c rfl
        rcases hA with ⟨h, _⟩ | ⟨i', h, hi', hn', _⟩
        · cases h
        · cases h
          exact ⟨hn', (List.getElem?_eq_some_iff.1 hi').1⟩
      refine st_appX (enc := encV) (a := (nthH m j, .slice (some ⟨H1.length, 0, none⟩) (nthL m j).length (nthL m j).length)) (hA.app _) rfl encV_len rfl rfl getA (by simp) rfl rfl (by simp; omega) (by omega) (by decide) ?_
      intro H2 hA2 hE hK hL
      have e0 := hK (H.length) _ (fun i l c h => by have := hbnd i l c h; omega) (get_old hb0)
      have e1 := hK (H1.length) (.row (encE (nthL m j)) 1 true) (fun i l c h => by have := hbnd i l c h; omega) (by simp)
      simp only [List.length_append, List.length_cons, List.length_nil] at hL
      simp only [List.length_append, List.length_cons, List.length_nil, Nat.zero_add, Nat.reduceAdd] at hA2
      have hT2 : TrG H2 (H.length + 1) (.slice (some ⟨H1.length + 3, 0, none⟩) (tv.length + 1) (tv.length + 1)) (truR m (j + 1)) := by
        rw [hstep]
        refine ⟨_, hA2, by simp [htl], fun k h1 h2 => ?_⟩
        rcases Nat.lt_or_ge k tv.length with hk | hk
        · rw [List.getElem_append_left hk, List.getElem_append_left (by omega)]
          obtain ⟨q1, r, q2, q3, q4⟩ := hrow k hk (by omega)
          refine ⟨q1, r, q2, hK r _ (fun i l c h => q4 i l c h) (get_old q3), fun i l c h => ?_⟩
          cases h
          have := (List.getElem?_eq_some_iff.1 q3).1
          omega
        · simp only [List.length_append, List.length_cons, List.length_nil] at h1
          obtain rfl : k = tv.length := by omega
          rw [List.getElem_append_right (Nat.le_refl _), List.getElem_append_right (by omega)]
          simp only [Nat.sub_self, htl, List.getElem_cons_zero]
          refine ⟨by first | trivial | rfl, _, rfl, e1, fun i l c h => ?_⟩
          cases h; omega
      refine OpsJ.normA ?_
      repeat' (first
        | ((fail_if_success (first | refine is_ucall ?_ | refine is_umcall ?_)); first | refine W1 ?_ | refine Wc ?_ | refine W2c ?_ ?_ | refine Wg ?_ | refine W2 ?_ ?_ | exact Wdead | refine Wlive (fun hb => ?_) | intro _ _ _ _ _ _ _ _ | refine We ?_ | refine Wx ?_ | refine Wt ?_ | refine Wm ?_ | refine W2m ?_ ?_ | refine Wl ?_)
        | fail)
      exact ⟨_, hlt, (by repeat' (first | exact Weak.nil | refine Weak.wild ?_ | refine Weak.same ?_ | refine Weak.intEq (by first | omega | (simp; done) | (push_cast; omega)) ?_)), rfl, hE H extA (by omega), e0, hT2, by omega⟩
    · have hT1 : isT m (nthT m j) = false := by rw [← hfull, decide_eq_false_iff_not]; exact fun h => (by assumption : ¬ _ = _) (by rw [← h])
      rw [hT1, if_neg (by simp)] at hstep
      have hT2 : TrG (H1 ++ [.row (encE (nthL m j)) 1 true, .row [.int .i64 (nthH m j), .slice (some ⟨H1.length, 0, none⟩) (nthL m j).length (nthL m j).length] 1 true]) (H.length + 1) v1 (truR m (j + 1)) := by
        rw [hstep]; exact hT.app _
      exact ⟨v1, hlt, (by repeat' (first | exact Weak.nil | refine Weak.wild ?_ | refine Weak.same ?_ | refine Weak.intEq (by first | omega | (simp; done) | (push_cast; omega)) ?_)), rfl, extA, getA, hT2, by simp; omega⟩
  · obtain rfl : j = K := by omega
    repeat' (first
      | ((fail_if_success (first | refine is_ucall ?_ | refine is_umcall ?_)); first | refine W1 ?_ | refine Wc ?_ | refine W2c ?_ ?_ | refine Wg ?_ | refine W2 ?_ ?_ | exact Wdead | refine Wlive (fun hb => ?_) | intro _ _ _ _ _ _ _ _ | refine We ?_ | refine Wx ?_ | refine Wt ?_ | refine Wm ?_ | refine W2m ?_ ?_ | refine Wl ?_)
      | fail)
    exact ⟨⟨hT.list, he⟩, rfl⟩
end
end Go.Proofs.Ytjbiidlmpaibkaa
