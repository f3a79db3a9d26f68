import Derived.Test.YtjbiidlmpaibkaaIsw
namespace Go.Proofs.Ytjbiidlmpaibkaa
open Go Go.Abs Go.Proofs
set_option maxHeartbeats 4000000
set_option maxRecDepth 20000
attribute [local irreducible] CallJ OpsJ WPJ CallV MonoJ SpecJ
theorem lefts_mono (q : CopM) (w : List Int) (hc : Int) (ls : List Int) (hw : ∀ j, w.getD j 0 ≤ q.want.getD j 0) (hp : 1 ≤ q.per) : ∀ k, (∀ j < k, keepQ q j (hc, ls) = true) → leftsS q hc ls k ≤ leftsS { q with want := w } hc ls k
  | 0, _ => Int.le_refl _
  | k + 1, hk => by
    have ih := lefts_mono q w hc ls hw hp k fun j hj => hk j (by omega)
    have h1 := hk k (by omega)
    have h2 := hw k
    unfold keepQ hotS heatS at h1
    rw [decide_eq_true_eq] at h1
    have hh : heatF q hc ls k (leftsS q hc ls k) ≤ heatF { q with want := w } hc ls k (leftsS { q with want := w } hc ls k) := by
      show max (min (leftsS q hc ls k + hc * q.coal.getD k 0) q.most - ls.getD k 0) 0 ≤ max (min (leftsS { q with want := w } hc ls k + hc * q.coal.getD k 0) q.most - ls.getD k 0) 0
      omega
    show leftF q k (heatF q hc ls k (leftsS q hc ls k)) ≤ leftF { q with want := w } k (heatF { q with want := w } hc ls k (leftsS { q with want := w } hc ls k))
    generalize heatF q hc ls k (leftsS q hc ls k) = x at *
    generalize heatF { q with want := w } hc ls k (leftsS { q with want := w } hc ls k) = y at *
    have h3 : x / q.per ≤ y / q.per := Int.ediv_le_ediv (by omega) hh
    unfold leftF
    show (if q.want.getD k 0 ≤ x / q.per then x - q.per * q.want.getD k 0 else 0) ≤ if w.getD k 0 ≤ y / q.per then y - q.per * w.getD k 0 else 0
    rw [if_pos h1, if_pos (by omega)]
    have h4 : q.per * w.getD k 0 ≤ q.per * q.want.getD k 0 := Int.mul_le_mul_of_nonneg_left h2 (by omega)
    omega
theorem less_kept (q : CopM) (w : List Int) (t : Int × List Int) (hw : ∀ j, w.getD j 0 ≤ q.want.getD j 0) (hp : 1 ≤ q.per) (hk : ∀ j < hrs q, keepQ q j t = true) : ∀ j < hrs q, keepQ { q with want := w } j t = true := by
  intro j hj
  have h1 := lefts_mono q w t.1 t.2 hw hp j fun i hi => hk i (by omega)
  have h2 := hk j hj
  have h3 := hw j
  unfold keepQ hotS heatS at h2 ⊢
  rw [decide_eq_true_eq] at h2 ⊢
  have hh : heatF q t.1 t.2 j (leftsS q t.1 t.2 j) ≤ heatF { q with want := w } t.1 t.2 j (leftsS { q with want := w } t.1 t.2 j) := by
    show max (min (leftsS q t.1 t.2 j + t.1 * q.coal.getD j 0) q.most - t.2.getD j 0) 0 ≤ max (min (leftsS { q with want := w } t.1 t.2 j + t.1 * q.coal.getD j 0) q.most - t.2.getD j 0) 0
    omega
  have h4 : heatF q t.1 t.2 j (leftsS q t.1 t.2 j) / q.per ≤ heatF { q with want := w } t.1 t.2 j (leftsS { q with want := w } t.1 t.2 j) / q.per := Int.ediv_le_ediv (by omega) hh
  show w.getD j 0 ≤ heatF { q with want := w } t.1 t.2 j (leftsS { q with want := w } t.1 t.2 j) / q.per
  omega
theorem oneL_get (n h : Nat) (x : Int) (hx : 0 ≤ x) (j : Nat) : 0 ≤ (oneL n h x).getD j 0 := by
  have := getD_bd (l := oneL n h x) (a := 0) (b := x) (fun y hy => by
    rcases List.mem_or_eq_of_mem_set hy with h | rfl
    · have := (List.mem_replicate.1 h).2; omega
    · exact ⟨hx, Int.le_refl _⟩) (by omega) j
  omega
theorem spareB_all {m : CopM} (hG : Good m) {h : Nat} {x : Int} (hx : 0 ≤ x ∧ x ≤ 20) (hs : spareB m h x = true) : allKept m = true := by
  unfold allKept
  rw [List.all_eq_true]
  intro t ht
  have h1 := List.all_eq_true.1 hs t ht
  have hob := oneL_bd (n := hrs m) (h := h) hx
  have hWm := hG.w.more hG.wn hob
  rw [kept_all hWm, List.all_eq_true] at h1
  rw [kept_all hG.w, List.all_eq_true]
  intro j hj
  refine less_kept (moreM m (oneL (hrs m) h x)) m.want t (fun i => ?_) hG.w.per.1 (fun i hi => h1 i (List.mem_range.2 hi)) j (List.mem_range.1 hj)
  show m.want.getD i 0 ≤ (addL (hrs m) m.want (oneL (hrs m) h x)).getD i 0
  have h2 := oneL_get (hrs m) h x hx.1 i
  have hwl := hG.w.wl
  unfold addL
  by_cases hi : i < hrs m
  · simp only [List.getD_eq_getElem?_getD, List.getElem?_map, List.getElem?_range hi, Option.map_some, Option.getD_some] at h2 ⊢
    omega
  · have e1 : m.want.getD i 0 = 0 := by simp [List.getD, show m.want.length ≤ i by omega]
    rw [e1]
    simp [List.getD, hi]
theorem spareB_zero {m : CopM} (hG : Good m) (h : Nat) : spareB m h 0 = allKept m := by
  unfold spareB allKept
  have e : moreM m (oneL (hrs m) h 0) = m := by
    have hwl := hG.w.wl
    have : addL (hrs m) m.want (oneL (hrs m) h 0) = m.want := by
      apply List.ext_getElem?
      intro i
      unfold addL
      by_cases hi : i < hrs m
      · have e2 : (oneL (hrs m) h 0).getD i 0 = 0 := by
          unfold oneL
          simp only [List.getD_eq_getElem?_getD, List.getElem?_set, List.getElem?_replicate]
          split <;> simp_all
        rw [List.getElem?_map, List.getElem?_range hi, Option.map_some, e2]
        simp [List.getD, show i < m.want.length by omega]
      · rw [List.getElem?_eq_none (by simp; omega), List.getElem?_eq_none (by omega)]
    unfold moreM
    rw [this]
  rw [e]
theorem spareS_bd (m : CopM) (h : Nat) : ∀ k, 0 ≤ spareS m h k ∧ spareS m h k ≤ k
  | 0 => ⟨Int.le_refl _, Int.le_refl _⟩
  | k + 1 => by
    have := spareS_bd m h k
    unfold spareS
    split <;> omega
def bestS (m : CopM) (h : Nat) : Nat → Int
  | 0 => -1
  | k + 1 => if spareB m h (k : Nat) then (k : Nat) else bestS m h k
theorem best_spare {m : CopM} (hG : Good m) (h : Nat) : ∀ k, k ≤ 20 → bestS m h (k + 1) = if allKept m then spareS m h k else -1
  | 0, _ => by
    show (if spareB m h (0 : Nat) then ((0 : Nat) : Int) else -1) = _
    rw [show ((0 : Nat) : Int) = 0 from rfl, spareB_zero hG]
    cases allKept m <;> rfl
  | k + 1, hk => by
    have ih := best_spare hG h k (by omega)
    show (if spareB m h (k + 1 : Nat) then ((k + 1 : Nat) : Int) else bestS m h (k + 1)) = _
    cases hs : spareB m h (k + 1 : Nat) with
    | true =>
      rw [spareB_all hG (by omega) hs, if_pos rfl, if_pos rfl]
      unfold spareS
      rw [hs, if_pos rfl]
    | false =>
      rw [if_neg (by simp), ih]
      have : spareS m h (k + 1) = spareS m h k := by
        show (if spareB m h (k + 1 : Nat) then ((k + 1 : Nat) : Int) else spareS m h k) = _
        rw [hs, if_neg (by simp)]
      rw [this]
section
variable {γ : Type} (E : Env γ) (g : γ) (H : AHeap)
theorem verdict_one (l : List (Int × List Int)) (p : Int × List Int → Bool) : verdictS l p = 1 ↔ l.all p = true := by
  unfold verdictS
  cases l.all p <;> simp
  split <;> simp
theorem SpareR_spec (m : CopM) (s1 s2 s3 s4 lv : Value) (hm : CopY H m s1 s2 s3 s4) (hG : Good m) (hl : TrL H lv (truR m (manyS m).toNat)) (k : Nat) (hk : k < hrs m) :
    CallJ Try.prog E 46 [cv m s1 s2 s3 s4, lv, .int .i64 k] (fun v H' g' => (v = .int .i64 (bestS m k 21) ∧ Ext H H') ∧ g' = g) H g := by
  have hok := hm.cells
  have hlc : cellOk lv = true := by obtain ⟨tv, hr, _⟩ := hl; obtain ⟨a, b, c, rfl⟩ := RdS.shape hr; rfl
  obtain ⟨hn5, hnl⟩ := hrs_le hG.w
  have hwl := hG.w.wl
  have hM : (truR m (manyS m).toNat).length ≤ 3000 := by have := manyS_eq m; have := truR_len m (manyS m).toNat; omega
  unfold cv
  refine CallJ.enter Try.func46 rfl (by simp only [Try.ntmps46, List.length_cons, List.length_nil, Nat.zero_add, Nat.reduceAdd, Nat.reduceSub, List.replicate_succ, List.replicate_zero, List.cons_append, List.nil_append]; rfl) ?_
  repeat' (first
    | ((fail_if_success (first | refine is_ucall ?_ | refine is_umcall ?_)); first | refine W1 ?_ | refine Wc ?_ | refine W2c ?_ ?_ | refine Wg ?_ | refine W2 ?_ ?_ | exact Wdead | refine Wlive (fun hb => ?_) | intro _ _ _ _ _ _ _ _ | refine We ?_ | refine Wx ?_ | refine Wt ?_ | refine Wm ?_ | refine W2m ?_ ?_ | refine Wl ?_)
    | fail)
  refine WPJ.loopT 21 [9, 10, 13, 14, 15, 16, 17, 18, 19, 20, 21, 22, 23, 24, 25, 26, 11, 12] (fun j (_ : Unit) => [(8, .int .i64 j), (7, .int .i64 (bestS m k j))])
    (fun j _ H1 g1 => g1 = g ∧ Ext H H1 ∧ H1[H.length]? = some (.row (ccells m s1 s2 s3 s4) 1 true)) 0 () (Nat.zero_le _) (by intro p hp; simp at hp; rcases hp with rfl | rfl <;> rfl) ⟨rfl, extA, getA⟩ ?_
  rintro j _ H1 g1 hj ⟨rfl, he, hb0⟩ hl0
  simp only [updT, maskT, List.set_cons_zero, List.set_cons_succ]
  rcases Nat.lt_or_ge j 21 with hlt | hge
  · have hx : (0 : Int) ≤ (j : Nat) ∧ ((j : Nat) : Int) ≤ 20 := by omega
    have hol : (oneL (hrs m) k j).length = m.want.length := by simp [oneL, hwl]
    have hob := oneL_bd (n := hrs m) (h := k) hx
    have hWm := hG.w.more hG.wn hob
    have hstep : bestS m k (j + 1) = if spareB m k (j : Nat) then ((j : Nat) : Int) else bestS m k j := rfl
    have hmx := hm.ext he
    have hlx := hl.ext he
    have hv := truR_verdict hG (keptT (moreM m (oneL (hrs m) k j)))
    have h1 := verdict_one (truthsL m) (keptT (moreM m (oneL (hrs m) k j)))
    rw [show (truthsL m).all (keptT (moreM m (oneL (hrs m) k j))) = spareB m k (j : Nat) from rfl] at h1
    have hcall : ∀ (H' : AHeap) (ws : Value), Ext H1 H' → RdS H' ws 1 (encI (addL m.want.length m.want (oneL (hrs m) k j))) → CallJ Try.prog trivE 44 [cv m s1 s2 s3 s4, lv, s1, ws] (fun v H2 g2 => v = .int .i64 (verdictS (truthsL m) (keptT (moreM m (oneL (hrs m) k j)))) ∧ H2 = H' ∧ g2 = ()) H' () := fun H' ws e hr => by
      rw [← hv]
      rw [hwl] at hr
      exact Wholes_spec trivE () H' m s1 s2 s3 s4 lv s1 ws _ m.coal _ (hmx.ext e) hWm (hlx.ext e) (fun t ht => (truR_mem hG ht).2) hM ((hmx.ext e).coal) hr
    clear hv
    repeat' (first
      | ((fail_if_success (first | refine is_ucall ?_ | refine is_umcall ?_)); first | refine W1 ?_ | refine Wc ?_ | refine W2c ?_ ?_ | refine Wg ?_ | refine W2 ?_ ?_ | exact Wdead | refine Wlive (fun hb => ?_) | intro _ _ _ _ _ _ _ _ | refine We ?_ | refine Wx ?_ | refine Wt ?_ | refine Wm ?_ | refine W2m ?_ ?_ | refine Wl ?_)
      | fail)
    refine WPJ.draw 13 mixed (by kernel_rfl) (by kernel_rfl) (by kernel_rfl) (by decide) ?_
    refine MonoJ.normA ?_
    repeat' (first
      | ((fail_if_success (first | refine is_ucall ?_ | refine is_umcall ?_)); first | refine W1 ?_ | refine Wc ?_ | refine W2c ?_ ?_ | refine Wg ?_ | refine W2 ?_ ?_ | exact Wdead | refine Wlive (fun hb => ?_) | intro _ _ _ _ _ _ _ _ | refine We ?_ | refine Wx ?_ | refine Wt ?_ | refine Wm ?_ | refine W2m ?_ ?_ | refine Wl ?_)
      | fail)
    refine mj_callL (h := Single_spec _ _ _ m s1 s2 s3 s4 (hmx.ext extA) hG.w k j hk) (k := ?_)
    refine MonoJ.normA ?_
    repeat' (first
      | ((fail_if_success (first | refine is_ucall ?_ | refine is_umcall ?_)); first | refine W1 ?_ | refine Wc ?_ | refine W2c ?_ ?_ | refine Wg ?_ | refine W2 ?_ ?_ | exact Wdead | refine Wlive (fun hb => ?_) | intro _ _ _ _ _ _ _ _ | refine We ?_ | refine Wx ?_ | refine Wt ?_ | refine Wm ?_ | refine W2m ?_ ?_ | refine Wl ?_)
      | fail)
    have hrd : RdS (H1 ++ [.row (encE (oneL (hrs m) k j)) 1 true]) (.slice (some ⟨H1.length, 0, none⟩) (hrs m) (hrs m)) 1 (encI (oneL (hrs m) k j)) := by
      have := rd_encE (cap := hrs m) (s := oneL (hrs m) k j) (H := H1 ++ [.row (encE (oneL (hrs m) k j)) 1 true]) (i := H1.length) (own := true) (cs := encE (oneL (hrs m) k j)) (by simp) (List.take_of_length_le (by simp [encE]))
      rw [hol, hwl] at this
      exact this
    refine mj_callL (h := Sum_spec _ _ _ s2 _ m.want (oneL (hrs m) k j) (hmx.ext ⟨_, rfl⟩).want hrd hol (by omega) hG.wn hob) (k := ?_)
    have hsum : RdS ((H1 ++ [.row (encE (oneL (hrs m) k j)) 1 true]) ++ slH enc1 1 (addL m.want.length m.want (oneL (hrs m) k j))) (slV (H1.length + 1) (addL m.want.length m.want (oneL (hrs m) k j))) 1 (encI (addL m.want.length m.want (oneL (hrs m) k j))) := by
      rw [encI_eq]
      have := sl_rd (enc := enc1) (w := 1) (fun _ => rfl) (H1 ++ [.row (encE (oneL (hrs m) k j)) 1 true]) (addL m.want.length m.want (oneL (hrs m) k j))
      simpa using this
    have hc2 := hcall _ _ ⟨_, List.append_assoc ..⟩ hsum
    have hsl : slH enc1 1 (addL m.want.length m.want (oneL (hrs m) k j)) = [.row (encE (addL m.want.length m.want (oneL (hrs m) k j))) 1 true] := by
      unfold slH
      rw [enc1_flat]
      have : (addL m.want.length m.want (oneL (hrs m) k j)).isEmpty = false := by
        rw [List.isEmpty_eq_false_iff]
        intro hc
        have := congrArg List.length hc
        simp only [addL, List.length_map, List.length_range, List.length_nil] at this
        omega
      rw [this]; rfl
    clear hcall hrd hsum
    rw [hsl] at hc2 ⊢
    have hap : ∀ a b : AObj, (H1 ++ [a]) ++ [b] = H1 ++ [a, b] := fun a b => by simp
    rw [hap] at hc2
    clear hsl
    refine MonoJ.normA ?_
    repeat' (first
      | ((fail_if_success (first | refine is_ucall ?_ | refine is_umcall ?_)); first | refine W1 ?_ | refine Wc ?_ | refine W2c ?_ ?_ | refine Wg ?_ | refine W2 ?_ ?_ | exact Wdead | refine Wlive (fun hb => ?_) | intro _ _ _ _ _ _ _ _ | refine We ?_ | refine Wx ?_ | refine Wt ?_ | refine Wm ?_ | refine W2m ?_ ?_ | refine Wl ?_)
      | fail)
    refine mj_callP (args := [cv m s1 s2 s3 s4, lv, s1, slV (H1.length + 1) (addL m.want.length m.want (oneL (hrs m) k j))]) (ha := rfl) (h := hc2) (k := ?_)
    clear hc2
    generalize verdictS (truthsL m) (keptT (moreM m (oneL (hrs m) k j))) = q at *
    refine MonoJ.normA ?_
    repeat' (first
      | ((fail_if_success (first | refine is_ucall ?_ | refine is_umcall ?_)); first | refine W1 ?_ | refine Wc ?_ | refine W2c ?_ ?_ | refine Wg ?_ | refine W2 ?_ ?_ | exact Wdead | refine Wlive (fun hb => ?_) | intro _ _ _ _ _ _ _ _ | refine We ?_ | refine Wx ?_ | refine Wt ?_ | refine Wm ?_ | refine W2m ?_ ?_ | refine Wl ?_)
      | fail)
    · rw [hstep, if_pos (h1.1 (by assumption))]
      exact ⟨(), hlt, (by repeat' (first | exact Weak.nil | refine Weak.wild ?_ | refine Weak.same ?_ | refine Weak.intEq (by first | omega | (simp; done) | (push_cast; omega)) ?_)), rfl, extA, getA⟩
    · rw [hstep, if_neg (fun h => absurd (h1.2 h) (by assumption))]
      exact ⟨(), hlt, (by repeat' (first | exact Weak.nil | refine Weak.wild ?_ | refine Weak.same ?_ | refine Weak.intEq (by first | omega | (simp; done) | (push_cast; omega)) ?_)), rfl, extA, getA⟩
  · obtain rfl : j = 21 := by omega
    repeat' (first
      | ((fail_if_success (first | refine is_ucall ?_ | refine is_umcall ?_)); first | refine W1 ?_ | refine Wc ?_ | refine W2c ?_ ?_ | refine Wg ?_ | refine W2 ?_ ?_ | exact Wdead | refine Wlive (fun hb => ?_) | intro _ _ _ _ _ _ _ _ | refine We ?_ | refine Wx ?_ | refine Wt ?_ | refine Wm ?_ | refine W2m ?_ ?_ | refine Wl ?_)
      | fail)
    exact ⟨⟨rfl, he⟩, rfl⟩
end
end Go.Proofs.Ytjbiidlmpaibkaa
