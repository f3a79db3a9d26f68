import Derived.Test.YtjbiidlmpaibkaaItp
import Derived.Test.YtjbiidlmpaibkaaJlp
namespace Go.Proofs.Ytjbiidlmpaibkaa
open Go Go.Abs Go.Proofs
set_option maxHeartbeats 4000000
set_option maxRecDepth 20000
attribute [local irreducible] CallJ OpsJ WPJ CallV MonoJ SpecJ
theorem more_get {m : CopM} {l : List Int} {j : Nat} (hj : j < hrs m) : (moreM m l).want.getD j 0 = m.want.getD j 0 + l.getD j 0 := by
  show (addL (hrs m) m.want l).getD j 0 = _
  simp [addL, List.getD, hj]
theorem more_get' {m : CopM} {l : List Int} {j : Nat} (hj : hrs m ≤ j) : (moreM m l).want.getD j 0 = 0 := by
  show (addL (hrs m) m.want l).getD j 0 = _
  simp [addL, List.getD, hj]
theorem more_kept {m : CopM} (hG : Good m) {l k : List Int} (hl : ∀ x ∈ l, 0 ≤ x ∧ x ≤ 20) (hk : ∀ x ∈ k, 0 ≤ x ∧ x ≤ 20) (hle : ∀ j, l.getD j 0 ≤ k.getD j 0) {t : Int × List Int} (h : keptT (moreM m k) t = true) : keptT (moreM m l) t = true := by
  have hWl := hG.w.more hG.wn hl
  have hWk := hG.w.more hG.wn hk
  rw [kept_all hWk, List.all_eq_true] at h
  rw [kept_all hWl, List.all_eq_true]
  have := less_kept (moreM m k) (addL (hrs m) m.want l) t (fun j => by
    show (moreM m l).want.getD j 0 ≤ (moreM m k).want.getD j 0
    rcases Nat.lt_or_ge j (hrs m) with hj | hj
    · rw [more_get hj, more_get hj]; have := hle j; omega
    · rw [more_get' hj, more_get' hj]; exact Int.le_refl _) hG.w.per.1 (fun j hj => h j (List.mem_range.2 hj))
  intro j hj
  exact this j (List.mem_range.1 hj)
theorem more_always {m : CopM} (hG : Good m) {l k : List Int} (hl : ∀ x ∈ l, 0 ≤ x ∧ x ≤ 20) (hk : ∀ x ∈ k, 0 ≤ x ∧ x ≤ 20) (hle : ∀ j, l.getD j 0 ≤ k.getD j 0) (h : moreV m k = 1) : moreV m l = 1 := by
  unfold moreV at *
  rw [verdict_one, List.all_eq_true] at *
  exact fun t ht => more_kept hG hl hk hle (h t ht)
theorem verdict_never (l : List (Int × List Int)) (p : Int × List Int → Bool) : verdictS l p = 2 ↔ l.all p = false ∧ l.any p = false := by
  unfold verdictS
  cases l.all p <;> cases l.any p <;> simp
theorem more_never {m : CopM} (hG : Good m) (hs : hasS m = true) {l k : List Int} (hl : ∀ x ∈ l, 0 ≤ x ∧ x ≤ 20) (hk : ∀ x ∈ k, 0 ≤ x ∧ x ≤ 20) (hle : ∀ j, l.getD j 0 ≤ k.getD j 0) (h : moreV m l = 2) : moreV m k = 2 := by
  unfold moreV at *
  rw [verdict_never] at *
  obtain ⟨t0, h0⟩ : ∃ t, t ∈ truthsL m := by
    unfold hasS at hs
    cases hl : truthsL m with
    | nil => rw [hl] at hs; cases hs
    | cons t l => exact ⟨t, by simp⟩
  have hn : ∀ t ∈ truthsL m, keptT (moreM m k) t = false := fun t ht => by
    cases hh : keptT (moreM m k) t with
    | false => rfl
    | true =>
      have h1 := more_kept hG hl hk hle hh
      have h2 := List.any_eq_false.1 h.2 t ht
      rw [h1] at h2; exact absurd rfl h2
  exact ⟨all_false (List.getElem?_eq_some_iff.2 (List.mem_iff_getElem.1 h0 |>.choose_spec) |> fun h => h) (hn _ h0), List.any_eq_false.2 fun t ht => by rw [hn t ht]; simp⟩
theorem zeros_bd (n : Nat) : ∀ x ∈ List.replicate n (0 : Int), 0 ≤ x ∧ x ≤ 20 := fun x hx => by rw [(List.mem_replicate.1 hx).2]; omega
theorem more_zero {m : CopM} (hG : Good m) : moreM m (List.replicate (hrs m) 0) = m := by
  have hw := hG.w.wl
  have : addL (hrs m) m.want (List.replicate (hrs m) 0) = m.want := by
    refine List.ext_getElem (by simp [addL, hw]) fun i h1 h2 => ?_
    simp [addL, List.getD, h2, show i < hrs m by omega]
  unfold moreM
  rw [this]
theorem zero_always {m : CopM} (hG : Good m) : moreV m (List.replicate (hrs m) 0) = 1 ↔ allKept m = true := by
  unfold moreV
  rw [more_zero hG, verdict_one]
  rfl
theorem lacks_all {m : CopM} (hG : Good m) : (lacksF m (hrs m)).isNone = allKept m := by
  rw [Bool.eq_iff_iff, Option.isNone_iff_eq_none]
  unfold lacksF allKept
  rw [List.find?_eq_none, List.all_eq_true]
  have key : ∀ j < hrs m, (keepsL m).getD j 0 = 1 ↔ ∀ t ∈ truthsL m, keepQ m j t = true := by
    intro j hj
    rw [← List.all_eq_true, ← verdict_one]
    unfold keepsL
    simp [List.getD, hj]
  constructor
  · intro h t ht
    rw [kept_all hG.w, List.all_eq_true]
    intro j hj
    have hj' := List.mem_range.1 hj
    have h1 := h j hj
    simp only [ne_eq, decide_not, Bool.not_eq_true', decide_eq_false_iff_not, Decidable.not_not] at h1
    exact (key j hj').1 h1 t ht
  · intro h j hj
    have hj' := List.mem_range.1 hj
    simp only [ne_eq, decide_not, Bool.not_eq_true', decide_eq_false_iff_not, Decidable.not_not]
    refine (key j hj').2 fun t ht => ?_
    have h1 := h t ht
    rw [kept_all hG.w, List.all_eq_true] at h1
    exact h1 j hj
theorem spareS_is (m : CopM) (hG : Good m) (h : Nat) (ha : allKept m = true) : ∀ k : Nat, (0 ≤ spareS m h k ∧ spareS m h k ≤ k) ∧ spareB m h (spareS m h k) = true ∧ ∀ x : Int, spareS m h k < x → x ≤ k → spareB m h x = false
  | 0 => by
    refine ⟨⟨Int.le_refl _, Int.le_refl _⟩, ?_, fun x h1 h2 => ?_⟩
    · show spareB m h 0 = true
      rw [spareB_zero hG]; exact ha
    · have h3 : (0 : Int) < x := h1
      have h4 : x ≤ ((0 : Nat) : Int) := h2
      omega
  | k + 1 => by
    obtain ⟨i1, i2, i3⟩ := spareS_is m hG h ha k
    have e0 : spareS m h (k + 1) = if spareB m h (k + 1 : Nat) then ((k + 1 : Nat) : Int) else spareS m h k := rfl
    rw [e0]
    cases hb : spareB m h (k + 1 : Nat) with
    | true =>
      rw [if_pos rfl]
      exact ⟨⟨by omega, Int.le_refl _⟩, hb, fun x h1 h2 => by omega⟩
    | false =>
      rw [if_neg (by simp)]
      refine ⟨⟨i1.1, by have := i1.2; omega⟩, i2, fun x h1 h2 => ?_⟩
      by_cases e : x = ((k + 1 : Nat) : Int)
      · rw [e]; exact hb
      · exact i3 x h1 (by omega)
theorem single_always (m : CopM) (h : Nat) (x : Int) : moreV m (oneL (hrs m) h x) = 1 ↔ spareB m h x = true := by
  unfold moreV
  rw [verdict_one]
  rfl
theorem one_len (n h : Nat) (x : Int) : (oneL n h x).length = n := by simp [oneL]
theorem one_bd {n h : Nat} {x : Int} (hx : 0 ≤ x ∧ x ≤ 20) : ∀ y ∈ oneL n h x, 0 ≤ y ∧ y ≤ 20 := by
  intro y hy
  unfold oneL at hy
  rcases List.mem_or_eq_of_mem_set hy with h1 | rfl
  · rw [(List.mem_replicate.1 h1).2]; omega
  · exact hx
theorem for20 {m : CopM} (hG : Good m) {l : List Int} (hl : l.length = hrs m) (hb : ∀ x ∈ l, 0 ≤ x ∧ x ≤ 20) : forHours m l 20 = true := by
  have hnl := (hrs_le hG.w).2
  simp only [forHours, inR, Bool.and_eq_true, List.all_eq_true, decide_eq_true_eq]
  exact ⟨by rw [hl]; omega, fun x hx => hb x hx⟩
theorem moreE_of {m : CopM} (hz : checkS m = 0) {l : List Int} (hf : forHours m l 20 = true) : moreE m l = if hasS m then 0 else 11 := by
  unfold moreE; rw [if_pos hz, if_pos hf]
theorem AppG.stay {α : Type} {enc : α → List Value} {w n : Nat} {H H2 : AHeap} {v : Value} {l : List α} (h : AppG enc w H n v l) (hs : ∀ i c d o, v = .slice (some ⟨i, 0, none⟩) c d → H[i]? = some o → H2[i]? = some o) : AppG enc w H2 n v l := by
  rcases h with h | ⟨i, h1, h2, h3, h4⟩
  · exact .inl h
  · exact .inr ⟨i, h1, hs i _ _ _ h1 h2, h3, h4⟩
end Go.Proofs.Ytjbiidlmpaibkaa
