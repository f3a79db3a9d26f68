import Derived.Test.YtjbiidlmpaibkaaU6
namespace Go.Proofs.Ytjbiidlmpaibkaa
open Go Go.Abs Go.Proofs
set_option maxHeartbeats 1600000
attribute [local irreducible] CallJ OpsJ WPJ CallV MonoJ SpecJ
theorem fmin_le : ∀ (xs : List Int) (a : Int), xs.foldl min a ≤ a ∧ ∀ x ∈ xs, xs.foldl min a ≤ x
  | [], a => ⟨Int.le_refl _, fun x h => by cases h⟩
  | y :: xs, a => by
    obtain ⟨h1, h2⟩ := fmin_le xs (min a y)
    refine ⟨by show List.foldl min (min a y) xs ≤ a; omega, fun x hx => ?_⟩
    show List.foldl min (min a y) xs ≤ x
    rcases List.mem_cons.1 hx with rfl | hx
    · omega
    · exact h2 x hx
theorem fmin_mem : ∀ (xs : List Int) (a : Int), xs.foldl min a = a ∨ xs.foldl min a ∈ xs
  | [], a => .inl rfl
  | y :: xs, a => by
    show List.foldl min (min a y) xs = a ∨ List.foldl min (min a y) xs ∈ _
    rcases fmin_mem xs (min a y) with h | h
    · rw [h]
      rcases Int.le_total a y with h1 | h1
      · exact .inl (Int.min_eq_left h1)
      · exact .inr (by rw [Int.min_eq_right h1]; simp)
    · exact .inr (List.mem_cons_of_mem _ h)
theorem fmax_ge : ∀ (xs : List Int) (a : Int), a ≤ xs.foldl max a ∧ ∀ x ∈ xs, x ≤ xs.foldl max a
  | [], a => ⟨Int.le_refl _, fun x h => by cases h⟩
  | y :: xs, a => by
    obtain ⟨h1, h2⟩ := fmax_ge xs (max a y)
    refine ⟨by show a ≤ List.foldl max (max a y) xs; omega, fun x hx => ?_⟩
    show x ≤ List.foldl max (max a y) xs
    rcases List.mem_cons.1 hx with rfl | hx
    · omega
    · exact h2 x hx
theorem fmax_mem : ∀ (xs : List Int) (a : Int), xs.foldl max a = a ∨ xs.foldl max a ∈ xs
  | [], a => .inl rfl
  | y :: xs, a => by
    show List.foldl max (max a y) xs = a ∨ List.foldl max (max a y) xs ∈ _
    rcases fmax_mem xs (max a y) with h | h
    · rw [h]
      rcases Int.le_total y a with h1 | h1
      · exact .inl (Int.max_eq_left h1)
      · exact .inr (by rw [Int.max_eq_right h1]; simp)
    · exact .inr (List.mem_cons_of_mem _ h)
theorem fmin_at {xs : List Int} {a x : Int} (hx : x ∈ xs) (ha : ∀ y ∈ xs, y ≤ a) : xs.foldl min a ∈ xs ∧ ∀ y ∈ xs, xs.foldl min a ≤ y := by
  obtain ⟨h1, h2⟩ := fmin_le xs a
  refine ⟨?_, h2⟩
  rcases fmin_mem xs a with h | h
  · have h3 := h2 x hx
    have h4 := ha x hx
    rw [h] at h3
    obtain rfl : x = a := by omega
    rw [h]; exact hx
  · exact h
theorem fmax_at {xs : List Int} {a x : Int} (hx : x ∈ xs) (ha : ∀ y ∈ xs, a ≤ y) : xs.foldl max a ∈ xs ∧ ∀ y ∈ xs, y ≤ xs.foldl max a := by
  obtain ⟨h1, h2⟩ := fmax_ge xs a
  refine ⟨?_, h2⟩
  rcases fmax_mem xs a with h | h
  · have h3 := h2 x hx
    have h4 := ha x hx
    rw [h] at h3
    obtain rfl : x = a := by omega
    rw [h]; exact hx
  · exact h
theorem fmin_same {xs ys : List Int} {a b x : Int} (hx : x ∈ xs) (he : ∀ y, y ∈ xs ↔ y ∈ ys) (ha : ∀ y ∈ xs, y ≤ a) (hb : ∀ y ∈ xs, y ≤ b) : xs.foldl min a = ys.foldl min b := by
  obtain ⟨h1, h2⟩ := fmin_at hx ha
  obtain ⟨h3, h4⟩ := fmin_at ((he x).1 hx) (fun y hy => hb y ((he y).2 hy))
  have := h2 _ ((he _).2 h3)
  have := h4 _ ((he _).1 h1)
  omega
theorem fmax_same {xs ys : List Int} {a b x : Int} (hx : x ∈ xs) (he : ∀ y, y ∈ xs ↔ y ∈ ys) (ha : ∀ y ∈ xs, a ≤ y) (hb : ∀ y ∈ xs, b ≤ y) : xs.foldl max a = ys.foldl max b := by
  obtain ⟨h1, h2⟩ := fmax_at hx ha
  obtain ⟨h3, h4⟩ := fmax_at ((he x).1 hx) (fun y hy => hb y ((he y).2 hy))
  have := h2 _ ((he _).2 h3)
  have := h4 _ ((he _).1 h1)
  omega
end Go.Proofs.Ytjbiidlmpaibkaa
