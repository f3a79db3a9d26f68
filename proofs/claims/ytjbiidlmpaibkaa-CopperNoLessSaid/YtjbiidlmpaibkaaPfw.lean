import Derived.Test.YtjbiidlmpaibkaaU6
namespace Go.Proofs.Ytjbiidlmpaibkaa
open Go Go.Abs Go.Proofs
set_option maxHeartbeats 1600000
attribute [local irreducible] CallJ OpsJ WPJ CallV MonoJ SpecJ
def bitsN (b n : Nat) : List Int := ((List.range n).filter fun p => b.testBit p).map fun (p : Nat) => (p : Int)
def beforeS : List Int → List Int → Bool
  | [], b => !b.isEmpty
  | _ :: _, [] => false
  | x :: a, y :: b => if x = y then beforeS a b else decide (x < y)
def shorterS (a b : List Int) : Bool := decide (a.length < b.length) || (decide (a.length = b.length) && beforeS a b)
theorem before_at : ∀ (a b : List Int) (i : Nat), a.take i = b.take i → (∀ x y, a[i]? = some x → b[i]? = some y → x ≠ y → beforeS a b = decide (x < y)) ∧ ((a.length ≤ i ∨ b.length ≤ i) → i ≤ a.length → i ≤ b.length → beforeS a b = decide (a.length < b.length))
  | [], b, i, h => by
    refine ⟨fun x y h1 => by simp at h1, fun _ h1 h2 => ?_⟩
    cases b <;> simp [beforeS]
  | x :: a, [], i, h => by
    refine ⟨fun x y h1 h2 => by simp at h2, fun _ h1 h2 => ?_⟩
    simp [beforeS]
  | x :: a, y :: b, 0, h => by
    refine ⟨fun u v h1 h2 h3 => ?_, fun h1 _ _ => by simp at h1⟩
    simp at h1 h2
    subst h1 h2
    simp only [beforeS]
    rw [if_neg h3]
  | x :: a, y :: b, i + 1, h => by
    simp only [List.take_succ_cons, List.cons.injEq] at h
    obtain ⟨rfl, h⟩ := h
    have ih := before_at a b i h
    refine ⟨fun u v h1 h2 h3 => ?_, fun h1 h2 h3 => ?_⟩
    · simp only [beforeS, if_true]
      exact ih.1 u v (by simpa using h1) (by simpa using h2) h3
    · simp only [beforeS, if_true]
      rw [ih.2 (by simp at h1; omega) (by simp at h2; omega) (by simp at h3; omega)]
      simp
section
variable {γ : Type} (E : Env γ) (g : γ) (H : AHeap)
theorem Before_spec (av bv : Value) (a b : List Int) (ha : RdS H av 1 (encI a)) (hb : RdS H bv 1 (encI b)) (hal : a.length ≤ 1000000) (_hbl : b.length ≤ 1000000) : CallJ Try.prog E 69 [av, bv] (fun v H' g' => v = .bool (beforeS a b) ∧ H' = H ∧ g' = g) H g := by
  refine CallJ.tidy ?_
  refine CallJ.enter Try.func69 rfl (by simp only [Try.ntmps69, List.length_cons, List.length_nil, Nat.zero_add, Nat.reduceAdd, Nat.reduceSub, List.replicate_succ, List.replicate_zero, List.cons_append, List.nil_append]; rfl) ?_
  repeat' (first
    | ((fail_if_success (first | refine is_ucall ?_ | refine is_umcall ?_)); first | refine W1 ?_ | refine Wc ?_ | refine W2c ?_ ?_ | refine Wg ?_ | refine W2 ?_ ?_ | exact Wdead | refine Wlive (fun hb => ?_) | intro _ _ _ _ _ _ _ _ | refine We ?_ | refine Wx ?_ | refine Wt ?_ | refine Wm ?_ | refine W2m ?_ ?_ | refine Wl ?_)
    | fail)
  refine WPJ.loopT (min a.length b.length) [6, 7, 8, 9, 10, 11, 12, 13, 14, 15, 16, 17, 18, 19, 20, 21, 22, 23, 24, 25, 26, 27, 28, 29, 30, 31, 32, 33, 34, 35] (fun j (_ : Unit) => [(5, .int .i64 j)])
    (fun j _ H1 g1 => g1 = g ∧ H1 = H ∧ a.take j = b.take j) 0 () (Nat.zero_le _) (by intro p hp; simp at hp; rcases hp with rfl; rfl) ⟨rfl, rfl, rfl⟩ ?_
  rintro j _ H1 g1 hj ⟨rfl, rfl, hx⟩ hl0
  simp only [updT, maskT, List.set_cons_zero, List.set_cons_succ]
  have hat := before_at a b j hx
  by_cases hja : j < a.length
  · by_cases hjb : j < b.length
    · have hela : (encI a)[(j : Int).toNat]? = some [.int .i64 a[j]] := by simp [hja]
      have helb : (encI b)[(j : Int).toNat]? = some [.int .i64 b[j]] := by simp [hjb]
      have h1 := hat.1 a[j] b[j] (List.getElem?_eq_getElem hja) (List.getElem?_eq_getElem hjb)
      have hta := List.take_succ_eq_append_getElem hja
      have htb := List.take_succ_eq_append_getElem hjb
      generalize a[j] = x at *
      generalize b[j] = y at *
      repeat' (first
        | ((fail_if_success (first | refine is_ucall ?_ | refine is_umcall ?_)); first | refine W1 ?_ | refine Wc ?_ | refine W2c ?_ ?_ | refine Wg ?_ | refine W2 ?_ ?_ | exact Wdead | refine Wlive (fun hb => ?_) | intro _ _ _ _ _ _ _ _ | refine We ?_ | refine Wx ?_ | refine Wt ?_ | refine Wm ?_ | refine W2m ?_ ?_ | refine Wl ?_)
        | fail)
      refine WPJ.draw 9 mixed (by kernel_rfl) (by kernel_rfl) (by kernel_rfl) (by decide) ?_
      refine MonoJ.normA ?_
      repeat' (first
        | ((fail_if_success (first | refine is_ucall ?_ | refine is_umcall ?_)); first | refine W1 ?_ | refine Wc ?_ | refine W2c ?_ ?_ | refine Wg ?_ | refine W2 ?_ ?_ | exact Wdead | refine Wlive (fun hb => ?_) | intro _ _ _ _ _ _ _ _ | refine We ?_ | refine Wx ?_ | refine Wt ?_ | refine Wm ?_ | refine W2m ?_ ?_ | refine Wl ?_)
        | fail)
      · skip
        refine WPJ.draw 10 mixed (by kernel_rfl) (by kernel_rfl) (by kernel_rfl) (by decide) ?_
        refine MonoJ.normA ?_
        repeat' (first
          | ((fail_if_success (first | refine is_ucall ?_ | refine is_umcall ?_)); first | refine W1 ?_ | refine Wc ?_ | refine W2c ?_ ?_ | refine Wg ?_ | refine W2 ?_ ?_ | exact Wdead | refine Wlive (fun hb => ?_) | intro _ _ _ _ _ _ _ _ | refine We ?_ | refine Wx ?_ | refine Wt ?_ | refine Wm ?_ | refine W2m ?_ ?_ | refine Wl ?_)
          | fail)
        rw [h1 (by assumption)]
        exact ⟨rfl, rfl, rfl⟩
      · exact ⟨(), by omega, (by repeat' (first | exact Weak.nil | refine Weak.wild ?_ | refine Weak.same ?_ | refine Weak.intEq (by first | omega | (simp; done) | (push_cast; omega)) ?_)), rfl, rfl, by rw [hta, htb, hx, show x = y by omega]⟩
    · have h2 := hat.2 (.inr (by omega)) (by omega) (by omega)
      repeat' (first
        | ((fail_if_success (first | refine is_ucall ?_ | refine is_umcall ?_)); first | refine W1 ?_ | refine Wc ?_ | refine W2c ?_ ?_ | refine Wg ?_ | refine W2 ?_ ?_ | exact Wdead | refine Wlive (fun hb => ?_) | intro _ _ _ _ _ _ _ _ | refine We ?_ | refine Wx ?_ | refine Wt ?_ | refine Wm ?_ | refine W2m ?_ ?_ | refine Wl ?_)
        | fail)
      rw [h2]
      refine ⟨?_, rfl, rfl⟩
      simp
  · have h2 := hat.2 (.inl (by omega)) (by omega) (by omega)
    repeat' (first
      | ((fail_if_success (first | refine is_ucall ?_ | refine is_umcall ?_)); first | refine W1 ?_ | refine Wc ?_ | refine W2c ?_ ?_ | refine Wg ?_ | refine W2 ?_ ?_ | exact Wdead | refine Wlive (fun hb => ?_) | intro _ _ _ _ _ _ _ _ | refine We ?_ | refine Wx ?_ | refine Wt ?_ | refine Wm ?_ | refine W2m ?_ ?_ | refine Wl ?_)
      | fail)
    rw [h2]
    refine ⟨?_, rfl, rfl⟩
    simp
end
end Go.Proofs.Ytjbiidlmpaibkaa
