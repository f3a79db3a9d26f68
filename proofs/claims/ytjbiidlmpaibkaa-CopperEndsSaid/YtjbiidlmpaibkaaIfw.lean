import Derived.Test.YtjbiidlmpaibkaaIdw
namespace Go.Proofs.Ytjbiidlmpaibkaa
open Go Go.Abs Go.Proofs
set_option maxHeartbeats 1600000
attribute [local irreducible] CallJ OpsJ WPJ CallV MonoJ SpecJ


/-! ### Sets of clips, by bits -/

def bitsN (b n : Nat) : List Int := ((List.range n).filter fun p => b.testBit p).map fun (p : Nat) => (p : Int)
theorem bitsN_step (b n : Nat) : bitsN b (n + 1) = if b.testBit n then bitsN b n ++ [(n : Int)] else bitsN b n := by
  unfold bitsN
  rw [List.range_succ, List.filter_append, List.map_append]
  by_cases h : b.testBit n <;> simp [h]
theorem bitsN_len (b n : Nat) : (bitsN b n).length ≤ n := by
  unfold bitsN
  rw [List.length_map]
  exact Nat.le_trans (List.length_filter_le _ _) (by simp)
theorem bitsN_more {b : Nat} : ∀ {n k : Nat}, (∀ p, n ≤ p → b.testBit p = false) → bitsN b (n + k) = bitsN b n
  | n, 0, _ => rfl
  | n, k + 1, h => by
    rw [← Nat.add_assoc, bitsN_step, h (n + k) (by omega), if_neg (by simp)]
    exact bitsN_more h
theorem bit_len (b : Nat) (n : Nat) (hb : b < 2 ^ n) : ∃ N, N ≤ n ∧ (∀ p, 0 < b / 2 ^ p ↔ p < N) ∧ bitsN b N = bitsN b n := by
  by_cases h0 : b = 0
  · subst h0
    refine ⟨0, Nat.zero_le _, fun p => by simp, ?_⟩
    have := bitsN_more (b := 0) (n := 0) (k := n) (by simp)
    rw [Nat.zero_add] at this
    exact this.symm
  · have hl : b.log2 < n := (Nat.log2_lt h0).2 hb
    refine ⟨b.log2 + 1, by omega, fun p => ?_, ?_⟩
    · rw [Nat.div_pos_iff]
      have : p ≤ b.log2 ↔ 2 ^ p ≤ b := Nat.le_log2 h0
      constructor
      · rintro ⟨_, h⟩; have := this.2 h; omega
      · intro h; exact ⟨Nat.two_pow_pos p, this.1 (by omega)⟩
    · have := bitsN_more (b := b) (n := b.log2 + 1) (k := n - (b.log2 + 1)) (fun p hp => Nat.testBit_lt_two_pow (Nat.lt_of_lt_of_le Nat.lt_log2_self (Nat.pow_le_pow_right (by decide) hp)))
      rw [Nat.add_sub_cancel' (by omega)] at this
      exact this.symm
/-- a list before another one, as the reference compares them -/
def beforeS : List Int → List Int → Bool
  | [], b => !b.isEmpty
  | _ :: _, [] => false
  | x :: a, y :: b => if x = y then beforeS a b else decide (x < y)
def shorterS (a b : List Int) : Bool := decide (a.length < b.length) || (decide (a.length = b.length) && beforeS a b)
theorem before_at : ∀ (a b : List Int) (i : Nat), a.take i = b.take i → (∀ x y, a[i]? = some x → b[i]? = some y → x ≠ y → beforeS a b = decide (x < y)) ∧ ((a.length ≤ i ∨ b.length ≤ i) → i ≤ a.length → i ≤ b.length → beforeS a b = decide (a.length < b.length))
  | [], b, i, h => by
    refine ⟨fun x y h1 => by simp at h1, fun _ h1 h2 => ?_⟩
    cases b <;> simp [beforeS]
  | x :: a, [], i, h => by
    refine ⟨fun x y h1 h2 => by simp at h2, fun _ h1 h2 => ?_⟩
    simp [beforeS]
  | x :: a, y :: b, 0, h => by
    refine ⟨fun u v h1 h2 h3 => ?_, fun h1 _ _ => by simp at h1⟩
    simp at h1 h2
    subst h1 h2
    simp only [beforeS]
    rw [if_neg h3]
  | x :: a, y :: b, i + 1, h => by
    simp only [List.take_succ_cons, List.cons.injEq] at h
    obtain ⟨rfl, h⟩ := h
    have ih := before_at a b i h
    refine ⟨fun u v h1 h2 h3 => ?_, fun h1 h2 h3 => ?_⟩
    · simp only [beforeS, if_true]
      exact ih.1 u v (by simpa using h1) (by simpa using h2) h3
    · simp only [beforeS, if_true]
      rw [ih.2 (by simp at h1; omega) (by simp at h2; omega) (by simp at h3; omega)]
      simp
section
variable {γ : Type} (E : Env γ) (g : γ) (H : AHeap)
theorem Bits_spec (b n : Nat) (hb : b < 2 ^ n) (hn : n ≤ 30) : CallJ Try.prog E 75 [.int .i64 b] (fun v H' g' => v = slV H.length (bitsN b n) ∧ H' = H ++ slH enc1 1 (bitsN b n) ∧ g' = g) H g := by
  obtain ⟨N, hNn, hN, hbN⟩ := bit_len b n hb
  rw [← hbN]
  refine CallJ.tidy ?_
  refine CallJ.enter Try.func75 rfl (by simp only [Try.ntmps75, List.length_cons, List.length_nil, Nat.zero_add, Nat.reduceSub, List.replicate_succ, List.replicate_zero, List.cons_append, List.nil_append]; rfl) ?_
  repeat' (first
    | ((fail_if_success (first | refine is_ucall ?_ | refine is_umcall ?_)); first | refine W1 ?_ | refine Wc ?_ | refine W2c ?_ ?_ | refine Wg ?_ | refine W2 ?_ ?_ | exact Wdead | refine Wlive (fun hb => ?_) | intro _ _ _ _ _ _ _ _ | refine We ?_ | refine Wx ?_ | refine Wt ?_ | refine Wm ?_ | refine W2m ?_ ?_ | refine Wl ?_)
    | fail)
  refine WPJ.loopT N [5, 6, 7, 8, 9, 10, 11, 12, 13, 14, 15, 16, 17, 18, 19, 20, 21] (fun j (v : Value) => [(4, .int .i64 j), (3, v)])
    (fun j v H1 g1 => g1 = g ∧ Ext H H1 ∧ AppG enc1 1 H1 H.length v (bitsN b j)) 0 (.slice none 0 0) (Nat.zero_le _)
    (by intro p hp; simp at hp; rcases hp with rfl | rfl <;> rfl) ⟨rfl, Ext.refl _, AppG.nil⟩ ?_
  rintro j v H1 g1 hj ⟨rfl, he, hA⟩ hl0
  simp only [updT, maskT, List.set_cons_zero, List.set_cons_succ]
  have hsh := shr_eq (b := b) (p := j) (by omega)
  have hjN := hN j
  have hstep := bitsN_step b j
  have hlen := bitsN_len b j
  have htb := Nat.testBit_eq_decide_div_mod_eq (x := b) (i := j)
  generalize b / 2 ^ j = q at *
  have hu0 : 0 ≤ IntKind.u64.wrap (j : Int) := by rw [wrap_u64 (by omega) (by omega)]; omega
  have hq0 : 0 ≤ ((b : Int)).fdiv (2 ^ min (IntKind.u64.wrap (j : Int)).toNat IntKind.i64.bits) := by rw [hsh]; omega
  have hmod : ((b : Int)).fdiv (2 ^ min (IntKind.u64.wrap (j : Int)).toNat IntKind.i64.bits) % 2 = (q : Int) % 2 := by rw [hsh]
  repeat' (first
    | ((fail_if_success (first | refine is_ucall ?_ | refine is_umcall ?_)); first | refine W1 ?_ | refine Wc ?_ | refine W2c ?_ ?_ | refine Wg ?_ | refine W2 ?_ ?_ | exact Wdead | refine Wlive (fun hb => ?_) | intro _ _ _ _ _ _ _ _ | refine We ?_ | refine Wx ?_ | refine Wt ?_ | refine Wm ?_ | refine W2m ?_ ?_ | refine Wl ?_)
    | fail)
  · have hbt : b.testBit j = true := by rw [htb, decide_eq_true_eq]; omega
    rw [hbt, if_pos rfl] at hstep
    refine st_appG (enc := enc1) (a := (j : Int)) (hA.app _) rfl (fun _ => rfl) rfl rfl getA (by simp) rfl rfl (by simp; omega) (by omega) (by decide) ?_
    intro v2 H2 hA2 hE hK hL
    refine OpsJ.normA ?_
    repeat' (first
      | ((fail_if_success (first | refine is_ucall ?_ | refine is_umcall ?_)); first | refine W1 ?_ | refine Wc ?_ | refine W2c ?_ ?_ | refine Wg ?_ | refine W2 ?_ ?_ | exact Wdead | refine Wlive (fun hb => ?_) | intro _ _ _ _ _ _ _ _ | refine We ?_ | refine Wx ?_ | refine Wt ?_ | refine Wm ?_ | refine W2m ?_ ?_ | refine Wl ?_)
      | fail)
    refine ⟨v2, by omega, (by repeat' (first | exact Weak.nil | refine Weak.wild ?_ | refine Weak.same ?_ | refine Weak.intEq (by first | omega | (simp; done) | (push_cast; omega)) ?_)), rfl, hE H extA (Nat.le_refl _), by rw [hstep]; exact hA2⟩
  · have hbt : b.testBit j = false := by rw [htb, decide_eq_false_iff_not]; omega
    rw [hbt, if_neg (by simp)] at hstep
    exact ⟨v, by omega, (by repeat' (first | exact Weak.nil | refine Weak.wild ?_ | refine Weak.same ?_ | refine Weak.intEq (by first | omega | (simp; done) | (push_cast; omega)) ?_)), rfl, he, by rw [hstep]; exact hA⟩
  · obtain rfl : j = N := by omega
    exact hA.tidy (Nat.le_refl _) he (fun _ => rfl) ⟨rfl, rfl, rfl⟩
theorem Before_spec (av bv : Value) (a b : List Int) (ha : RdS H av 1 (encI a)) (hb : RdS H bv 1 (encI b)) (hal : a.length ≤ 1000000) (_hbl : b.length ≤ 1000000) : CallJ Try.prog E 69 [av, bv] (fun v H' g' => v = .bool (beforeS a b) ∧ H' = H ∧ g' = g) H g := by
  refine CallJ.tidy ?_
  refine CallJ.enter Try.func69 rfl (by simp only [Try.ntmps69, List.length_cons, List.length_nil, Nat.zero_add, Nat.reduceAdd, Nat.reduceSub, List.replicate_succ, List.replicate_zero, List.cons_append, List.nil_append]; rfl) ?_
  repeat' (first
    | ((fail_if_success (first | refine is_ucall ?_ | refine is_umcall ?_)); first | refine W1 ?_ | refine Wc ?_ | refine W2c ?_ ?_ | refine Wg ?_ | refine W2 ?_ ?_ | exact Wdead | refine Wlive (fun hb => ?_) | intro _ _ _ _ _ _ _ _ | refine We ?_ | refine Wx ?_ | refine Wt ?_ | refine Wm ?_ | refine W2m ?_ ?_ | refine Wl ?_)
    | fail)
  refine WPJ.loopT (min a.length b.length) [6, 7, 8, 9, 10, 11, 12, 13, 14, 15, 16, 17, 18, 19, 20, 21, 22, 23, 24, 25, 26, 27, 28, 29, 30, 31, 32, 33, 34, 35] (fun j (_ : Unit) => [(5, .int .i64 j)])
    (fun j _ H1 g1 => g1 = g ∧ H1 = H ∧ a.take j = b.take j) 0 () (Nat.zero_le _) (by intro p hp; simp at hp; rcases hp with rfl; rfl) ⟨rfl, rfl, rfl⟩ ?_
  rintro j _ H1 g1 hj ⟨rfl, rfl, hx⟩ hl0
  simp only [updT, maskT, List.set_cons_zero, List.set_cons_succ]
  have hat := before_at a b j hx
  by_cases hja : j < a.length
  · by_cases hjb : j < b.length
    · have hela : (encI a)[(j : Int).toNat]? = some [.int .i64 a[j]] := by simp [hja]
      have helb : (encI b)[(j : Int).toNat]? = some [.int .i64 b[j]] := by simp [hjb]
      have h1 := hat.1 a[j] b[j] (List.getElem?_eq_getElem hja) (List.getElem?_eq_getElem hjb)
      have hta := List.take_succ_eq_append_getElem hja
      have htb := List.take_succ_eq_append_getElem hjb
      generalize a[j] = x at *
      generalize b[j] = y at *
      repeat' (first
        | ((fail_if_success (first | refine is_ucall ?_ | refine is_umcall ?_)); first | refine W1 ?_ | refine Wc ?_ | refine W2c ?_ ?_ | refine Wg ?_ | refine W2 ?_ ?_ | exact Wdead | refine Wlive (fun hb => ?_) | intro _ _ _ _ _ _ _ _ | refine We ?_ | refine Wx ?_ | refine Wt ?_ | refine Wm ?_ | refine W2m ?_ ?_ | refine Wl ?_)
        | fail)
      refine WPJ.draw 9 mixed (by kernel_rfl) (by kernel_rfl) (by kernel_rfl) (by decide) ?_
      refine MonoJ.normA ?_
      repeat' (first
        | ((fail_if_success (first | refine is_ucall ?_ | refine is_umcall ?_)); first | refine W1 ?_ | refine Wc ?_ | refine W2c ?_ ?_ | refine Wg ?_ | refine W2 ?_ ?_ | exact Wdead | refine Wlive (fun hb => ?_) | intro _ _ _ _ _ _ _ _ | refine We ?_ | refine Wx ?_ | refine Wt ?_ | refine Wm ?_ | refine W2m ?_ ?_ | refine Wl ?_)
        | fail)
      · skip
        refine WPJ.draw 10 mixed (by kernel_rfl) (by kernel_rfl) (by kernel_rfl) (by decide) ?_
        refine MonoJ.normA ?_
        repeat' (first
          | ((fail_if_success (first | refine is_ucall ?_ | refine is_umcall ?_)); first | refine W1 ?_ | refine Wc ?_ | refine W2c ?_ ?_ | refine Wg ?_ | refine W2 ?_ ?_ | exact Wdead | refine Wlive (fun hb => ?_) | intro _ _ _ _ _ _ _ _ | refine We ?_ | refine Wx ?_ | refine Wt ?_ | refine Wm ?_ | refine W2m ?_ ?_ | refine Wl ?_)
          | fail)
        rw [h1 (by assumption)]
        exact ⟨rfl, rfl, rfl⟩
      · exact ⟨(), by omega, (by repeat' (first | exact Weak.nil | refine Weak.wild ?_ | refine Weak.same ?_ | refine Weak.intEq (by first | omega | (simp; done) | (push_cast; omega)) ?_)), rfl, rfl, by rw [hta, htb, hx, show x = y by omega]⟩
    · have h2 := hat.2 (.inr (by omega)) (by omega) (by omega)
      repeat' (first
        | ((fail_if_success (first | refine is_ucall ?_ | refine is_umcall ?_)); first | refine W1 ?_ | refine Wc ?_ | refine W2c ?_ ?_ | refine Wg ?_ | refine W2 ?_ ?_ | exact Wdead | refine Wlive (fun hb => ?_) | intro _ _ _ _ _ _ _ _ | refine We ?_ | refine Wx ?_ | refine Wt ?_ | refine Wm ?_ | refine W2m ?_ ?_ | refine Wl ?_)
        | fail)
      rw [h2]
      refine ⟨?_, rfl, rfl⟩
      simp
  · have h2 := hat.2 (.inl (by omega)) (by omega) (by omega)
    repeat' (first
      | ((fail_if_success (first | refine is_ucall ?_ | refine is_umcall ?_)); first | refine W1 ?_ | refine Wc ?_ | refine W2c ?_ ?_ | refine Wg ?_ | refine W2 ?_ ?_ | exact Wdead | refine Wlive (fun hb => ?_) | intro _ _ _ _ _ _ _ _ | refine We ?_ | refine Wx ?_ | refine Wt ?_ | refine Wm ?_ | refine W2m ?_ ?_ | refine Wl ?_)
      | fail)
    rw [h2]
    refine ⟨?_, rfl, rfl⟩
    simp
theorem Shorter_spec (av bv : Value) (a b : List Int) (ha : RdS H av 1 (encI a)) (hbr : RdS H bv 1 (encI b)) (hal : a.length ≤ 1000000) (hbl : b.length ≤ 1000000) : CallJ Try.prog E 74 [av, bv] (fun v H' g' => v = .bool (shorterS a b) ∧ H' = H ∧ g' = g) H g := by
  refine CallJ.tidy ?_
  unfold shorterS
  refine CallJ.enter Try.func74 rfl (by simp only [Try.ntmps74, List.length_cons, List.length_nil, Nat.zero_add, Nat.reduceAdd, Nat.reduceSub, List.replicate_succ, List.replicate_zero, List.cons_append, List.nil_append]; rfl) ?_
  repeat' (first
    | (refine is_ucall ?_; first
      | refine st_callP (h := Before_spec _ _ _ av bv a b (ha.ext extA) (hbr.ext extA) hal hbl) (k := ?_)
      | fail)
    | (refine is_umcall ?_; first
      | refine mj_callP (h := Before_spec _ _ _ av bv a b (ha.ext extA) (hbr.ext extA) hal hbl) (k := ?_)
      | fail)
    | ((fail_if_success (first | refine is_ucall ?_ | refine is_umcall ?_)); first | refine W1 ?_ | refine Wc ?_ | refine W2c ?_ ?_ | refine Wg ?_ | refine W2 ?_ ?_ | exact Wdead | refine Wlive (fun hb => ?_) | intro _ _ _ _ _ _ _ _ | refine We ?_ | refine Wx ?_ | refine Wt ?_ | refine Wm ?_ | refine W2m ?_ ?_ | refine Wl ?_)
    | fail)
  · rw [decide_eq_false (show ¬ a.length < b.length by omega), decide_eq_true (show a.length = b.length by omega)]
    exact ⟨rfl, rfl, rfl⟩
  · rw [decide_eq_false (show ¬ a.length < b.length by omega), decide_eq_false (show ¬ a.length = b.length by omega)]
    exact ⟨rfl, rfl, rfl⟩
  · rw [decide_eq_true (show a.length < b.length by omega)]
    exact ⟨rfl, rfl, rfl⟩
end
end Go.Proofs.Ytjbiidlmpaibkaa
