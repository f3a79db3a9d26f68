import Derived.Test.YtjbiidlmpaibkaaIfw
namespace Go.Proofs.Ytjbiidlmpaibkaa
open Go Go.Abs Go.Proofs
set_option maxHeartbeats 1600000


/-! ### The order of lists -/
theorem before_trans : ∀ (a b c : List Int), beforeS a b = true → beforeS b c = true → beforeS a c = true
  | [], [], _, h, _ => by simp [beforeS] at h
  | [], _ :: _, [], _, h => by simp [beforeS] at h
  | [], _ :: _, _ :: _, _, _ => rfl
  | _ :: _, [], _, h, _ => by simp [beforeS] at h
  | _ :: _, _ :: _, [], _, h => by simp [beforeS] at h
  | x :: a, y :: b, z :: c, h1, h2 => by
    simp only [beforeS] at h1 h2 ⊢
    by_cases e1 : x = y
    · subst e1
      rw [if_pos rfl] at h1
      by_cases e2 : x = z
      · subst e2
        rw [if_pos rfl] at h2 ⊢
        exact before_trans a b c h1 h2
      · rw [if_neg e2] at h2 ⊢
        exact h2
    · rw [if_neg e1, decide_eq_true_eq] at h1
      by_cases e2 : y = z
      · subst e2
        rw [if_neg (by omega), decide_eq_true_eq]
        exact h1
      · rw [if_neg e2, decide_eq_true_eq] at h2
        rw [if_neg (by omega), decide_eq_true_eq]
        omega
theorem before_irr : ∀ (a : List Int), beforeS a a = false
  | [] => rfl
  | x :: a => by simp only [beforeS, if_true]; exact before_irr a
theorem before_total : ∀ (a b : List Int), a.length = b.length → beforeS a b = true ∨ a = b ∨ beforeS b a = true
  | [], [], _ => .inr (.inl rfl)
  | [], _ :: _, h => by simp at h
  | _ :: _, [], h => by simp at h
  | x :: a, y :: b, h => by
    simp only [beforeS]
    by_cases e : x = y
    · subst e
      simp only [if_true]
      rcases before_total a b (by simpa using h) with h1 | h1 | h1
      · exact .inl h1
      · exact .inr (.inl (by rw [h1]))
      · exact .inr (.inr h1)
    · rw [if_neg e, if_neg (Ne.symm e), decide_eq_true_eq, decide_eq_true_eq]
      omega
theorem shorter_iff (a b : List Int) : shorterS a b = true ↔ a.length < b.length ∨ (a.length = b.length ∧ beforeS a b = true) := by
  unfold shorterS
  simp
theorem shorter_trans {a b c : List Int} (h1 : shorterS a b = true) (h2 : shorterS b c = true) : shorterS a c = true := by
  rw [shorter_iff] at *
  rcases h1 with h1 | ⟨h1, k1⟩ <;> rcases h2 with h2 | ⟨h2, k2⟩
  · exact .inl (by omega)
  · exact .inl (by omega)
  · exact .inl (by omega)
  · exact .inr ⟨by omega, before_trans a b c k1 k2⟩
theorem shorter_irr (a : List Int) : shorterS a a = false := by
  cases h : shorterS a a with
  | false => rfl
  | true =>
    rw [shorter_iff] at h
    rcases h with h | ⟨_, h⟩
    · omega
    · rw [before_irr] at h; cases h
theorem shorter_total (a b : List Int) : shorterS a b = true ∨ a = b ∨ shorterS b a = true := by
  rw [shorter_iff, shorter_iff]
  rcases Nat.lt_trichotomy a.length b.length with h | h | h
  · exact .inl (.inl h)
  · rcases before_total a b h with k | k | k
    · exact .inl (.inr ⟨h, k⟩)
    · exact .inr (.inl k)
    · exact .inr (.inr (.inr ⟨h.symm, k⟩))
  · exact .inr (.inr (.inl h))

/-! ### All increasing lists, in their order -/
theorem subs_sorted : ∀ (q f lim : Nat), (subs q f lim).Pairwise fun a b => beforeS a b = true
  | 0, _, _ => by simp [subs]
  | q + 1, f, lim => by
    unfold subs
    rw [List.pairwise_flatMap]
    refine ⟨fun n _ => ?_, ?_⟩
    · rw [List.pairwise_map]
      exact (subs_sorted q (n + 1) lim).imp fun {a b} h => by simp only [beforeS, if_true]; exact h
    · refine List.Pairwise.imp ?_ (List.pairwise_lt_range' (s := f) (n := lim - f) (step := 1) (by decide))
      intro a b h x hx y hy
      obtain ⟨x', _, rfl⟩ := List.mem_map.1 hx
      obtain ⟨y', _, rfl⟩ := List.mem_map.1 hy
      simp only [beforeS]
      rw [if_neg (by omega), decide_eq_true_eq]
      omega
theorem upTo_sorted (m : CopM) (j : Nat) : (upToN m j).Pairwise fun a b => shorterS a b = true := by
  unfold upToN
  rw [List.pairwise_flatMap]
  refine ⟨fun q _ => ?_, ?_⟩
  · refine List.Pairwise.imp_of_mem ?_ (subs_sorted q 0 m.reads.length)
    intro a b ha hb h
    rw [shorter_iff, subs_len _ _ _ _ ha, subs_len _ _ _ _ hb]
    exact .inr ⟨rfl, h⟩
  · refine List.Pairwise.imp ?_ (List.pairwise_lt_range (n := j))
    intro q r h x hx y hy
    rw [shorter_iff, subs_len _ _ _ _ hx, subs_len _ _ _ _ hy]
    exact .inl h
theorem subs_mono {q f lim : Nat} {s : List Int} (h : s ∈ subs q (f + 1) lim) (hf : f < lim) : s ∈ subs q f lim := by
  cases q with
  | zero => exact h
  | succ q =>
    unfold subs at h ⊢
    obtain ⟨n, h1, h2⟩ := List.mem_flatMap.1 h
    refine List.mem_flatMap.2 ⟨n, ?_, h2⟩
    rw [show lim - f = (lim - (f + 1)) + 1 by omega, List.range'_succ]
    exact List.mem_cons_of_mem _ h1
theorem subs_of : ∀ (k f : Nat) (s : List Nat), s.Sublist (List.range' f k) → s.map (fun (p : Nat) => (p : Int)) ∈ subs s.length f (f + k)
  | 0, f, s, h => by
    have : s = [] := by simpa using h
    subst this
    simp [subs]
  | k + 1, f, s, h => by
    rw [List.range'_succ] at h
    cases h with
    | cons _ h =>
      have ih := subs_of k (f + 1) s h
      rw [show f + (k + 1) = f + 1 + k by omega]
      exact subs_mono ih (by omega)
    | cons_cons _ h =>
      rename_i t
      have ih := subs_of k (f + 1) t h
      rw [List.map_cons, List.length_cons]
      unfold subs
      refine List.mem_flatMap.2 ⟨f, ?_, List.mem_map.2 ⟨_, ?_, rfl⟩⟩
      · rw [show f + (k + 1) - f = k + 1 by omega, List.range'_succ]
        exact List.mem_cons_self
      · rw [show f + (k + 1) = f + 1 + k by omega]
        exact ih
theorem subs_is : ∀ (q f lim : Nat) (s : List Int), s ∈ subs q f lim → ∃ s' : List Nat, s = s'.map (fun (p : Nat) => (p : Int)) ∧ s'.Sublist (List.range' f (lim - f))
  | 0, f, lim, s, h => ⟨[], by simpa [subs] using h, List.nil_sublist _⟩
  | q + 1, f, lim, s, h => by
    unfold subs at h
    obtain ⟨n, h1, h2⟩ := List.mem_flatMap.1 h
    obtain ⟨t, h3, rfl⟩ := List.mem_map.1 h2
    obtain ⟨t', rfl, h4⟩ := subs_is q (n + 1) lim t h3
    refine ⟨n :: t', rfl, ?_⟩
    rw [List.mem_range'_1] at h1
    have e : List.range' f (lim - f) = List.range' f (n - f) ++ n :: List.range' (n + 1) (lim - (n + 1)) := by
      have := List.range'_append_1 (s := f) (m := n - f) (n := lim - n)
      rw [show f + (n - f) = n by omega, show n - f + (lim - n) = lim - f by omega] at this
      rw [← this]
      congr 1
      rw [show lim - n = (lim - (n + 1)) + 1 by omega, List.range'_succ]
    rw [e]
    exact (List.Sublist.cons_cons n h4).trans (List.sublist_append_right _ _)
theorem filter_sub : ∀ {l s : List Nat}, l.Nodup → s.Sublist l → (l.filter fun x => decide (x ∈ s)) = s
  | [], s, _, h => by
    have : s = [] := by simpa using h
    subst this; rfl
  | a :: l, s, hn, h => by
    rw [List.nodup_cons] at hn
    cases h with
    | cons _ h =>
      have ha : a ∉ s := fun hs => hn.1 (h.subset hs)
      rw [List.filter_cons, if_neg (by simpa using ha)]
      exact filter_sub hn.2 h
    | cons_cons _ h =>
      rename_i t
      rw [List.filter_cons, if_pos (by simp)]
      congr 1
      rw [← filter_sub hn.2 h]
      refine List.filter_congr fun x hx => ?_
      have hxa : x ≠ a := fun e => hn.1 (e ▸ hx)
      simp [hxa, hx]
def maskOf : List Nat → Nat
  | [] => 0
  | p :: s => 2 ^ p ||| maskOf s
theorem mask_bit : ∀ (s : List Nat) (p : Nat), (maskOf s).testBit p = decide (p ∈ s)
  | [], p => by simp [maskOf]
  | q :: s, p => by
    simp only [maskOf, Nat.testBit_or, mask_bit s p, Nat.testBit_two_pow]
    by_cases h : q = p
    · simp [h]
    · simp [h, Ne.symm h]
theorem mask_lt : ∀ (s : List Nat) (n : Nat), (∀ p ∈ s, p < n) → maskOf s < 2 ^ n
  | [], n, _ => Nat.two_pow_pos n
  | p :: s, n, h => Nat.or_lt_two_pow (Nat.pow_lt_pow_right (by decide) (h p (by simp))) (mask_lt s n fun x hx => h x (by simp [hx]))
theorem bits_of_sub {s : List Nat} {n : Nat} (h : s.Sublist (List.range n)) : maskOf s < 2 ^ n ∧ bitsN (maskOf s) n = s.map fun (p : Nat) => (p : Int) := by
  refine ⟨mask_lt s n fun p hp => List.mem_range.1 (h.subset hp), ?_⟩
  unfold bitsN
  congr 1
  rw [← filter_sub List.nodup_range h]
  refine List.filter_congr fun x _ => ?_
  rw [mask_bit]
  have := filter_sub List.nodup_range h
  rw [this]
theorem bits_in_upTo (m : CopM) (c : Nat) : bitsN c m.reads.length ∈ upToN m (m.reads.length + 1) := by
  unfold upToN
  refine List.mem_flatMap.2 ⟨(bitsN c m.reads.length).length, List.mem_range.2 (by have := bitsN_len c m.reads.length; omega), ?_⟩
  have h := subs_of m.reads.length 0 ((List.range m.reads.length).filter fun p => c.testBit p) (by rw [← List.range_eq_range']; exact List.filter_sublist)
  rw [Nat.zero_add] at h
  have e : (bitsN c m.reads.length).length = ((List.range m.reads.length).filter fun p => c.testBit p).length := by unfold bitsN; simp
  rw [e]
  exact h
theorem upTo_is_bits {m : CopM} {j : Nat} {s : List Int} (h : s ∈ upToN m j) : ∃ c, c < 2 ^ m.reads.length ∧ bitsN c m.reads.length = s := by
  unfold upToN at h
  obtain ⟨q, _, h⟩ := List.mem_flatMap.1 h
  obtain ⟨s', rfl, h2⟩ := subs_is _ _ _ _ h
  rw [Nat.sub_zero, ← List.range_eq_range'] at h2
  obtain ⟨h3, h4⟩ := bits_of_sub h2
  exact ⟨_, h3, h4⟩
/-- the smallest set is the first of those that can be left out -/
theorem small_least {m : CopM} {s : List Int} (h : smallS m = some s) : okWithout m s = true ∧ (∃ c, c < 2 ^ m.reads.length ∧ bitsN c m.reads.length = s) ∧ ∀ c, okWithout m (bitsN c m.reads.length) = true → shorterS (bitsN c m.reads.length) s = false := by
  unfold smallS at h
  have hm := List.mem_of_find?_eq_some h
  rw [List.find?_eq_some_iff_append] at h
  obtain ⟨hok, us, ws, he, hall⟩ := h
  refine ⟨hok, upTo_is_bits hm, fun c hc => ?_⟩
  have hin := bits_in_upTo m c
  have hs := upTo_sorted m (m.reads.length + 1)
  rw [he] at hin hs
  cases hx : shorterS (bitsN c m.reads.length) s with
  | false => rfl
  | true =>
    rcases List.mem_append.1 hin with h1 | h1
    · have := hall _ h1
      rw [hc] at this
      cases this
    · rcases List.mem_cons.1 h1 with h2 | h2
      · rw [h2, shorter_irr] at hx; cases hx
      · have h3 := (List.pairwise_append.1 hs).2.1
        have h4 := (List.pairwise_cons.1 h3).1 _ h2
        have h5 := shorter_trans hx h4
        rw [shorter_irr] at h5; cases h5
theorem sub_not {m : CopM} {c : Nat} (_hc : c < 2 ^ m.reads.length) : subM m ((2 ^ m.reads.length - 1) ^^^ c) = without m (bitsN c m.reads.length) := by
  unfold subM without readsB readsK keptN
  congr 1
  have hbit : ∀ p, p < m.reads.length → ((2 ^ m.reads.length - 1) ^^^ c).testBit p = !(bitsN c m.reads.length).contains (p : Int) := fun p hp => by
    rw [Nat.testBit_xor, Nat.testBit_two_pow_sub_one, decide_eq_true hp, Bool.true_xor]
    congr 1
    rw [Bool.eq_iff_iff, List.contains_iff_mem]
    unfold bitsN
    rw [List.mem_map]
    constructor
    · intro h
      exact ⟨p, List.mem_filter.2 ⟨List.mem_range.2 hp, h⟩, rfl⟩
    · rintro ⟨q, hq, e⟩
      have : q = p := by omega
      subst this
      exact (List.mem_filter.1 hq).2
  have : ∀ n, n ≤ m.reads.length → ((List.range n).filter fun p => ((2 ^ m.reads.length - 1) ^^^ c).testBit p).map (fun p => m.reads.getD p rd0) = (List.range n).filterMap fun (k : Nat) => if (bitsN c m.reads.length).contains (k : Int) then none else m.reads[k]? := by
    intro n hn
    induction n with
    | zero => simp
    | succ n ih =>
      rw [List.range_succ, List.filter_append, List.map_append, List.filterMap_append, ih (by omega)]
      congr 1
      simp only [List.filter_cons, List.filter_nil, hbit n (by omega), List.filterMap_cons, List.filterMap_nil]
      cases h : (bitsN c m.reads.length).contains (n : Int) with
      | true => simp
      | false => simp [List.getD, show n < m.reads.length by omega]
  exact this _ (Nat.le_refl _)
theorem and_not {n c : Nat} (hn : n ≤ 30) (hc : c < 2 ^ n) : bitsBin .andNot .i64 ((2 ^ n - 1 : Nat) : Int) (c : Int) = some (((2 ^ n - 1) ^^^ c : Nat) : Int) := by
  have hp : 2 ^ n ≤ 2 ^ 30 := Nat.pow_le_pow_right (by decide) hn
  have hx : (2 ^ n - 1) ^^^ c < 2 ^ n := Nat.xor_lt_two_pow (by have := Nat.two_pow_pos n; omega) hc
  have h : (BitVec.ofInt 64 ((2 ^ n - 1 : Nat) : Int) &&& ~~~ BitVec.ofInt 64 (c : Int)).toNat = (2 ^ n - 1) ^^^ c := by
    refine Nat.eq_of_testBit_eq fun p => ?_
    rw [BitVec.toNat_and, BitVec.toNat_not, Nat.testBit_and, Nat.testBit_xor]
    rw [BitVec.ofInt_natCast, BitVec.ofInt_natCast, BitVec.toNat_ofNat, BitVec.toNat_ofNat, Nat.mod_eq_of_lt (by omega), Nat.mod_eq_of_lt (by omega)]
    rw [Nat.testBit_two_pow_sub_one]
    by_cases hpn : p < n
    · rw [decide_eq_true hpn, Bool.true_and, Bool.true_xor]
      rw [show 2 ^ 64 - 1 - c = 2 ^ 64 - (c + 1) by omega, Nat.testBit_two_pow_sub_succ (by omega), decide_eq_true (by omega), Bool.true_and]
    · rw [decide_eq_false hpn, Bool.false_and, Bool.false_xor, Nat.testBit_lt_two_pow (Nat.lt_of_lt_of_le hc (Nat.pow_le_pow_right (by decide) (by omega)))]
  show some (IntKind.i64.wrap ((BitVec.ofInt 64 _ &&& ~~~ BitVec.ofInt 64 _).toNat : Int)) = _
  rw [h, wrap64_eq ⟨by omega, by omega⟩]
theorem and_nat {a b : Nat} (ha : a < 2 ^ 30) (hb : b < 2 ^ 30) : bitsBin .and .i64 (a : Int) (b : Int) = some ((a &&& b : Nat) : Int) := by
  have hx : a &&& b < 2 ^ 30 := Nat.and_lt_two_pow _ hb
  have h : (BitVec.ofInt 64 (a : Int) &&& BitVec.ofInt 64 (b : Int)).toNat = a &&& b := by
    rw [BitVec.toNat_and, BitVec.ofInt_natCast, BitVec.ofInt_natCast, BitVec.toNat_ofNat, BitVec.toNat_ofNat, Nat.mod_eq_of_lt (by omega), Nat.mod_eq_of_lt (by omega)]
  show some (IntKind.i64.wrap ((BitVec.ofInt 64 _ &&& BitVec.ofInt 64 _).toNat : Int)) = _
  rw [h, wrap64_eq ⟨by omega, by omega⟩]
theorem mask_snoc (s : List Nat) (p : Nat) : maskOf (s ++ [p]) = maskOf s ||| 2 ^ p := by
  refine Nat.eq_of_testBit_eq fun q => ?_
  rw [Nat.testBit_or, mask_bit, mask_bit, Nat.testBit_two_pow]
  by_cases h : q = p
  · simp [h]
  · simp [h, Ne.symm h]
theorem full_ok {m : CopM} (hG : Good m) : okWithout m (bitsN (2 ^ m.reads.length - 1) m.reads.length) = true := by
  unfold okWithout
  rw [← sub_not (by have := Nat.two_pow_pos m.reads.length; omega), Nat.xor_self]
  refine hasS_nil (sub_good hG _) ?_
  unfold subM readsB readsK
  simp
theorem leave_least {m : CopM} (hG : Good m) : okWithout m (leaveS m) = true ∧ (∃ s : List Nat, leaveS m = s.map (fun (p : Nat) => (p : Int)) ∧ s.Sublist (List.range m.reads.length)) ∧ ∀ c, okWithout m (bitsN c m.reads.length) = true → shorterS (bitsN c m.reads.length) (leaveS m) = false := by
  unfold leaveS
  cases hs : smallS m with
  | none =>
    unfold smallS at hs
    rw [List.find?_eq_none] at hs
    have h4 := hs _ (bits_in_upTo m (2 ^ m.reads.length - 1))
    rw [full_ok hG] at h4
    exact absurd rfl h4
  | some s =>
    obtain ⟨k1, ⟨d, hd, ed⟩, k3⟩ := small_least hs
    exact ⟨k1, ⟨_, ed.symm, List.filter_sublist⟩, k3⟩
end Go.Proofs.Ytjbiidlmpaibkaa
