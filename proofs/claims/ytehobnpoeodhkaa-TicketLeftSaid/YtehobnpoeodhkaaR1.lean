import Derived.Test.YtehobnpoeodhkaaKr
namespace Go.Proofs.Ytehobnpoeodhkaa
open Go Go.Abs Go.Proofs
set_option maxHeartbeats 400000

/-! ### The reference's truths are the truths -/
def padL (m : HouseM) (l : List Int) : List Int := l ++ List.drop m.clocks.length [0, 0, 0, 0]
theorem mem_nth : ∀ (cs : List (Int × Int)) (l : List Int), (∀ r ∈ cs, r.1 ≤ r.2) → l.length = cs.length → ((cs.zip l).all fun x => inR x.1 x.2) = true → ∃ n : Int, 0 ≤ n ∧ n < prodS cs ∧ nthL cs n = l
  | [], [], _, _, _ => ⟨0, by omega, by simp [prodS], rfl⟩
  | [], _ :: _, _, h, _ => by simp at h
  | _ :: _, [], _, h, _ => by simp at h
  | r :: cs, x :: l, h, hl, h2 => by
    simp only [List.zip_cons_cons, List.all_cons, Bool.and_eq_true] at h2
    obtain ⟨n, h0, h1, h3⟩ := mem_nth cs l (fun y hy => h y (by simp [hy])) (by simpa using hl) h2.2
    have hr := h r (by simp)
    have hx := h2.1
    simp only [inR, Bool.and_eq_true, decide_eq_true_eq] at hx
    obtain ⟨s, hs⟩ : ∃ s, s = r.2 - r.1 + 1 := ⟨_, rfl⟩
    have hs0 : 0 < s := by omega
    have hk0 : 0 ≤ x - r.1 := by omega
    have hk1 : x - r.1 < s := by omega
    have hb : s * (n + 1) ≤ s * prodS cs := Int.mul_le_mul_of_nonneg_left (by omega) (by omega)
    rw [Int.mul_add, Int.mul_one] at hb
    have hn : 0 ≤ s * n := Int.mul_nonneg (by omega) h0
    refine ⟨(x - r.1) + s * n, by omega, ?_, ?_⟩
    · simp only [prodS]
      rw [← hs]
      omega
    · simp only [nthL]
      rw [← hs, Int.add_mul_emod_self_left, Int.emod_eq_of_lt hk0 hk1, Int.add_mul_ediv_left _ _ (by omega), Int.ediv_eq_zero_of_lt hk0 hk1, Int.zero_add, h3]
      congr 1
      omega
theorem mem_ref {m : HouseM} (hG : Good m) (l : List Int) : l ∈ refL m ↔ isE m l = true ∧ riseS m l = true := by
  unfold refL refN
  rw [List.mem_filter, List.mem_map]
  constructor
  · rintro ⟨⟨n, _, rfl⟩, h⟩
    exact ⟨nth_isE hG n, h⟩
  · rintro ⟨h1, h2⟩
    refine ⟨?_, h2⟩
    have h3 := h1
    simp only [isE, Bool.and_eq_true, decide_eq_true_eq] at h3
    obtain ⟨n, h4, h5, h6⟩ := mem_nth m.clocks l (fun r hr => (hG.clock r hr).2.1) h3.1 h3.2
    have := hG.few
    refine ⟨n.toNat, List.mem_range.2 (by omega), ?_⟩
    unfold nthR
    rw [Int.toNat_of_nonneg h4, h6]
theorem gen_isE {m : HouseM} {s : List Int} (h : s ∈ gen m.clocks) : isE m s = true := by
  have h1 := gen_elem_len _ _ h
  simp only [isE, Bool.and_eq_true, decide_eq_true_eq, List.all_eq_true]
  refine ⟨h1, fun x hx => ?_⟩
  obtain ⟨i, hi, rfl⟩ := List.getElem_of_mem hx
  have hi1 : i < m.clocks.length := by simp at hi; omega
  have hi2 : i < s.length := by omega
  obtain ⟨n, h2, h3⟩ := gen_mem _ _ h i m.clocks[i] (by simp)
  simp only [List.getElem_zip, inR, Bool.and_eq_true, decide_eq_true_eq]
  rw [List.getElem?_eq_getElem hi2] at h2
  cases h2
  exact h3
theorem pad_errs {m : HouseM} {l : List Int} (h : isE m l = true) : errsOf m l = padL m l := by unfold errsOf padL; rw [if_pos h]
theorem isT_pad {m : HouseM} {l : List Int} (hG : Good m) (hE : isE m l = true) : isT m (padL m l) = riseS m l := by
  rw [← pad_errs hE, Bool.eq_iff_iff, rise_iff]
  have hpw : m.clips.Pairwise (fun a b => trueM (errsOf m l) a ≤ trueM (errsOf m l) b) ↔ m.clips.Pairwise (fun a b => trueM l a ≤ trueM l b) :=
    List.Pairwise.iff_of_mem fun ha hb => by rw [trueM_errs hG hE ha, trueM_errs hG hE hb]
  unfold isT
  rw [truth_iff, hpw]
  have hlo : ∀ c ∈ m.clips, (-9223372036854775808 : Int) ≤ trueM (errsOf m l) c := fun c hc => by
    have h1 := (isE_bd hG hE).1 c hc
    rw [trueM_errs hG hE hc]
    unfold trueM
    have h2 := (isE_bd hG hE).2 _ (List.getElem_mem h1.2.1)
    simp [List.getD, h1.2.1]
    omega
  exact ⟨fun h => h.2, fun h => ⟨hlo, h⟩⟩
theorem mem_truths {m : HouseM} (hG : Good m) (es : List Int) : es ∈ truthsL m ↔ ∃ l ∈ refL m, es = padL m l := by
  unfold truthsL errs
  rw [List.mem_filter, List.mem_map]
  constructor
  · rintro ⟨⟨s, h1, rfl⟩, h2⟩
    have hE := gen_isE h1
    exact ⟨s, (mem_ref hG s).2 ⟨hE, by rw [← isT_pad hG hE]; exact h2⟩, rfl⟩
  · rintro ⟨l, h1, rfl⟩
    have h2 := (mem_ref hG l).1 h1
    have h3 := h2.1
    simp only [isE, Bool.and_eq_true, decide_eq_true_eq] at h3
    exact ⟨⟨l, mem_gen _ _ h3.1 h3.2, rfl⟩, by rw [isT_pad hG h2.1]; exact h2.2⟩
theorem ref_ne {m : HouseM} (hG : Good m) : refL m = [] ↔ hasS m = false := by
  unfold hasS
  constructor
  · intro h
    cases h2 : truthsL m with
    | nil => rfl
    | cons a l =>
      obtain ⟨x, hx, _⟩ := (mem_truths hG a).1 (by rw [h2]; simp)
      rw [h] at hx; cases hx
  · intro h
    cases h2 : refL m with
    | nil => rfl
    | cons a l =>
      have := (mem_truths hG (padL m a)).2 ⟨a, by rw [h2]; simp, rfl⟩
      cases h3 : truthsL m with
      | nil => rw [h3] at this; cases this
      | cons b k => rw [h3] at h; cases h

/-! ### Bounds and verdicts -/
theorem fmin_le : ∀ (l : List Int) (a : Int), l.foldl min a ≤ a ∧ ∀ x ∈ l, l.foldl min a ≤ x
  | [], a => ⟨Int.le_refl _, by simp⟩
  | x :: l, a => by
    obtain ⟨h1, h2⟩ := fmin_le l (min a x)
    simp only [List.foldl_cons]
    refine ⟨by omega, fun y hy => ?_⟩
    rcases List.mem_cons.1 hy with rfl | hy
    · omega
    · exact h2 y hy
theorem fmin_mem : ∀ (l : List Int) (a : Int), l.foldl min a = a ∨ l.foldl min a ∈ l
  | [], _ => .inl rfl
  | x :: l, a => by
    simp only [List.foldl_cons]
    rcases fmin_mem l (min a x) with h | h
    · rcases Int.le_total a x with h2 | h2
      · exact .inl (by rw [h]; omega)
      · exact .inr (by rw [h]; simp; omega)
    · exact .inr (List.mem_cons_of_mem _ h)
theorem fmax_le : ∀ (l : List Int) (a : Int), a ≤ l.foldl max a ∧ ∀ x ∈ l, x ≤ l.foldl max a
  | [], a => ⟨Int.le_refl _, by simp⟩
  | x :: l, a => by
    obtain ⟨h1, h2⟩ := fmax_le l (max a x)
    simp only [List.foldl_cons]
    refine ⟨by omega, fun y hy => ?_⟩
    rcases List.mem_cons.1 hy with rfl | hy
    · omega
    · exact h2 y hy
theorem fmax_mem : ∀ (l : List Int) (a : Int), l.foldl max a = a ∨ l.foldl max a ∈ l
  | [], _ => .inl rfl
  | x :: l, a => by
    simp only [List.foldl_cons]
    rcases fmax_mem l (max a x) with h | h
    · rcases Int.le_total a x with h2 | h2
      · exact .inr (by rw [h]; simp; omega)
      · exact .inl (by rw [h]; omega)
    · exact .inr (List.mem_cons_of_mem _ h)
theorem lo_eq {A B : List Int} {a b : Int} (hm : ∀ x, x ∈ A ↔ x ∈ B) (hne : A ≠ []) (h : ∀ x ∈ A, x < a ∧ x < b) : A.foldl min a = B.foldl min b := by
  obtain ⟨x, hx⟩ := List.exists_mem_of_ne_nil _ hne
  have h1 : A.foldl min a ∈ A := by
    rcases fmin_mem A a with h2 | h2
    · have := (fmin_le A a).2 x hx; have := h x hx; omega
    · exact h2
  have h2 : B.foldl min b ∈ B := by
    rcases fmin_mem B b with h2 | h2
    · have := (fmin_le B b).2 x ((hm x).1 hx); have := h x hx; omega
    · exact h2
  have h3 := (fmin_le B b).2 _ ((hm _).1 h1)
  have h4 := (fmin_le A a).2 _ ((hm _).2 h2)
  omega
theorem hi_eq {A B : List Int} {a b : Int} (hm : ∀ x, x ∈ A ↔ x ∈ B) (hne : A ≠ []) (h : ∀ x ∈ A, a < x ∧ b < x) : A.foldl max a = B.foldl max b := by
  obtain ⟨x, hx⟩ := List.exists_mem_of_ne_nil _ hne
  have h1 : A.foldl max a ∈ A := by
    rcases fmax_mem A a with h2 | h2
    · have := (fmax_le A a).2 x hx; have := h x hx; omega
    · exact h2
  have h2 : B.foldl max b ∈ B := by
    rcases fmax_mem B b with h2 | h2
    · have := (fmax_le B b).2 x ((hm x).1 hx); have := h x hx; omega
    · exact h2
  have h3 := (fmax_le B b).2 _ ((hm _).1 h1)
  have h4 := (fmax_le A a).2 _ ((hm _).2 h2)
  omega
/-- the bounds that the reference makes -/
def boundsR (l : List Int) : Int × Int := (l.foldl min 1099511627776, l.foldl max (-1099511627776))
theorem map_mem_iff {m : HouseM} (hG : Good m) {β : Type} {q q' : List Int → β} (h : ∀ l ∈ refL m, q (padL m l) = q' l) (x : β) : x ∈ (truthsL m).map q ↔ x ∈ (refL m).map q' := by
  rw [List.mem_map, List.mem_map]
  constructor
  · rintro ⟨es, h1, rfl⟩
    obtain ⟨l, h2, rfl⟩ := (mem_truths hG es).1 h1
    exact ⟨l, h2, (h l h2).symm⟩
  · rintro ⟨l, h1, rfl⟩
    exact ⟨padL m l, (mem_truths hG _).2 ⟨l, h1, rfl⟩, h l h1⟩
theorem bounds_eq {m : HouseM} (hG : Good m) (hT : hasS m = true) {q q' : List Int → Int} (h : ∀ l ∈ refL m, q (padL m l) = q' l) (hb : ∀ l ∈ refL m, -1000000 ≤ q' l ∧ q' l ≤ 1000000) : (loS (truthsL m) q, hiS (truthsL m) q) = boundsR ((refL m).map q') := by
  have hmm := map_mem_iff hG h
  have hne : (truthsL m).map q ≠ [] := by
    intro e
    have : truthsL m = [] := by simpa using e
    unfold hasS at hT
    rw [this] at hT
    cases hT
  have hbd : ∀ x ∈ (truthsL m).map q, -1000000 ≤ x ∧ x ≤ 1000000 := fun x hx => by
    obtain ⟨l, h1, rfl⟩ := List.mem_map.1 ((hmm x).1 hx)
    exact hb l h1
  unfold loS hiS boundsR
  rw [lo_eq (b := 1099511627776) hmm hne fun x hx => by have := hbd x hx; omega, hi_eq (b := -1099511627776) hmm hne fun x hx => by have := hbd x hx; omega]
/-- the verdict that the reference makes -/
def verdictR (yes many : Int) : Int := if yes = many then 1 else if yes = 0 then 2 else 3
def yesR (l : List (List Int)) (p : List Int → Bool) : Int := (l.countP p : Nat)
theorem verdict_eq {m : HouseM} (hG : Good m) (_hT : hasS m = true) {p p' : List Int → Bool} (h : ∀ l ∈ refL m, p (padL m l) = p' l) : verdictS (truthsL m) p = verdictR (yesR (refL m) p') (refL m).length := by
  have hmm := map_mem_iff hG h
  have h1 : (truthsL m).all p = true ↔ ∀ l ∈ refL m, p' l = true := by
    rw [List.all_eq_true]
    constructor
    · intro k l hl
      rw [← h l hl]
      exact k _ ((mem_truths hG _).2 ⟨l, hl, rfl⟩)
    · intro k es hes
      obtain ⟨l, hl, rfl⟩ := (mem_truths hG es).1 hes
      rw [h l hl]; exact k l hl
  have h2 : (truthsL m).any p = true ↔ ∃ l ∈ refL m, p' l = true := by
    rw [List.any_eq_true]
    constructor
    · rintro ⟨es, hes, k⟩
      obtain ⟨l, hl, rfl⟩ := (mem_truths hG es).1 hes
      exact ⟨l, hl, by rw [← h l hl]; exact k⟩
    · rintro ⟨l, hl, k⟩
      exact ⟨_, (mem_truths hG _).2 ⟨l, hl, rfl⟩, by rw [h l hl]; exact k⟩
  have h3 : (refL m).countP p' = (refL m).length ↔ ∀ l ∈ refL m, p' l = true := List.countP_eq_length
  have h4 : (refL m).countP p' = 0 ↔ ∀ l ∈ refL m, ¬ p' l = true := List.countP_eq_zero
  unfold verdictS verdictR yesR
  by_cases k1 : ∀ l ∈ refL m, p' l = true
  · have a1 := h1.2 k1
    have b1 : ((List.countP p' (refL m) : Nat) : Int) = ((refL m).length : Nat) := by rw [h3.2 k1]
    rw [if_pos a1, if_pos b1]
  · have a1 : ¬ (truthsL m).all p = true := fun e => k1 (h1.1 e)
    have b1 : ¬ ((List.countP p' (refL m) : Nat) : Int) = ((refL m).length : Nat) := fun e => k1 (h3.1 (by omega))
    rw [if_neg a1, if_neg b1]
    by_cases k2 : ∃ l ∈ refL m, p' l = true
    · have a2 := h2.2 k2
      have b2 : ¬ ((List.countP p' (refL m) : Nat) : Int) = 0 := fun e => by
        obtain ⟨l, hl, k⟩ := k2
        exact h4.1 (by omega) l hl k
      rw [if_pos a2, if_neg b2]
    · have a2 : ¬ (truthsL m).any p = true := fun e => k2 (h2.1 e)
      have b2 : ((List.countP p' (refL m) : Nat) : Int) = 0 := by rw [h4.2 (fun l hl k => k2 ⟨l, hl, k⟩)]; rfl
      rw [if_neg a2, if_pos b2]
end Go.Proofs.Ytehobnpoeodhkaa
