import Derived.Test.YtjbiidlmpaibkaaJcw
import Derived.Test.YtjbiidlmpaibkaaPfw
namespace Go.Proofs.Ytjbiidlmpaibkaa
open Go Go.Abs Go.Proofs
set_option maxHeartbeats 1600000
attribute [local irreducible] CallJ OpsJ WPJ CallV MonoJ SpecJ

theorem arr5_at {k i : Nat} {f : Nat → Int} (h : i < k) (h5 : i < 5) : (arr5 k f).getD i 0 = f i := by
  unfold arr5
  simp [List.getD, h5, h]
theorem kept_each {q : CopM} (hW : WOk q) (t : Int × List Int) : keptT q t = (List.range (hrs q)).all fun j => keepQ q j t := by
  have hn5 := (hrs_le hW).1
  unfold keptT areKeptS
  rw [Bool.eq_iff_iff, List.all_eq_true, List.all_eq_true]
  refine ⟨fun h j hj => ?_, fun h j hj => ?_⟩
  · have := h j hj
    have hj' := List.mem_range.1 hj
    rw [arr5_at hj' (by omega)] at this
    exact this
  · have hj' := List.mem_range.1 hj
    rw [arr5_at hj' (by omega)]
    exact h j hj
/-! ### The coal with a number, and all coal in its order -/
theorem rngC_mem {r : Int × Int} {x : Int} : x ∈ rng r ↔ r.1 ≤ x ∧ x ≤ r.2 := by
  simp only [rng, List.mem_map, List.mem_range]
  constructor
  · rintro ⟨k, hk, rfl⟩; omega
  · rintro ⟨h1, h2⟩; exact ⟨(x - r.1).toNat, by omega, by omega⟩
theorem genR_mem {s : Int} : ∀ {n : Nat} {l : List Int}, l ∈ gen (List.replicate n (0, s)) ↔ l.length = n ∧ ∀ x ∈ l, 0 ≤ x ∧ x ≤ s
  | 0, l => by simp [gen]; intro h; subst h; simp
  | n + 1, l => by
    show l ∈ gen ((0, s) :: List.replicate n (0, s)) ↔ _
    simp only [gen, List.mem_flatMap, List.mem_map, rngC_mem]
    constructor
    · rintro ⟨a, ha, k, hk, rfl⟩
      obtain ⟨h1, h2⟩ := genR_mem.1 hk
      refine ⟨by simp [h1], fun x hx => ?_⟩
      rcases List.mem_cons.1 hx with rfl | hx
      · exact ha
      · exact h2 x hx
    · rintro ⟨h1, h2⟩
      cases l with
      | nil => cases h1
      | cons a k => exact ⟨a, h2 a (by simp), k, genR_mem.2 ⟨by simpa using h1, fun x hx => h2 x (by simp [hx])⟩, rfl⟩
theorem rng_sorted (r : Int × Int) : (rng r).Pairwise (· < ·) := by
  unfold rng
  rw [List.pairwise_map]
  exact List.pairwise_lt_range.imp (by intros; omega)
theorem beforeC_cons (x : Int) (a b : List Int) : beforeS (x :: a) (x :: b) = beforeS a b := by simp [beforeS]
theorem beforeC_irr : ∀ (l : List Int), beforeS l l = false
  | [] => rfl
  | x :: l => by rw [beforeC_cons]; exact beforeC_irr l
theorem beforeC_asym : ∀ {a b : List Int}, beforeS a b = true → beforeS b a = false
  | [], [], h => by cases h
  | [], _ :: _, _ => rfl
  | _ :: _, [], h => by cases h
  | x :: a, y :: b, h => by
    simp only [beforeS] at h ⊢
    by_cases e : x = y
    · subst e
      rw [if_pos rfl] at h ⊢
      exact beforeC_asym h
    · rw [if_neg e] at h
      rw [if_neg (fun h => e h.symm)]
      simp only [decide_eq_true_eq, decide_eq_false_iff_not] at h ⊢
      omega
theorem gen_sorted : ∀ rs : List (Int × Int), (gen rs).Pairwise (fun a b => beforeS a b = true)
  | [] => by simp [gen]
  | r :: rs => by
    show ((rng r).flatMap fun n => (gen rs).map (n :: ·)).Pairwise _
    rw [List.pairwise_flatMap]
    refine ⟨fun n _ => ?_, ?_⟩
    · rw [List.pairwise_map]
      exact (gen_sorted rs).imp fun h => by rw [beforeC_cons]; exact h
    · refine (rng_sorted r).imp fun h => ?_
      intro x hx y hy
      obtain ⟨x', _, rfl⟩ := List.mem_map.1 hx
      obtain ⟨y', _, rfl⟩ := List.mem_map.1 hy
      simp only [beforeS]
      rw [if_neg (by omega)]
      simpa using h
/-- the first one of a sorted list -/
theorem sorted_first {l : List (List Int)} {p : List Int → Bool} {x : List Int} (hs : l.Pairwise (fun a b => beforeS a b = true)) (h : l.find? p = some x) : ∀ y ∈ l, p y = true → beforeS y x = false := by
  intro y hy hp
  obtain ⟨hpx, as1, bs1, rfl, has⟩ := List.find?_eq_some_iff_append.1 h
  rw [List.pairwise_append] at hs
  obtain ⟨_, hs2, _⟩ := hs
  rcases List.mem_append.1 hy with h1 | h1
  · have := has y h1
    rw [hp] at this; cases this
  · rcases List.mem_cons.1 h1 with rfl | h2
    · exact beforeC_irr _
    · exact beforeC_asym (List.rel_of_pairwise_cons hs2 h2)
/-! ### Sure coal -/
abbrev padC (l : List Int) : List Int := l ++ List.drop l.length [0, 0, 0, 0, 0]
theorem genA_eq (m : CopM) : genA (shov m) = (gen (shov m)).map padC := by
  unfold genA
  refine List.map_congr_left fun l hl => ?_
  have := (genR_mem.1 hl).1
  unfold padC shov
  rw [this, List.length_replicate]
theorem genA_mem {m : CopM} {es : List Int} : es ∈ genA (shov m) ↔ ∃ l, CoalOk m l ∧ es = padC l := by
  rw [genA_eq, List.mem_map]
  constructor
  · rintro ⟨l, hl, rfl⟩; exact ⟨l, genR_mem.1 hl, rfl⟩
  · rintro ⟨l, hl, rfl⟩; exact ⟨l, genR_mem.2 hl, rfl⟩
theorem padC_take {m : CopM} {l : List Int} (h : CoalOk m l) : (padC l).take (hrs m) = l := by
  unfold padC
  rw [← h.1, List.take_left']
  rfl
/-- whether coal is sure -/
def sureQ (m : CopM) (l : List Int) : Bool := (truthsL m).all (keptT (coalM m l))
theorem sureB_pad {m : CopM} {l : List Int} (h : CoalOk m l) : isSureB m (padC l) = sureQ m l := by
  unfold isSureB onM sureQ
  rw [padC_take h]
theorem WOk.coal {m : CopM} (hW : WOk m) (hs : m.shovels ≤ 3) {l : List Int} (h : CoalOk m l) : WOk (coalM m l) :=
  { l0 := hW.l0, l4 := hW.l4, most := hW.most, start := hW.start, per := hW.per, cl := h.1, wl := hW.wl, c3 := fun x hx => ⟨(h.2 x hx).1, by have := (h.2 x hx).2; omega⟩, w40 := hW.w40 }
theorem kept_coal {m : CopM} (hW : WOk m) (hs : m.shovels ≤ 3) {l k : List Int} (hl : CoalOk m l) (hk : CoalOk m k) (hle : ∀ j, l.getD j 0 ≤ k.getD j 0) {t : Int × List Int} (h0 : 0 ≤ t.1) (h : keptT (coalM m l) t = true) : keptT (coalM m k) t = true := by
  rw [kept_each (hW.coal hs hl), List.all_eq_true] at h
  rw [kept_each (hW.coal hs hk), List.all_eq_true]
  intro j hj
  have h1 := h j hj
  simp only [keepQ, decide_eq_true_eq] at h1 ⊢
  have h2 : hotS (coalM m l) t.1 t.2 j ≤ hotS (coalM m k) t.1 t.2 j := hot_warm (m := coalM m l) (m' := coalM m k) rfl rfl rfl (fun _ => rfl) hW.per.1 h0 (Int.le_refl _)
    (fun j => (getD_bd (a := 0) (b := 3) (fun x hx => ⟨(hl.2 x hx).1, by have := (hl.2 x hx).2; omega⟩) (by omega) j).1) hle (fun _ => Int.le_refl _) j
  exact Int.le_trans h1 h2
theorem sure_more {m : CopM} (hW : WOk m) (hs : m.shovels ≤ 3) (hT : ∀ t ∈ truthsL m, 0 ≤ t.1) {l k : List Int} (hl : CoalOk m l) (hk : CoalOk m k) (hle : ∀ j, l.getD j 0 ≤ k.getD j 0) (h : sureQ m l = true) : sureQ m k = true := by
  unfold sureQ at *
  rw [List.all_eq_true] at *
  exact fun t ht => kept_coal hW hs hl hk hle (hT t ht) (h t ht)
theorem mem_addS {ks : List (List Int)} {k x : List Int} : x ∈ addS ks k ↔ x ∈ ks ∨ x = k := by
  unfold addS
  split
  · rename_i h
    have h := List.contains_iff_mem.1 h
    constructor
    · exact .inl
    · rintro (h1 | rfl)
      · exact h1
      · exact h
  · simp
theorem sureL_mem {m : CopM} (hW : WOk m) (hs : m.shovels ≤ 3) (hT : ∀ t ∈ truthsL m, 0 ≤ t.1) (es : List Int) : es ∈ sureL m ↔ ∃ l, CoalOk m l ∧ es = padC l ∧ sureQ m l = true := by
  have key : ∀ (xs ks : List (List Int)), (∀ x ∈ xs, x ∈ genA (shov m)) → (∀ x ∈ ks, ∃ l, CoalOk m l ∧ x = padC l ∧ sureQ m l = true) →
      ∀ y, y ∈ xs.foldl (fun ks es => if lessB ks es 5 || isSureB m es then addS ks es else ks) ks ↔ y ∈ ks ∨ (y ∈ xs ∧ ∃ l, CoalOk m l ∧ y = padC l ∧ sureQ m l = true) := by
    intro xs
    induction xs with
    | nil => intro ks _ _ y; simp
    | cons x xs ih =>
      intro ks hx hk y
      obtain ⟨l, hl, rfl⟩ := genA_mem.1 (hx x (by simp))
      have hiff : (lessB ks (padC l) 5 || isSureB m (padC l)) = sureQ m l := by
        rw [sureB_pad hl]
        cases hq : sureQ m l with
        | true => simp
        | false =>
          rw [Bool.or_false, Bool.eq_false_iff]
          intro hless
          simp only [lessB, List.any_eq_true, List.mem_range] at hless
          obtain ⟨h, h5, hc⟩ := hless
          obtain ⟨l', hl', he, hq'⟩ := hk _ (List.contains_iff_mem.1 hc)
          have hle : ∀ j, l'.getD j 0 ≤ l.getD j 0 := by
            intro j
            rcases Nat.lt_or_ge j (hrs m) with hj | hj
            · have e1 : l'.getD j 0 = (padC l').getD j 0 := by
                unfold padC; simp only [List.getD]; rw [List.getElem?_append_left (by rw [hl'.1]; exact hj)]
              have e2 : l.getD j 0 = (padC l).getD j 0 := by
                unfold padC; simp only [List.getD]; rw [List.getElem?_append_left (by rw [hl.1]; exact hj)]
              rw [e1, e2, ← he]
              simp only [List.getD]
              rw [List.getElem?_set]
              split
              · rename_i hjh
                subst hjh
                split
                · show (padC l)[h]?.getD 0 - 1 ≤ _; omega
                · rename_i hn
                  have : (padC l)[h]? = none := List.getElem?_eq_none (by omega)
                  rw [this]; exact Int.le_refl _
              · exact Int.le_refl _
            · simp only [List.getD]
              rw [List.getElem?_eq_none (by rw [hl'.1]; exact hj), List.getElem?_eq_none (by rw [hl.1]; exact hj)]
              exact Int.le_refl _
          rw [sure_more hW hs hT hl' hl hle hq'] at hq
          cases hq
      show y ∈ List.foldl _ (if (lessB ks (padC l) 5 || isSureB m (padC l)) = true then addS ks (padC l) else ks) xs ↔ _
      rw [hiff]
      cases hq : sureQ m l with
      | true =>
        rw [if_pos rfl, ih _ (fun z hz => hx z (by simp [hz])) (fun z hz => by
          rcases mem_addS.1 hz with h1 | rfl
          · exact hk z h1
          · exact ⟨l, hl, rfl, hq⟩), mem_addS]
        constructor
        · rintro ((h1 | rfl) | ⟨h1, h2⟩)
          · exact .inl h1
          · exact .inr ⟨by simp, l, hl, rfl, hq⟩
          · exact .inr ⟨by simp [h1], h2⟩
        · rintro (h1 | ⟨h1, h2⟩)
          · exact .inl (.inl h1)
          · rcases List.mem_cons.1 h1 with rfl | h1
            · exact .inl (.inr rfl)
            · exact .inr ⟨h1, h2⟩
      | false =>
        rw [if_neg (by simp), ih _ (fun z hz => hx z (by simp [hz])) hk]
        constructor
        · rintro (h1 | ⟨h1, h2⟩)
          · exact .inl h1
          · exact .inr ⟨by simp [h1], h2⟩
        · rintro (h1 | ⟨h1, l', hl', he, hq'⟩)
          · exact .inl h1
          · rcases List.mem_cons.1 h1 with rfl | h1
            · have : l = l' := by rw [← padC_take hl, ← padC_take hl', he]
              subst this
              rw [hq] at hq'; cases hq'
            · exact .inr ⟨h1, l', hl', he, hq'⟩
  unfold sureL
  rw [key _ [] (fun x hx => hx) (fun x hx => by cases hx)]
  constructor
  · rintro (h | ⟨_, h⟩)
    · cases h
    · exact h
  · rintro ⟨l, hl, rfl, hq⟩
    exact .inr ⟨genA_mem.2 ⟨l, hl, rfl⟩, l, hl, rfl, hq⟩
theorem sumL_from : ∀ (l : List Int) (a : Int), l.foldl (· + ·) a = a + sumL l
  | [], a => by simp [sumL]
  | x :: l, a => by
    unfold sumL
    show List.foldl (· + ·) (a + x) l = a + List.foldl (· + ·) (0 + x) l
    rw [sumL_from l (a + x), sumL_from l (0 + x)]; omega
theorem sumL_app (a b : List Int) : sumL (a ++ b) = sumL a + sumL b := by
  unfold sumL
  rw [List.foldl_append, sumL_from]
  rfl
theorem sumL_pad {m : CopM} {l : List Int} (_ : CoalOk m l) : sumL (padC l) = sumL l := by
  unfold padC
  rw [sumL_app]
  have : ∀ n, sumL (List.drop n [0, 0, 0, 0, 0]) = 0 := by
    intro n
    match n with
    | 0 => rfl
    | 1 => rfl
    | 2 => rfl
    | 3 => rfl
    | 4 => rfl
    | n + 5 => rw [List.drop_of_length_le (by simp)]; rfl
  rw [this]; omega
theorem sumL_nn : ∀ (l : List Int) {s : Int}, (∀ x ∈ l, 0 ≤ x ∧ x ≤ s) → 0 ≤ sumL l ∧ sumL l ≤ s * l.length
  | [], s, _ => by simp [sumL]
  | x :: l, s, h => by
    have h1 := sumL_nn l (s := s) fun y hy => h y (by simp [hy])
    have h2 := h x (by simp)
    have h3 : sumL (x :: l) = x + sumL l := by show List.foldl (· + ·) (0 + x) l = _; rw [sumL_from]; omega
    rw [h3]
    have h4 : s * ((x :: l).length : Nat) = s * l.length + s := by
      simp only [List.length_cons]; push_cast; rw [Int.mul_add]; omega
    rw [h4]; omega
/-- the least coal, if there is some -/
theorem least_none {m : CopM} (hW : WOk m) (h0 : 0 ≤ m.shovels) (hs : m.shovels ≤ 3) (hT : ∀ t ∈ truthsL m, 0 ≤ t.1) (h : leastO m = none) {l : List Int} (hl : CoalOk m l) : sureQ m l = false := by
  cases hq : sureQ m l with
  | false => rfl
  | true =>
    exfalso
    have h1 := sumL_nn l hl.2
    rw [hl.1] at h1
    have hn : (sumL l).toNat < manyN m := by
      have : ((manyN m : Nat) : Int) = m.shovels * hrs m + 1 := by unfold manyN; push_cast; rw [Int.toNat_of_nonneg h0]
      omega
    unfold leastO leastU at h
    rw [List.findSome?_eq_none_iff] at h
    have h2 := h _ (List.mem_range.2 hn)
    unfold leastAt at h2
    rw [List.find?_eq_none] at h2
    refine h2 (padC l) (genA_mem.2 ⟨l, hl, rfl⟩) ?_
    simp only [isLeast, Bool.and_eq_true, decide_eq_true_eq, List.contains_iff_mem]
    exact ⟨(sureL_mem hW hs hT _).2 ⟨l, hl, rfl, hq⟩, by rw [sumL_pad hl]; omega⟩
theorem least_some {m : CopM} (hW : WOk m) (hs : m.shovels ≤ 3) (hT : ∀ t ∈ truthsL m, 0 ≤ t.1) {es : List Int} (h : leastO m = some es) :
    CoalOk m (leastL m) ∧ sureQ m (leastL m) = true ∧ ∀ l, CoalOk m l → sureQ m l = true → sumL (leastL m) ≤ sumL l ∧ (sumL l = sumL (leastL m) → beforeS l (leastL m) = false) := by
  unfold leastL leastP
  rw [h, Option.getD_some]
  unfold leastO leastU at h
  obtain ⟨as1, j, bs1, hr, hj, hn⟩ := List.findSome?_eq_some_iff.1 h
  have hlt : ∀ i < j, leastAt m i = none := by
    intro i hi
    refine hn i ?_
    have h3 : (List.range (manyN m)) = as1 ++ j :: bs1 := hr
    have h4 := congrArg (fun l => l[as1.length]?) h3
    simp only [List.getElem?_append_right (Nat.le_refl _), Nat.sub_self, List.getElem?_cons_zero] at h4
    have h5 := List.getElem?_eq_some_iff.1 h4
    obtain ⟨h6, h7⟩ := h5
    rw [List.getElem_range] at h7
    have h8 := congrArg (fun l => l[i]?) h3
    rw [List.getElem?_append_left (by omega), List.getElem?_eq_getElem (by rw [List.length_range]; rw [List.length_range] at h6; omega), List.getElem_range] at h8
    exact List.mem_of_getElem? h8.symm
  clear hr hn
  unfold leastAt at hj
  rw [genA_eq, List.find?_map] at hj
  obtain ⟨l, hfl, rfl⟩ := Option.map_eq_some_iff.1 hj
  have hl : CoalOk m l := genR_mem.1 (List.mem_of_find?_eq_some hfl)
  have hp := List.find?_some hfl
  simp only [Function.comp_apply, isLeast, Bool.and_eq_true, decide_eq_true_eq, List.contains_iff_mem] at hp
  obtain ⟨hp1, hp2⟩ := hp
  obtain ⟨l2, hl2, he2, hq⟩ := (sureL_mem hW hs hT _).1 hp1
  have : l = l2 := by rw [← padC_take hl, ← padC_take hl2, he2]
  subst this
  rw [sumL_pad hl] at hp2
  rw [padC_take hl]
  refine ⟨hl, hq, fun k hk hqk => ?_⟩
  have hk0 := (sumL_nn k hk.2).1
  have hsum : sumL l ≤ sumL k := by
    refine Int.not_lt.1 fun hlt2 => ?_
    have h1 := hlt (sumL k).toNat (by omega)
    unfold leastAt at h1
    rw [List.find?_eq_none] at h1
    refine h1 (padC k) (genA_mem.2 ⟨k, hk, rfl⟩) ?_
    simp only [isLeast, Bool.and_eq_true, decide_eq_true_eq, List.contains_iff_mem]
    exact ⟨(sureL_mem hW hs hT _).2 ⟨k, hk, rfl, hqk⟩, by rw [sumL_pad hk]; omega⟩
  refine ⟨hsum, fun he => sorted_first (gen_sorted _) hfl k (genR_mem.2 hk) ?_⟩
  simp only [Function.comp_apply, isLeast, Bool.and_eq_true, decide_eq_true_eq, List.contains_iff_mem]
  exact ⟨(sureL_mem hW hs hT _).2 ⟨k, hk, rfl, hqk⟩, by rw [sumL_pad hk]; omega⟩
end Go.Proofs.Ytjbiidlmpaibkaa
