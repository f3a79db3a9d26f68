import Derived.Test.YtehobnpoeodhkaaTx
namespace Go.Proofs.Ytehobnpoeodhkaa
open Go Go.Abs Go.Proofs
set_option maxHeartbeats 800000

/-! ### The smallest set -/
theorem find_le {p : List Int → Bool} {s : List Int} (hp : p s = true) : ∀ {l : List (List Int)}, (l.Pairwise fun a b => a.length ≤ b.length) → s ∈ l → ∃ b, l.find? p = some b ∧ p b = true ∧ b ∈ l ∧ b.length ≤ s.length
  | [], _, hm => by cases hm
  | y :: l, hs, hm => by
    rw [List.pairwise_cons] at hs
    cases hy : p y with
    | true =>
      refine ⟨y, by simp [hy], hy, by simp, ?_⟩
      rcases List.mem_cons.1 hm with rfl | h
      · exact Nat.le_refl _
      · exact hs.1 s h
    | false =>
      rcases List.mem_cons.1 hm with rfl | h
      · rw [hy] at hp; cases hp
      · obtain ⟨b, h1, h2, h3, h4⟩ := find_le hp hs.2 h
        exact ⟨b, by simp [hy, h1], h2, by simp [h3], h4⟩
theorem mem_upTo {m : HouseM} {s : List Int} {j : Nat} : s ∈ upToN m j ↔ ∃ q, q < j ∧ s ∈ subs q 0 m.clips.length := by
  unfold upToN
  rw [List.mem_flatMap]
  simp only [List.mem_range]
theorem upTo_sorted (m : HouseM) : ∀ j, (upToN m j).Pairwise fun a b => a.length ≤ b.length
  | 0 => by simp [upToN]
  | j + 1 => by
    rw [upToN_step, List.pairwise_append]
    refine ⟨upTo_sorted m j, List.pairwise_iff_getElem.2 fun a b ha hb _ => ?_, fun a ha b hb => ?_⟩
    · rw [subs_len _ _ _ _ (List.getElem_mem ha), subs_len _ _ _ _ (List.getElem_mem hb)]; exact Nat.le_refl _
    · obtain ⟨q, hq, h⟩ := mem_upTo.1 ha
      rw [subs_len _ _ _ _ h, subs_len _ _ _ _ hb]
      omega
abbrev toI (l : List Nat) : List Int := l.map fun (p : Nat) => (p : Int)
theorem subs_in : ∀ (q f lim : Nat) (l : List Nat), l.Pairwise (· < ·) → (∀ x ∈ l, f ≤ x ∧ x < lim) → l.length = q → toI l ∈ subs q f lim
  | 0, f, lim, l, _, _, h => by
    obtain rfl := List.length_eq_zero_iff.1 h
    simp [subs]
  | q + 1, f, lim, a :: l, hp, hb, h => by
    rw [List.pairwise_cons] at hp
    have ha := hb a (by simp)
    simp only [subs, List.mem_flatMap, List.mem_map]
    exact ⟨a, by rw [List.mem_range'_1]; omega, toI l, subs_in q (a + 1) lim l hp.2 (fun x hx => ⟨by have := hp.1 x hx; omega, (hb x (by simp [hx])).2⟩) (by simpa using h), rfl⟩
theorem subs_out : ∀ (q f lim : Nat) (s : List Int), s ∈ subs q f lim → ∃ l : List Nat, s = toI l ∧ l.Pairwise (· < ·) ∧ ∀ x ∈ l, f ≤ x ∧ x < lim
  | 0, f, lim, s, h => by
    simp [subs] at h; subst h
    exact ⟨[], rfl, List.Pairwise.nil, by simp⟩
  | q + 1, f, lim, s, h => by
    simp only [subs, List.mem_flatMap, List.mem_map] at h
    obtain ⟨n, hn, t, ht, rfl⟩ := h
    rw [List.mem_range'_1] at hn
    obtain ⟨l, rfl, h1, h2⟩ := subs_out q (n + 1) lim t ht
    refine ⟨n :: l, rfl, List.pairwise_cons.2 ⟨fun x hx => by have := h2 x hx; omega, h1⟩, fun x hx => ?_⟩
    rcases List.mem_cons.1 hx with rfl | hx
    · omega
    · have := h2 x hx; omega
theorem toI_mem (l : List Nat) (k : Nat) : (toI l).contains (k : Int) = decide (k ∈ l) := by
  rw [Bool.eq_iff_iff]
  simp only [List.contains_iff_mem, decide_eq_true_eq, toI, List.mem_map]
  exact ⟨fun ⟨a, h, e⟩ => by rw [← Int.ofNat_inj.1 e]; exact h, fun h => ⟨k, h, rfl⟩⟩
theorem gen_neY : ∀ (l : List (Int × Int)), (∀ r ∈ l, r.1 ≤ r.2) → gen l ≠ []
  | [], _ => by simp [gen]
  | r :: l, h => by
    have ih := gen_neY l (fun x hx => h x (by simp [hx]))
    have hr := h r (by simp)
    obtain ⟨s, hs⟩ := List.exists_mem_of_ne_nil _ ih
    have h1 : r.1 ∈ rng r := by
      unfold rng
      exact List.mem_map.2 ⟨0, List.mem_range.2 (by omega), by simp⟩
    intro e
    have : r.1 :: s ∈ gen (r :: l) := by
      simp only [gen, List.mem_flatMap, List.mem_map]
      exact ⟨r.1, h1, s, hs, rfl⟩
    rw [e] at this; cases this
theorem has_iffY {m : HouseM} : hasS m = true ↔ ∃ es, es ∈ truthsL m := by
  unfold hasS
  cases h : truthsL m with
  | nil => simp
  | cons a l => exact ⟨fun _ => ⟨a, by simp⟩, fun _ => rfl⟩
theorem hasY_nil {m : HouseM} (hG : Good m) (hc : m.clips = []) : hasS m = true := by
  have h1 : errs m ≠ [] := by
    unfold errs
    intro e
    exact gen_neY m.clocks (fun r hr => (hG.clock r hr).2.1) (by simpa using e)
  obtain ⟨es, hes⟩ := List.exists_mem_of_ne_nil _ h1
  exact has_iffY.2 ⟨es, List.mem_filter.2 ⟨hes, by unfold isT; rw [hc]; rfl⟩⟩
theorem kept_none (cs : List ClipM) (n : Nat) : keptN cs (toI (List.range n)) n = [] := by
  unfold keptN
  rw [List.filterMap_eq_nil_iff]
  intro k hk
  rw [toI_mem, decide_eq_true hk, if_pos rfl]
theorem kept_nil (cs : List ClipM) : ∀ n, n ≤ cs.length → keptN cs [] n = cs.take n
  | 0, _ => by simp [keptN]
  | n + 1, h => by
    rw [keptN_step (by omega), kept_nil cs n (by omega), List.take_succ_eq_append_getElem (by omega)]
    rfl
theorem without_nil (m : HouseM) : without m [] = m := by
  unfold without
  rw [kept_nil _ _ (Nat.le_refl _), List.take_length]
theorem inc_len : ∀ (l : List Nat) (f lim : Nat), l.Pairwise (· < ·) → (∀ x ∈ l, f ≤ x ∧ x < lim) → l.length ≤ lim - f
  | [], _, _, _, _ => by simp
  | a :: l, f, lim, hp, hb => by
    rw [List.pairwise_cons] at hp
    have ha := hb a (by simp)
    have ih := inc_len l (a + 1) lim hp.2 fun x hx => ⟨by have := hp.1 x hx; omega, (hb x (by simp [hx])).2⟩
    simp only [List.length_cons]
    omega
/-- what the smallest set is -/
theorem leave_is {m : HouseM} (hG : Good m) : (∃ l : List Nat, leaveS m = toI l ∧ l.Pairwise (· < ·) ∧ ∀ x ∈ l, x < m.clips.length) ∧ okWithout m (leaveS m) = true ∧
    ∀ l : List Nat, l.Pairwise (· < ·) → (∀ x ∈ l, x < m.clips.length) → okWithout m (toI l) = true → (leaveS m).length ≤ l.length := by
  have hin : ∀ l : List Nat, l.Pairwise (· < ·) → (∀ x ∈ l, x < m.clips.length) → toI l ∈ upToN m (m.clips.length + 1) := fun l h1 h2 =>
    mem_upTo.2 ⟨l.length, by have := inc_len l 0 m.clips.length h1 fun x hx => ⟨Nat.zero_le _, h2 x hx⟩; omega, subs_in _ _ _ l h1 (fun x hx => ⟨Nat.zero_le _, h2 x hx⟩) rfl⟩
  have hfull : okWithout m (toI (List.range m.clips.length)) = true := by
    unfold okWithout
    exact hasY_nil (without_good hG _) (kept_none _ _)
  obtain ⟨b, h1, h2, h3, _⟩ := find_le hfull (upTo_sorted m (m.clips.length + 1)) (hin _ List.pairwise_lt_range (fun x hx => List.mem_range.1 hx))
  have hS : smallS m = some b := h1
  have hL : leaveS m = b := by unfold leaveS; rw [hS]; rfl
  rw [hL]
  refine ⟨?_, h2, fun l h5 h6 h7 => ?_⟩
  · obtain ⟨q, _, h⟩ := mem_upTo.1 h3
    obtain ⟨l, e, a, c⟩ := subs_out _ _ _ _ h
    exact ⟨l, e, a, fun x hx => (c x hx).2⟩
  · obtain ⟨b', k1, _, _, k4⟩ := find_le h7 (upTo_sorted m (m.clips.length + 1)) (hin l h5 h6)
    have h8 : smallS m = some b' := k1
    rw [hS] at h8
    cases h8
    simpa using k4
theorem leave_zero {m : HouseM} (hG : Good m) : (leaveS m).length = 0 ↔ hasS m = true := by
  obtain ⟨_, h2, h3⟩ := leave_is hG
  constructor
  · intro h
    rw [List.length_eq_zero_iff.1 h] at h2
    unfold okWithout at h2
    rwa [without_nil] at h2
  · intro h
    have := h3 [] List.Pairwise.nil (by simp) (by unfold okWithout; rw [show toI [] = [] from rfl, without_nil]; exact h)
    simpa using this

/-! ### More truths -/
theorem lo_sub {l l' : List (List Int)} (h : ∀ es ∈ l, es ∈ l') (q : List Int → Int) : loS l' q ≤ loS l q := by
  unfold loS
  have k := (fminY (l'.map q) 9223372036854775807 _).1 (Int.le_refl _)
  refine (fminY _ _ _).2 ⟨k.1, fun y hy => ?_⟩
  obtain ⟨x, hx, rfl⟩ := List.mem_map.1 hy
  exact k.2 _ (List.mem_map.2 ⟨x, h x hx, rfl⟩)
theorem hi_sub {l l' : List (List Int)} (h : ∀ es ∈ l, es ∈ l') (q : List Int → Int) : hiS l q ≤ hiS l' q := by
  unfold hiS
  have k := (fmaxY (l'.map q) (-9223372036854775808) _).1 (Int.le_refl _)
  refine (fmaxY _ _ _).2 ⟨k.1, fun y hy => ?_⟩
  obtain ⟨x, hx, rfl⟩ := List.mem_map.1 hy
  exact k.2 _ (List.mem_map.2 ⟨x, h x hx, rfl⟩)
theorem kept_sub {l l' : List (List Int)} (hne : l ≠ []) (h : ∀ es ∈ l, es ∈ l') (p : List Int → Bool) : verdictS l' p = 3 ∨ verdictS l p = verdictS l' p := by
  have hne' : l' ≠ [] := by
    intro e
    obtain ⟨x, hx⟩ := List.exists_mem_of_ne_nil _ hne
    have := h x hx
    rw [e] at this; cases this
  by_cases h1 : verdictS l' p = 1
  · exact .inr (by rw [h1, verdict_one]; exact fun es hes => verdict_one.1 h1 es (h es hes))
  · by_cases h2 : verdictS l' p = 2
    · exact .inr (by rw [h2, verdict_two hne]; exact fun es hes => (verdict_two hne').1 h2 es (h es hes))
    · refine .inl ?_
      unfold verdictS at h1 h2 ⊢
      split
      · rename_i k; rw [if_pos k] at h1; exact absurd rfl h1
      · rename_i k
        split
        · rfl
        · rename_i k2; rw [if_neg k, if_neg k2] at h2; exact absurd rfl h2
/-- a house in which the range of a clock is wider -/
structure Wide (m x : HouseM) : Prop where
  clips : x.clips = m.clips
  tickets : x.tickets = m.tickets
  hour : x.hour = m.hour
  grace : x.grace = m.grace
  len : x.clocks.length = m.clocks.length
  sub : ∀ s ∈ gen m.clocks, s ∈ gen x.clocks
theorem Wide.truths {m x : HouseM} (h : Wide m x) : ∀ es ∈ truthsL m, es ∈ truthsL x := fun es hes => by
  unfold truthsL at hes ⊢
  obtain ⟨h1, h2⟩ := List.mem_filter.1 hes
  refine List.mem_filter.2 ⟨?_, by unfold isT at h2 ⊢; rw [h.clips]; exact h2⟩
  unfold errs at h1 ⊢
  obtain ⟨s, hs, rfl⟩ := List.mem_map.1 h1
  exact List.mem_map.2 ⟨s, h.sub s hs, by rw [h.len]⟩
theorem Wide.has {m x : HouseM} (h : Wide m x) (ht : hasS m = true) : hasS x = true := by
  obtain ⟨es, hes⟩ := has_iffY.1 ht
  exact has_iffY.2 ⟨es, h.truths es hes⟩
theorem Wide.without {m x : HouseM} (h : Wide m x) (l : List Int) : Wide (without m l) (without x l) :=
  ⟨by show keptN x.clips l x.clips.length = keptN m.clips l m.clips.length; rw [h.clips], h.tickets, h.hour, h.grace, h.len, h.sub⟩
theorem Wide.leave {m x : HouseM} (h : Wide m x) (hG : Good m) (hX : Good x) : (leaveS x).length ≤ (leaveS m).length := by
  obtain ⟨⟨l, e, a, b⟩, h2, _⟩ := leave_is hG
  obtain ⟨_, _, h3⟩ := leave_is hX
  rw [e] at h2 ⊢
  have := h3 l a (by rw [h.clips]; exact b) ((h.without (toI l)).has h2)
  simpa using this
theorem Wide.hours {m x : HouseM} (h : Wide m x) (t : Nat) (es : List Int) : hoursQ x t es = hoursQ m t es := by
  unfold hoursQ
  rw [h.clips, h.hour, h.grace]
theorem Wide.long {m x : HouseM} (h : Wide m x) (t : Nat) (es : List Int) : longQ x t es = longQ m t es := by
  unfold longQ
  rw [h.hours, h.tickets]
theorem Wide.paid {m x : HouseM} (h : Wide m x) (es : List Int) (k : Nat) : paidS (wm x es) k = paidS (wm m es) k := by
  unfold paidS paidRow longP
  simp only [h.clips, h.tickets, h.hour, h.grace]
theorem ne_of_has {m : HouseM} (h : hasS m = true) : truthsL m ≠ [] := by
  obtain ⟨es, hes⟩ := has_iffY.1 h
  intro e; rw [e] at hes; cases hes
theorem Wide.clock_at {m x : HouseM} (h : Wide m x) {t : Nat} (ht : t < m.clocks.length) :
    ∃ r s : Int × Int, ((clocksS m).map encR)[((t : Nat) : Int).toNat]? = some (encR r) ∧ ((clocksS x).map encR)[((t : Nat) : Int).toNat]? = some (encR s) ∧ s.1 ≤ r.1 ∧ r.2 ≤ s.2 :=
  ⟨bdS m (fun t es => es.getD t 0) t, bdS x (fun t es => es.getD t 0) t, by simp [clocksS, ht], by simp [clocksS, h.len, ht], lo_sub h.truths _, hi_sub h.truths _⟩
theorem Wide.hours_at {m x : HouseM} (h : Wide m x) {t : Nat} (ht : t < m.tickets.length) :
    ∃ r s : Int × Int, ((hrsS m).map encR)[((t : Nat) : Int).toNat]? = some (encR r) ∧ ((hrsS x).map encR)[((t : Nat) : Int).toNat]? = some (encR s) ∧ s.1 ≤ r.1 ∧ r.2 ≤ s.2 := by
  have hq : hoursQ x t = hoursQ m t := by funext es; exact h.hours t es
  refine ⟨bdS m (hoursQ m) t, bdS x (hoursQ x) t, by simp [hrsS, ht], by simp [hrsS, h.tickets, ht], ?_, ?_⟩
  · show loS (truthsL x) (hoursQ x t) ≤ loS (truthsL m) (hoursQ m t)
    rw [hq]; exact lo_sub h.truths _
  · show hiS (truthsL m) (hoursQ m t) ≤ hiS (truthsL x) (hoursQ x t)
    rw [hq]; exact hi_sub h.truths _
theorem Wide.long_at {m x : HouseM} (h : Wide m x) (hT : hasS m = true) {t : Nat} (ht : t < m.tickets.length) :
    ∃ u v : Int, (encI (longS m))[((t : Nat) : Int).toNat]? = some [.int .i64 u] ∧ (encI (longS x))[((t : Nat) : Int).toNat]? = some [.int .i64 v] ∧ (v = 3 ∨ u = v) := by
  have hq : longQ x t = longQ m t := by funext es; exact h.long t es
  refine ⟨verdictS (truthsL m) (longQ m t), verdictS (truthsL x) (longQ x t), by simp [encI, longS, ht], by simp [encI, longS, h.tickets, ht], ?_⟩
  rw [hq]
  exact kept_sub (ne_of_has hT) h.truths _
theorem Wide.paid_at {m x : HouseM} (h : Wide m x) (hT : hasS m = true) : paidV x = 3 ∨ paidV m = paidV x := by
  unfold paidV
  have hq : (fun es => paidS (wm x es) x.tickets.length) = fun es => paidS (wm m es) m.tickets.length := by funext es; rw [h.tickets]; exact h.paid es _
  rw [hq]
  exact kept_sub (ne_of_has hT) h.truths _
theorem rng_in {r : Int × Int} {n : Int} (h : r.1 ≤ n ∧ n ≤ r.2) : n ∈ rng r := by
  unfold rng
  exact List.mem_map.2 ⟨(n - r.1).toNat, List.mem_range.2 (by omega), by omega⟩
theorem gen_set : ∀ (cs : List (Int × Int)) (k : Nat) (r : Int × Int), (∀ r0, cs[k]? = some r0 → r.1 ≤ r0.1 ∧ r0.2 ≤ r.2) → ∀ s ∈ gen cs, s ∈ gen (cs.set k r)
  | [], _, _, _, s, hs => hs
  | c :: cs, 0, r, h, s, hs => by
    have hr := h c (by simp)
    simp only [gen, List.mem_flatMap, List.mem_map, List.set_cons_zero] at hs ⊢
    obtain ⟨n, hn, t, ht, rfl⟩ := hs
    have := rng_mem hn
    exact ⟨n, rng_in (by omega), t, ht, rfl⟩
  | c :: cs, k + 1, r, h, s, hs => by
    simp only [gen, List.mem_flatMap, List.mem_map, List.set_cons_succ] at hs ⊢
    obtain ⟨n, hn, t, ht, rfl⟩ := hs
    exact ⟨n, hn, t, gen_set cs k r (fun r0 h0 => h r0 (by simpa using h0)) t ht, rfl⟩
def wideM (m : HouseM) (k : Nat) (r : Int × Int) : HouseM := { m with clocks := m.clocks.set k r }
theorem wide_is {m : HouseM} {k : Nat} {r : Int × Int} (hk : k < m.clocks.length) (h : r.1 ≤ m.clocks[k].1 ∧ m.clocks[k].2 ≤ r.2) : Wide m (wideM m k r) :=
  ⟨rfl, rfl, rfl, rfl, by simp [wideM], gen_set _ _ _ fun r0 h0 => by rw [List.getElem?_eq_getElem hk] at h0; cases h0; exact h⟩
end Go.Proofs.Ytehobnpoeodhkaa
