import Derived.Test.YtehobnpoeodhkaaUb
namespace Go.Proofs.Ytehobnpoeodhkaa
open Go Go.Abs Go.Proofs
set_option maxHeartbeats 800000

/-! ### One more clip -/
def moreM (m : HouseM) (c : ClipM) : HouseM := { m with clips := m.clips ++ [c] }
theorem isTruth_app (es : List Int) (l' : List ClipM) : ∀ (l : List ClipM) (a : Int), isTruthS es a (l ++ l') = true → isTruthS es a l = true
  | [], _, _ => rfl
  | c :: l, a, h => by
    simp only [List.cons_append, isTruthS, Bool.and_eq_true] at h ⊢
    exact ⟨h.1, isTruth_app es l' l _ h.2⟩
theorem more_sub (m : HouseM) (c : ClipM) : (truthsL (moreM m c)).Sublist (truthsL m) := by
  have h : ∀ es, isT (moreM m c) es = true → isT m es = true := fun es h => isTruth_app es [c] m.clips _ h
  have e : truthsL (moreM m c) = (truthsL m).filter (isT (moreM m c)) := by
    show (errs m).filter _ = ((errs m).filter _).filter _
    rw [List.filter_filter]
    refine List.filter_congr fun es _ => ?_
    cases hx : isT (moreM m c) es with
    | false => rfl
    | true => rw [h es hx]; rfl
  rw [e]; exact List.filter_sublist
theorem has_mono {a b : HouseM} (h : ∀ es ∈ truthsL a, es ∈ truthsL b) (ht : hasS a = true) : hasS b = true := by
  obtain ⟨es, hes⟩ := has_iffY.1 ht
  exact has_iffY.2 ⟨es, h es hes⟩
theorem kept_app (cs : List ClipM) (c : ClipM) (s s' : List Int) : ∀ n, n ≤ cs.length → (∀ k : Nat, k < n → s.contains (k : Int) = s'.contains (k : Int)) → keptN (cs ++ [c]) s n = keptN cs s' n
  | 0, _, _ => by simp [keptN]
  | n + 1, h, hk => by
    have hn : n < (cs ++ [c]).length := by simp; omega
    rw [keptN_step hn, keptN_step (by omega), kept_app cs c s s' n (by omega) (fun k hk' => hk k (by omega)), hk n (by omega), List.getElem_append_left (by omega)]
theorem kept_last (cs : List ClipM) (c : ClipM) (s : List Int) : keptN (cs ++ [c]) s (cs.length + 1) = if s.contains (cs.length : Int) then keptN (cs ++ [c]) s cs.length else keptN (cs ++ [c]) s cs.length ++ [c] := by
  rw [keptN_step (by simp), List.getElem_append_right (by omega)]
  simp
theorem truths_of_clips {a b : HouseM} (hc : b.clocks = a.clocks) (h : ∀ es, isT a es = true → isT b es = true) : ∀ es ∈ truthsL a, es ∈ truthsL b := fun es hes => by
  unfold truthsL at hes ⊢
  obtain ⟨h1, h2⟩ := List.mem_filter.1 hes
  exact List.mem_filter.2 ⟨by unfold errs at h1 ⊢; rw [hc]; exact h1, h es h2⟩
theorem more_leave {m : HouseM} {c : ClipM} (hG : Good m) (hX : Good (moreM m c)) : (leaveS m).length ≤ (leaveS (moreM m c)).length ∧ (leaveS (moreM m c)).length ≤ (leaveS m).length + 1 := by
  have hlen : (moreM m c).clips.length = m.clips.length + 1 := by simp [moreM]
  obtain ⟨⟨l, e, hp, hb⟩, h2, h3⟩ := leave_is hG
  obtain ⟨⟨l', e', hp', hb'⟩, h2', h3'⟩ := leave_is hX
  rw [hlen] at hb' h3'
  constructor
  · have k := h3 (l'.filter fun x => decide (x < m.clips.length)) (hp'.filter _) (fun x hx => by simpa using (List.mem_filter.1 hx).2) ?_
    · refine Nat.le_trans k (Nat.le_trans (List.length_filter_le _ _) ?_)
      rw [e']; simp
    · rw [e'] at h2'
      unfold okWithout at h2' ⊢
      refine has_mono (a := without (moreM m c) (toI l')) (truths_of_clips rfl fun es he => ?_) h2'
      have hk : keptN (m.clips ++ [c]) (toI l') m.clips.length = keptN m.clips (toI (l'.filter fun x => decide (x < m.clips.length))) m.clips.length :=
        kept_app _ _ _ _ _ (Nat.le_refl _) fun k hk => by rw [toI_mem, toI_mem]; simp [hk]
      have he2 : isTruthS es (-9223372036854775808) (keptN (m.clips ++ [c]) (toI l') (moreM m c).clips.length) = true := he
      rw [hlen, kept_last, hk] at he2
      show isTruthS es _ (keptN m.clips _ m.clips.length) = true
      split at he2
      · exact he2
      · exact isTruth_app es [c] _ _ he2
  · have hp2 : (l ++ [m.clips.length]).Pairwise (· < ·) := List.pairwise_append.2 ⟨hp, by simp, fun x hx y hy => by simp at hy; subst hy; exact hb x hx⟩
    have k := h3' (l ++ [m.clips.length]) hp2 (fun x hx => by
      rcases List.mem_append.1 hx with h | h
      · have := hb x h; omega
      · simp at h; omega) ?_
    · rw [e]; simpa using k
    · rw [e] at h2
      unfold okWithout at h2 ⊢
      refine has_mono (a := without m (toI l)) (truths_of_clips rfl fun es he => ?_) h2
      show isTruthS es _ (keptN (m.clips ++ [c]) (toI (l ++ [m.clips.length])) (moreM m c).clips.length) = true
      have hk : keptN (m.clips ++ [c]) (toI (l ++ [m.clips.length])) m.clips.length = keptN m.clips (toI l) m.clips.length :=
        kept_app _ _ _ _ _ (Nat.le_refl _) fun k hk => by rw [toI_mem, toI_mem]; simp; omega
      rw [hlen, kept_last, if_pos (by rw [toI_mem]; simp), hk]
      exact he
theorem more_clock_at (m : HouseM) (c : ClipM) {t : Nat} (ht : t < m.clocks.length) :
    ∃ r s : Int × Int, ((clocksS m).map encR)[((t : Nat) : Int).toNat]? = some (encR r) ∧ ((clocksS (moreM m c)).map encR)[((t : Nat) : Int).toNat]? = some (encR s) ∧ r.1 ≤ s.1 ∧ s.2 ≤ r.2 :=
  ⟨bdS m (fun t es => es.getD t 0) t, bdS (moreM m c) (fun t es => es.getD t 0) t, by simp [clocksS, ht], by simp [clocksS, moreM, ht], lo_sub (fun es h => (more_sub m c).subset h) _, hi_sub (fun es h => (more_sub m c).subset h) _⟩
theorem more_left (m : HouseM) (c : ClipM) (t : Nat) : leftS (moreM m c) t ≤ leftS m t := by
  unfold leftS
  refine (fmaxY _ _ _).2 ⟨((fmaxY _ _ _).1 (Int.le_refl _)).1, fun y hy => ?_⟩
  obtain ⟨es, hes, rfl⟩ := List.mem_map.1 hy
  have h1 := ((fmaxY ((truthsL m).map fun es => (((truthsL m).countP fun x => x.getD t 0 == es.getD t 0 : Nat) : Int)) 0 _).1 (Int.le_refl _)).2 _ (List.mem_map.2 ⟨es, (more_sub m c).subset hes, rfl⟩)
  have h2 := (more_sub m c).countP_le (p := fun x => x.getD t 0 == es.getD t 0)
  omega
theorem minY (f : Nat → Int) (n : Nat) (c : Int) : c ≤ (((List.range (n + 1)).map f).tail.foldl min (((List.range (n + 1)).map f).headD 0)) ↔ ∀ i < n + 1, c ≤ f i := by
  rw [List.range_succ_eq_map, List.map_cons, List.tail_cons, List.headD_cons, fminY]
  constructor
  · rintro ⟨h1, h2⟩ i hi
    cases i with
    | zero => exact h1
    | succ i => exact h2 _ (List.mem_map.2 ⟨i + 1, List.mem_map.2 ⟨i, List.mem_range.2 (by omega), rfl⟩, rfl⟩)
  · intro h
    refine ⟨h 0 (by omega), fun x hx => ?_⟩
    obtain ⟨i, hi, rfl⟩ := List.mem_map.1 hx
    obtain ⟨j, hj, rfl⟩ := List.mem_map.1 hi
    exact h _ (by have := List.mem_range.1 hj; omega)
theorem more_look (m : HouseM) (c : ClipM) (h : 0 < m.clocks.length) : lookV (moreM m c) ≤ lookV m := by
  obtain ⟨n, hn⟩ : ∃ n, m.clocks.length = n + 1 := ⟨m.clocks.length - 1, by omega⟩
  unfold lookV leavesS
  rw [show (moreM m c).clocks = m.clocks from rfl, hn]
  have k := (minY (leftS (moreM m c)) n _).1 (Int.le_refl _)
  exact (minY (leftS m) n _).2 fun i hi => Int.le_trans (k i hi) (more_left m c i)
end Go.Proofs.Ytehobnpoeodhkaa
