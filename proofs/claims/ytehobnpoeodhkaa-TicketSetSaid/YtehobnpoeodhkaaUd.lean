import Derived.Test.YtehobnpoeodhkaaUc
namespace Go.Proofs.Ytehobnpoeodhkaa
open Go Go.Abs Go.Proofs
set_option maxHeartbeats 800000

/-! ### A clock that is set -/
def shE (k : Nat) (n : Int) (es : List Int) : List Int := es.set k (es.getD k 0 + n)
def shC (k : Nat) (n : Int) (c : ClipM) : ClipM := if c.clock = k then { c with minute := c.minute + n } else c
def shR (n : Int) (r : Int × Int) : Int × Int := (r.1 + n, r.2 + n)
def setM (m : HouseM) (k : Nat) (n : Int) : HouseM := { m with clocks := m.clocks.set k (shR n (m.clocks.getD k (0, 0))), clips := m.clips.map (shC k n) }
theorem rng_sh (n : Int) (r : Int × Int) : rng (shR n r) = (rng r).map (· + n) := by
  unfold rng shR
  rw [List.map_map, show r.2 + n - (r.1 + n) + 1 = r.2 - r.1 + 1 by omega]
  refine List.map_congr_left fun i _ => ?_
  simp only [Function.comp]
  omega
theorem gen_sh (n : Int) : ∀ (cs : List (Int × Int)) (k : Nat), k < cs.length → gen (cs.set k (shR n (cs.getD k (0, 0)))) = (gen cs).map (shE k n)
  | [], _, h => by simp at h
  | c :: cs, 0, _ => by
    simp only [List.set_cons_zero, gen, List.getD_cons_zero, rng_sh, List.flatMap_map, List.map_flatMap, List.map_map]
    rfl
  | c :: cs, k + 1, h => by
    have ih := gen_sh n cs k (by simpa using h)
    simp only [List.set_cons_succ, gen, List.getD_cons_succ, ih, List.map_flatMap, List.map_map]
    rfl
theorem shE_len (k : Nat) (n : Int) (es : List Int) : (shE k n es).length = es.length := by simp [shE]
theorem shE_app {k : Nat} {n : Int} {s : List Int} (z : List Int) (h : k < s.length) : shE k n (s ++ z) = shE k n s ++ z := by
  unfold shE
  rw [List.set_append_left _ _ h]
  simp [List.getD, List.getElem?_append_left h, h]
theorem shE_at {k : Nat} {n : Int} {es : List Int} (h : k < es.length) (j : Nat) : (shE k n es).getD j 0 = es.getD j 0 + if j = k then n else 0 := by
  unfold shE
  by_cases e : j = k
  · subst e; simp [List.getD, h]
  · rw [if_neg e]
    simp [List.getD, List.getElem?_set_ne (Ne.symm e)]
theorem errs_sh {m : HouseM} {k : Nat} (n : Int) (hk : k < m.clocks.length) : errs (setM m k n) = (errs m).map (shE k n) := by
  unfold errs
  show (gen (m.clocks.set k (shR n (m.clocks.getD k (0, 0))))).map _ = _
  rw [gen_sh n _ _ hk, List.map_map, List.map_map]
  refine List.map_congr_left fun s hs => ?_
  have hl := gen_elem_len _ _ hs
  simp only [Function.comp]
  rw [shE_app _ (by omega)]
  simp [setM]
theorem true_sh {k : Nat} {n : Int} {es : List Int} {c : ClipM} (h : k < es.length) (hc : 0 ≤ c.clock) : trueM (shE k n es) (shC k n c) = trueM es c := by
  unfold trueM shC
  by_cases e : c.clock = k
  · rw [if_pos e]
    show c.minute + n - (shE k n es).getD c.clock.toNat 0 = _
    rw [shE_at h, if_pos (by omega)]
    omega
  · rw [if_neg e, shE_at h, if_neg (by omega)]
    omega
theorem ticket_sh (k : Nat) (n : Int) (c : ClipM) : (shC k n c).ticket = c.ticket := by unfold shC; split <;> rfl
theorem clock_sh (k : Nat) (n : Int) (c : ClipM) : (shC k n c).clock = c.clock := by unfold shC; split <;> rfl
theorem isTruth_sh {k : Nat} {n : Int} {es : List Int} (h : k < es.length) : ∀ (cs : List ClipM) (a : Int), (∀ c ∈ cs, 0 ≤ c.clock) → isTruthS (shE k n es) a (cs.map (shC k n)) = isTruthS es a cs
  | [], _, _ => rfl
  | c :: cs, a, hc => by
    simp only [List.map_cons, isTruthS]
    rw [true_sh h (hc c (by simp)), isTruth_sh h cs _ fun x hx => hc x (by simp [hx])]
theorem errs_lenY {m : HouseM} {es : List Int} (h : es ∈ errs m) : m.clocks.length ≤ es.length := by
  unfold errs at h
  obtain ⟨s, hs, rfl⟩ := List.mem_map.1 h
  have := gen_elem_len _ _ hs
  rw [List.length_append]; omega
theorem truths_sh {m : HouseM} {k : Nat} (n : Int) (hk : k < m.clocks.length) (hc : ∀ c ∈ m.clips, 0 ≤ c.clock) : truthsL (setM m k n) = (truthsL m).map (shE k n) := by
  unfold truthsL
  rw [errs_sh n hk, List.filter_map]
  refine congrArg _ (List.filter_congr fun es hes => ?_)
  exact isTruth_sh (by have := errs_lenY hes; omega) _ _ hc
theorem keptN_map (f : ClipM → ClipM) (cs : List ClipM) (s : List Int) : ∀ n, n ≤ cs.length → keptN (cs.map f) s n = (keptN cs s n).map f
  | 0, _ => by simp [keptN]
  | n + 1, h => by
    rw [keptN_step (by rw [List.length_map]; omega), keptN_step (by omega), keptN_map f cs s n (by omega)]
    split <;> simp
theorem without_sh (m : HouseM) (k : Nat) (n : Int) (s : List Int) : without (setM m k n) s = setM (without m s) k n := by
  unfold without setM
  simp only [List.length_map, keptN_map _ _ _ _ (Nat.le_refl _)]
theorem has_sh {m : HouseM} {k : Nat} (n : Int) (hk : k < m.clocks.length) (hc : ∀ c ∈ m.clips, 0 ≤ c.clock) : hasS (setM m k n) = hasS m := by
  unfold hasS
  rw [truths_sh n hk hc]
  cases truthsL m <;> rfl
theorem leave_sh {m : HouseM} {k : Nat} (n : Int) (hk : k < m.clocks.length) (hc : ∀ c ∈ m.clips, 0 ≤ c.clock) : leaveS (setM m k n) = leaveS m := by
  have h1 : okWithout (setM m k n) = okWithout m := by
    funext s
    unfold okWithout
    rw [without_sh]
    exact has_sh n hk fun c h => hc c ((keptN_all m s).subset h)
  unfold leaveS smallS upToN
  rw [h1, show (setM m k n).clips.length = m.clips.length by simp [setM]]
theorem stays_sh {k : Nat} {n : Int} {es : List Int} (h : k < es.length) (cs : List ClipM) (hc : ∀ c ∈ cs, 0 ≤ c.clock) : staysS (shE k n es) (cs.map (shC k n)) = staysS es cs := by
  unfold staysS
  generalize List.replicate 6 stay0 = ss
  induction cs generalizing ss with
  | nil => rfl
  | cons c cs ih =>
    have h1 : staysStep (shE k n es) ss (shC k n c) = staysStep es ss c := by
      unfold staysStep stay1
      rw [ticket_sh, true_sh h (hc c (by simp))]
    rw [List.map_cons, List.foldl_cons, List.foldl_cons, h1]
    exact ih (fun x hx => hc x (by simp [hx])) _
theorem map_sh {m : HouseM} {k : Nat} (n : Int) (hk : k < m.clocks.length) (hc : ∀ c ∈ m.clips, 0 ≤ c.clock) {β : Type} {f f' : List Int → β} (h : ∀ es ∈ truthsL m, f' (shE k n es) = f es) : (truthsL (setM m k n)).map f' = (truthsL m).map f := by
  rw [truths_sh n hk hc, List.map_map]
  exact List.map_congr_left h
theorem truth_lenY {m : HouseM} {es : List Int} (h : es ∈ truthsL m) : m.clocks.length ≤ es.length := errs_lenY (truths_mem h)
theorem hours_sh {m : HouseM} {k : Nat} (n : Int) (hk : k < m.clocks.length) (hc : ∀ c ∈ m.clips, 0 ≤ c.clock) (t : Nat) {es : List Int} (h : es ∈ truthsL m) : hoursQ (setM m k n) t (shE k n es) = hoursQ m t es := by
  unfold hoursQ
  have := truth_lenY h
  show hoursS m.hour m.grace ((staysS (shE k n es) (m.clips.map (shC k n)))[t]?.getD stay0) = _
  rw [stays_sh (by omega) _ hc]
theorem hrs_sh {m : HouseM} {k : Nat} (n : Int) (hk : k < m.clocks.length) (hc : ∀ c ∈ m.clips, 0 ≤ c.clock) : hrsS (setM m k n) = hrsS m := by
  unfold hrsS
  refine List.map_congr_left fun t _ => ?_
  show (loS _ _, hiS _ _) = (loS _ _, hiS _ _)
  unfold loS hiS
  rw [map_sh n hk hc fun es h => hours_sh n hk hc t h]
theorem verdict_map {l : List (List Int)} {g : List Int → List Int} {p p' : List Int → Bool} (h : ∀ es ∈ l, p' (g es) = p es) : verdictS (l.map g) p' = verdictS l p := by
  have h1 : (l.map g).all p' = l.all p := by
    rw [List.all_map]
    refine Bool.eq_iff_iff.2 ?_
    simp only [List.all_eq_true, Function.comp]
    exact ⟨fun k x hx => by rw [← h x hx]; exact k x hx, fun k x hx => by rw [h x hx]; exact k x hx⟩
  have h2 : (l.map g).any p' = l.any p := by
    rw [List.any_map]
    refine Bool.eq_iff_iff.2 ?_
    simp only [List.any_eq_true, Function.comp]
    exact ⟨fun ⟨x, hx, k⟩ => ⟨x, hx, by rw [← h x hx]; exact k⟩, fun ⟨x, hx, k⟩ => ⟨x, hx, by rw [h x hx]; exact k⟩⟩
  unfold verdictS
  rw [h1, h2]
theorem paid_sh {m : HouseM} {k : Nat} (n : Int) (hk : k < m.clocks.length) (hc : ∀ c ∈ m.clips, 0 ≤ c.clock) : paidV (setM m k n) = paidV m := by
  unfold paidV
  rw [truths_sh n hk hc]
  refine verdict_map fun es h => ?_
  have := truth_lenY h
  have hs : staysS (shE k n es) (setM m k n).clips = staysS es m.clips := stays_sh (by omega) _ hc
  unfold paidS paidRow longP
  simp only [hs]
  rfl
theorem left_sh {m : HouseM} {k : Nat} (n : Int) (hk : k < m.clocks.length) (hc : ∀ c ∈ m.clips, 0 ≤ c.clock) (t : Nat) : leftS (setM m k n) t = leftS m t := by
  unfold leftS
  refine congrArg (List.foldl max 0) (map_sh n hk hc fun es h => ?_)
  rw [truths_sh n hk hc, List.countP_map]
  refine congrArg Int.ofNat (List.countP_congr fun x hx => ?_)
  have h1 := truth_lenY h
  have h2 := truth_lenY hx
  simp only [Function.comp, beq_iff_eq]
  rw [shE_at (by omega), shE_at (by omega)]
  omega
theorem look_sh {m : HouseM} {k : Nat} (n : Int) (hk : k < m.clocks.length) (hc : ∀ c ∈ m.clips, 0 ≤ c.clock) : lookV (setM m k n) = lookV m := by
  have h : leavesS (setM m k n) = leavesS m := by
    unfold leavesS
    rw [show (setM m k n).clocks.length = m.clocks.length by simp [setM]]
    exact List.map_congr_left fun t _ => left_sh n hk hc t
  unfold lookV
  rw [h]
theorem min_sh (n : Int) : ∀ (l : List Int) (a : Int), (l.map (· + n)).foldl min (a + n) = l.foldl min a + n
  | [], _ => rfl
  | x :: l, a => by
    rw [List.map_cons, List.foldl_cons, List.foldl_cons, show min (a + n) (x + n) = min a x + n by omega]
    exact min_sh n l _
theorem max_sh (n : Int) : ∀ (l : List Int) (a : Int), (l.map (· + n)).foldl max (a + n) = l.foldl max a + n
  | [], _ => rfl
  | x :: l, a => by
    rw [List.map_cons, List.foldl_cons, List.foldl_cons, show max (a + n) (x + n) = max a x + n by omega]
    exact max_sh n l _
theorem lo_sh {l : List (List Int)} (hne : l ≠ []) {n : Int} {q : List Int → Int} (hq : ∀ x ∈ l, -1000000 ≤ q x ∧ q x ≤ 1000000) (hn : -1000 ≤ n ∧ n ≤ 1000) : (l.map fun x => q x + n).foldl min 9223372036854775807 = loS l q + n := by
  unfold loS
  cases l with
  | nil => exact absurd rfl hne
  | cons x l =>
    have := hq x (by simp)
    rw [List.map_cons, List.map_cons, List.foldl_cons, List.foldl_cons, show min (9223372036854775807 : Int) (q x + n) = q x + n by omega, show min (9223372036854775807 : Int) (q x) = q x by omega, ← min_sh, List.map_map]
    rfl
theorem hi_sh {l : List (List Int)} (hne : l ≠ []) {n : Int} {q : List Int → Int} (hq : ∀ x ∈ l, -1000000 ≤ q x ∧ q x ≤ 1000000) (hn : -1000 ≤ n ∧ n ≤ 1000) : (l.map fun x => q x + n).foldl max (-9223372036854775808) = hiS l q + n := by
  unfold hiS
  cases l with
  | nil => exact absurd rfl hne
  | cons x l =>
    have := hq x (by simp)
    rw [List.map_cons, List.map_cons, List.foldl_cons, List.foldl_cons, show max (-9223372036854775808 : Int) (q x + n) = q x + n by omega, show max (-9223372036854775808 : Int) (q x) = q x by omega, ← max_sh, List.map_map]
    rfl
theorem clock_at_sh {m : HouseM} {k : Nat} {n : Int} (hG : Good m) (hT : hasS m = true) (hk : k < m.clocks.length) (hn : -1000 ≤ n ∧ n ≤ 1000) {t : Nat} (ht : t < m.clocks.length) :
    ∃ r s : Int × Int, ((clocksS m).map encR)[((t : Nat) : Int).toNat]? = some (encR r) ∧ ((clocksS (setM m k n)).map encR)[((t : Nat) : Int).toNat]? = some (encR s) ∧ s.1 = r.1 + (if t = k then n else 0) ∧ (s.2 = r.2 + if t = k then n else 0) ∧ (-1000000 ≤ r.1 ∧ r.1 ≤ 1000000) ∧ (-1000000 ≤ r.2 ∧ r.2 ≤ 1000000) := by
  have hc : ∀ c ∈ m.clips, 0 ≤ c.clock := fun c h => (hG.clip c h).2.1.1
  have hne := ne_of_has hT
  have hb : ∀ x ∈ truthsL m, -1000000 ≤ x.getD t 0 ∧ x.getD t 0 ≤ 1000000 := fun x hx => by
    have h1 := (hG.valid.sound x (truths_mem hx)).2.1
    have h2 := truth_lenY hx
    have h3 : x.getD t 0 ∈ x := by
      rw [List.getD, List.getElem?_eq_getElem (show t < x.length by omega)]
      exact List.getElem_mem _
    have := h1 _ h3
    omega
  have hm : (truthsL (setM m k n)).map (fun es => es.getD t 0) = (truthsL m).map fun es => es.getD t 0 + if t = k then n else 0 :=
    map_sh n hk hc fun es h => shE_at (by have := truth_lenY h; omega) t
  refine ⟨bdS m (fun t es => es.getD t 0) t, bdS (setM m k n) (fun t es => es.getD t 0) t, by simp [clocksS, ht], by simp [clocksS, setM, ht], ?_, ?_, ?_, ?_⟩
  · show ((truthsL (setM m k n)).map fun es => es.getD t 0).foldl min _ = _
    rw [hm]; exact lo_sh hne hb (by split <;> omega)
  · show ((truthsL (setM m k n)).map fun es => es.getD t 0).foldl max _ = _
    rw [hm]; exact hi_sh hne hb (by split <;> omega)
  · obtain ⟨x, hx⟩ := List.exists_mem_of_ne_nil _ hne
    have k1 := ((fminY ((truthsL m).map fun es => es.getD t 0) 9223372036854775807 _).1 (Int.le_refl _)).2 _ (List.mem_map.2 ⟨x, hx, rfl⟩)
    have k2 := (fminY ((truthsL m).map fun es => es.getD t 0) 9223372036854775807 (-1000000)).2 ⟨by decide, fun y hy => by obtain ⟨z, hz, rfl⟩ := List.mem_map.1 hy; exact (hb z hz).1⟩
    exact ⟨k2, Int.le_trans k1 (hb x hx).2⟩
  · obtain ⟨x, hx⟩ := List.exists_mem_of_ne_nil _ hne
    have k1 := ((fmaxY ((truthsL m).map fun es => es.getD t 0) (-9223372036854775808) _).1 (Int.le_refl _)).2 _ (List.mem_map.2 ⟨x, hx, rfl⟩)
    have k2 := (fmaxY ((truthsL m).map fun es => es.getD t 0) (-9223372036854775808) 1000000).2 ⟨by decide, fun y hy => by obtain ⟨z, hz, rfl⟩ := List.mem_map.1 hy; exact (hb z hz).2⟩
    exact ⟨Int.le_trans (hb x hx).1 k1, k2⟩
end Go.Proofs.Ytehobnpoeodhkaa
