import Derived.Test.YtehobnpoeodhkaaTx
namespace Go.Proofs.Ytehobnpoeodhkaa
open Go Go.Abs Go.Proofs
set_option maxHeartbeats 800000

theorem hoursS_le {h h' d d' : Int} {s : StayM} (h1 : 0 < h) (hh : h ≤ h') (hd : d ≤ d') : hoursS h' d' s ≤ hoursS h d s := by
  unfold hoursS
  split
  · omega
  · have hy : max (s.went - s.came - d') 0 ≤ max (s.went - s.came - d) 0 := by omega
    generalize max (s.went - s.came - d') 0 = y' at hy ⊢
    have hy0 : 0 ≤ max (s.went - s.came - d) 0 := by omega
    generalize max (s.went - s.came - d) 0 = y at hy hy0 ⊢
    have k1 := Int.lt_ediv_add_one_mul_self (y + h - 1) h1
    generalize hq : (y + h - 1) / h = q at k1 ⊢
    have hq0 : 0 ≤ q := by rw [← hq]; exact Int.ediv_nonneg (by omega) (by omega)
    have k2 : q * h ≤ q * h' := Int.mul_le_mul_of_nonneg_left hh hq0
    have k3 : (q + 1) * h = q * h + h := by rw [Int.add_mul, Int.one_mul]
    have k4 : (q + 1) * h' = q * h' + h' := by rw [Int.add_mul, Int.one_mul]
    have : (y' + h' - 1) / h' < q + 1 := Int.ediv_lt_of_lt_mul (by omega) (by omega)
    omega
/-- a house in which more hours are paid, or with a greater Grace or Hour -/
structure Longer (m x : HouseM) : Prop where
  clocks : x.clocks = m.clocks
  clips : x.clips = m.clips
  hour : m.hour ≤ x.hour
  grace : m.grace ≤ x.grace
  len : x.tickets.length = m.tickets.length
  paid : ∀ t : Nat, (m.tickets[t]?.getD (0, 0)).2 ≤ (x.tickets[t]?.getD (0, 0)).2
theorem Longer.truths {m x : HouseM} (h : Longer m x) : truthsL x = truthsL m := by
  unfold truthsL errs
  rw [h.clocks]
  have : isT x = isT m := by funext es; unfold isT; rw [h.clips]
  rw [this]
theorem Longer.has {m x : HouseM} (h : Longer m x) : hasS x = hasS m := by unfold hasS; rw [h.truths]
theorem Longer.hours {m x : HouseM} (h : Longer m x) (h1 : 0 < m.hour) (t : Nat) (es : List Int) : hoursQ x t es ≤ hoursQ m t es := by
  unfold hoursQ
  rw [h.clips]
  exact hoursS_le h1 h.hour h.grace
theorem Longer.long {m x : HouseM} (h : Longer m x) (h1 : 0 < m.hour) (t : Nat) (es : List Int) (hl : longQ x t es = true) : longQ m t es = true := by
  unfold longQ at hl ⊢
  have a := h.hours h1 t es
  have b := h.paid t
  simp only [decide_eq_true_eq] at hl ⊢
  omega
theorem Longer.at_ {m x : HouseM} (h : Longer m x) (h1 : 0 < m.hour) (hT : hasS m = true) {t : Nat} (ht : t < m.tickets.length) :
    ∃ r s : Int × Int, ∃ u v : Int, ((hrsS m).map encR)[((t : Nat) : Int).toNat]? = some (encR r) ∧ ((hrsS x).map encR)[((t : Nat) : Int).toNat]? = some (encR s) ∧ (encI (longS m))[((t : Nat) : Int).toNat]? = some [.int .i64 u] ∧ (encI (longS x))[((t : Nat) : Int).toNat]? = some [.int .i64 v] ∧
      s.1 ≤ r.1 ∧ s.2 ≤ r.2 ∧ (u = 2 → v = 2) ∧ (v = 1 → u = 1) := by
  have hne : truthsL m ≠ [] := by unfold hasS at hT; cases hl : truthsL m <;> simp_all
  refine ⟨bdS m (hoursQ m) t, bdS x (hoursQ x) t, verdictS (truthsL m) (longQ m t), verdictS (truthsL x) (longQ x t), by simp [hrsS, ht], by simp [hrsS, h.len, ht], by simp [encI, longS, ht], by simp [encI, longS, h.len, ht], ?_, ?_, ?_, ?_⟩
  · show loS (truthsL x) _ ≤ loS (truthsL m) _
    rw [h.truths]; exact lo_le fun es _ => h.hours h1 t es
  · show hiS (truthsL x) _ ≤ hiS (truthsL m) _
    rw [h.truths]; exact hi_le fun es _ => h.hours h1 t es
  · rw [h.truths, verdict_two hne, verdict_two hne]
    intro k es hes
    cases hx : longQ x t es with
    | false => rfl
    | true => have := h.long h1 t es hx; rw [k es hes] at this; cases this
  · rw [h.truths, verdict_one, verdict_one]
    exact fun k es hes => h.long h1 t es (k es hes)
theorem Longer.good {m x : HouseM} (h : Longer m x) (hG : Good m) (h1 : x.hour ≤ 120) (h2 : x.grace ≤ 60) (h3 : ∀ r ∈ x.tickets, (0 ≤ r.1 ∧ r.1 ≤ 8) ∧ (0 ≤ r.2 ∧ r.2 ≤ 9)) : Good x := by
  have a1 := hG.hour; have a2 := hG.grace; have a3 := h.hour; have a4 := h.grace
  refine ⟨⟨by omega, h1⟩, ⟨by omega, h2⟩, by rw [h.clocks]; exact hG.n1, by rw [h.len]; exact hG.n2, by rw [h.clips]; exact hG.n3, by rw [h.clocks]; exact hG.clock, h3, fun c hc => ?_, by rw [h.clocks]; exact hG.few⟩
  rw [h.clips] at hc
  have := hG.clip c hc
  unfold clipsOfS at this ⊢
  rw [h.clips, h.len, h.clocks]
  exact this
def paidF (d : Int) (r : Int × Int) : Int × Int := (r.1, min 9 (r.2 + d))
theorem paid_store {l : List (Int × Int)} {d : Int} {k : Nat} (h : k < l.length) : ((setF (paidF d) l k).map encR).flatten.set (k * 2 + 1) (.int .i64 (min 9 (l[k].2 + d))) = ((setF (paidF d) l (k + 1)).map encR).flatten := by
  rw [setF_step _ _ h]
  exact flat_set2 _ (setF_at _ _ h)
theorem longer_paid {m : HouseM} (hG : Good m) {d : Int} (hd : 0 ≤ d) : Longer m { m with tickets := m.tickets.map (paidF d) } := by
  refine ⟨rfl, rfl, Int.le_refl _, Int.le_refl _, by simp, fun t => ?_⟩
  show _ ≤ ((m.tickets.map (paidF d))[t]?.getD (0, 0)).2
  rw [List.getElem?_map]
  cases ht : m.tickets[t]? with
  | none => simp
  | some r =>
    have := hG.ticket r (List.mem_of_getElem? ht)
    simp only [Option.map_some, Option.getD_some, paidF]
    omega
theorem good_paid {m : HouseM} (hG : Good m) {d : Int} (hd : 0 ≤ d) : Good { m with tickets := m.tickets.map (paidF d) } := by
  refine (longer_paid hG hd).good hG hG.hour.2 hG.grace.2 fun r hr => ?_
  obtain ⟨r0, h0, rfl⟩ := List.mem_map.1 hr
  have := hG.ticket r0 h0
  simp only [paidF]
  omega
theorem longer_grace {m : HouseM} (hG : Good m) {d : Int} (hd : 0 ≤ d) : Longer m { m with grace := min 60 (m.grace + d) } :=
  ⟨rfl, rfl, Int.le_refl _, by have := hG.grace; show m.grace ≤ min 60 (m.grace + d); omega, rfl, fun _ => Int.le_refl _⟩
theorem longer_hour {m : HouseM} (hG : Good m) {d : Int} (hd : 0 ≤ d) : Longer m { m with hour := min 120 (m.hour + d) } :=
  ⟨rfl, rfl, by have := hG.hour; show m.hour ≤ min 120 (m.hour + d); omega, Int.le_refl _, rfl, fun _ => Int.le_refl _⟩
theorem good_grace {m : HouseM} (hG : Good m) {d : Int} (hd : 0 ≤ d) : Good { m with grace := min 60 (m.grace + d) } :=
  (longer_grace hG hd).good hG hG.hour.2 (by show min 60 (m.grace + d) ≤ 60; omega) hG.ticket
theorem good_hour {m : HouseM} (hG : Good m) {d : Int} (hd : 0 ≤ d) : Good { m with hour := min 120 (m.hour + d) } :=
  (longer_hour hG hd).good hG (by show min 120 (m.hour + d) ≤ 120; omega) hG.grace.2 hG.ticket
end Go.Proofs.Ytehobnpoeodhkaa
