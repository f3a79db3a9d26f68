import Derived.Test.YtehobnpoeodhkaaV10
namespace Go.Proofs.Ytehobnpoeodhkaa
open Go Go.Abs Go.Proofs
set_option maxHeartbeats 1600000
attribute [local irreducible] CallJ OpsJ WPJ CallV MonoJ SpecJ

/-- the end of a call that hands over a house with one new list -/
theorem tidy1 {γ α : Type} {e1 : α → List Value} {w1 a1 a2 : Nat} {H H1 : AHeap} {x y u1 u2 v1 : Value} {l1 : List α} {K : Value → AHeap → γ → Prop} {g : γ}
    (h1 : AppB e1 w1 H1 a1 a2 v1 l1) (ha : H.length ≤ a1) (he : Ext H H1) (hx : flat1 x = true) (hy : flat1 y = true) (hu1 : Low H.length u1) (hu2 : Low H.length u2) (f1 : ∀ a, (e1 a).all flat1 = true)
    (hk : K (.agg ⟨[x, y, u1, u2, slV H.length l1]⟩) (H ++ slH e1 w1 l1) g) : Tidy H K (.agg ⟨[x, y, u1, u2, v1]⟩) H1 g := by
  obtain ⟨k1, n1, m1, b1, z1, p1⟩ := h1.parts
  obtain ⟨L, rfl⟩ := he
  refine ⟨k1, H, L, _, slH e1 w1 l1, rfl, rfl, fun _ _ h => .inl h, n1, fun k hk' => by have := b1 k hk'; omega, m1, (slH_flat f1).ok, ?_, hk⟩
  refine .aggs rfl fun j q1 q2 => ?_
  have e1' := p1 H.length [] []
  simp only [List.nil_append, List.append_nil, List.length_nil, Nat.add_zero] at e1'
  match j, q1 with
  | 0, _ => exact .flat hx
  | 1, _ => exact .flat hy
  | 2, _ => exact .low hu1
  | 3, _ => exact .low hu2
  | 4, _ => exact e1'

theorem bits_at (k j : Nat) : (((2 ^ k - 1 : Nat) : Int).fdiv ((2 : Int) ^ j)) % 2 = if j < k then 1 else 0 := by
  have h1 : ((2 : Int) ^ j) = ((2 ^ j : Nat) : Int) := by simp
  rw [h1, Int.fdiv_eq_ediv_of_nonneg _ (Int.natCast_nonneg _)]
  have h2 : (((2 ^ k - 1 : Nat) : Int) / ((2 ^ j : Nat) : Int)) % 2 = (((2 ^ k - 1) / 2 ^ j % 2 : Nat) : Int) := by simp
  rw [h2]
  have h3 := Nat.testBit_two_pow_sub_one k j
  rw [Nat.testBit_eq_decide_div_mod_eq] at h3
  have h4 := Nat.mod_lt ((2 ^ k - 1) / 2 ^ j) (by decide : 2 > 0)
  by_cases h : j < k
  · rw [if_pos h]
    simp only [h, decide_true, decide_eq_true_eq] at h3
    omega
  · rw [if_neg h]
    simp only [h, decide_false, decide_eq_false_iff_not] at h3
    omega
theorem bits_nn (k j : Nat) : 0 ≤ (((2 ^ k - 1 : Nat) : Int).fdiv ((2 : Int) ^ j)) := by
  rw [Int.fdiv_eq_ediv_of_nonneg _ (by exact Int.pow_nonneg (by decide))]
  exact Int.ediv_nonneg (by omega) (by exact Int.pow_nonneg (by decide))

theorem wrap_u64 {n : Int} (h0 : 0 ≤ n) (h1 : n < 18446744073709551616) : IntKind.u64.wrap n = n := by
  simp [IntKind.wrap, IntKind.bits, IntKind.signed]
  omega
section
variable {γ : Type} (E : Env γ) (g : γ) (H : AHeap)
theorem some_spec (m : HouseM) (s1 s2 s3 : Value) (k : Nat) (hk62 : k ≤ 62) (hm : HouseIs H m s1 s2 s3) (hb3 : m.clips.length ≤ 30) : CallJ Try.prog E 73 [hv m s1 s2 s3, .int .i64 ((2 ^ k - 1 : Nat) : Int)] (fun v H' g' => v = hv (upto m k) s1 s2 (slV H.length (m.clips.take k)) ∧ H' = H ++ (slH encC 3 (m.clips.take k)).map frz ∧ g' = g) H g := by
  refine CallJ.freezeN (K := fun v H' g' => v = hv (upto m k) s1 s2 (slV H.length (m.clips.take k)) ∧ H' = H ++ slH encC 3 (m.clips.take k) ∧ g' = g) ?_ (by rintro v H' g' ⟨rfl, rfl, rfl⟩; exact ⟨_, rfl, slH_flat (fun _ => rfl), rfl, rfl, rfl⟩)
  have hok := hm.cells
  have hr3 := hm.clips
  have hl1 := RdS.low hm.clocks
  have hl2 := RdS.low hm.tickets
  refine CallJ.tidy ?_
  unfold hv
  refine CallJ.enter Try.func73 rfl (by simp only [Try.ntmps73, List.length_cons, List.length_nil, Nat.zero_add, Nat.reduceAdd, Nat.reduceSub, List.replicate_succ, List.replicate_zero, List.cons_append, List.nil_append]; rfl) ?_
  repeat' (first
    | refine W1 ?_ | refine Wc ?_ | refine W2c ?_ ?_ | refine Wg ?_ | refine W2 ?_ ?_ | exact Wdead | refine Wlive (fun hb => ?_) | intro _ _ _ _ _ _ _ _ | refine We ?_ | refine Wx ?_ | refine Wt ?_ | refine Wm ?_ | refine W2m ?_ ?_ | refine Wl ?_
    | fail)
  refine WPJ.loopT m.clips.length [9, 10, 11, 12, 13, 14, 15, 16, 17, 18, 19, 20, 21, 22, 23, 24, 25, 26, 27, 28, 29, 30, 31] (fun j (v : Value) => [(6, .int .i64 j)])
    (fun j v H1 g1 => g1 = g ∧ Ext H H1 ∧ H1[H.length]? = some (.row [.int .i64 m.hour, .int .i64 m.grace, s1, s2, s3] 1 true) ∧ (∃ cs, cs.length = 5 ∧ H1[H.length + 1]? = some (.row cs 1 true)) ∧ H1[H.length + 2]? = some (.row [.int .i64 m.hour, .int .i64 m.grace, s1, s2, v] 1 true) ∧ AppG encC 3 H1 (H.length + 3) v (m.clips.take (min j k)) ∧ H.length + 3 ≤ H1.length) 0 (.slice none 0 0) (Nat.zero_le _)
    (by intro p hp; simp at hp; rcases hp with rfl; rfl) ⟨rfl, extA, getA, ⟨_, ?_, getA⟩, getA, by rw [Nat.zero_min, List.take_zero]; exact AppG.nil, by simp⟩ ?_
  · rfl
  rintro j v1 H1 g1 hj ⟨rfl, he, hb0, ⟨cs, hcs, hb1⟩, hb2, hA, hlen⟩ hl0
  simp only [updT, maskT, List.set_cons_zero, List.set_cons_succ]
  rcases Nat.lt_or_ge j m.clips.length with hlt | hge
  · have hel : (m.clips.map encC)[(j : Int).toNat]? = some (encC m.clips[j]) := by simp [hlt]
    have hbit := bits_at k j
    have hnn := bits_nn k j
    have htk := List.take_succ_eq_append_getElem hlt
    have htl : (m.clips.take (min j k)).length ≤ 1000000 := by simp; omega
    have hmin : min (j : Int).toNat IntKind.i64.bits = j := by simp [IntKind.bits]; omega
    have hwr : IntKind.u64.wrap (j : Int) = j := wrap_u64 (by omega) (by omega)
    have hq : ((((2 ^ k - 1 : Nat) : Int)).fdiv (2 ^ min (IntKind.u64.wrap (j : Int)).toNat IntKind.i64.bits)).tmod 2 = if j < k then 1 else 0 := by rw [hwr, hmin, Int.tmod_eq_emod_of_nonneg hnn]; exact hbit
    generalize hc : m.clips[j] = r at *
    repeat' (first
      | refine W1 ?_ | refine Wc ?_ | refine W2c ?_ ?_ | refine Wg ?_ | refine W2 ?_ ?_ | exact Wdead | refine Wlive (fun hb => ?_) | intro _ _ _ _ _ _ _ _ | refine We ?_ | refine Wx ?_ | refine Wt ?_ | refine Wm ?_ | refine W2m ?_ ?_ | refine Wl ?_
      | fail)
    · have hjk : j < k := Classical.byContradiction fun h => by rw [hq, if_neg h] at hb; exact absurd hb (by decide)
      have m1 : min j k = j := by omega
      have m2 : min (j + 1) k = j + 1 := by omega
      rw [m1] at hA htl
      clear hb hq hbit hnn hmin hwr
      refine WPJ.draw 8 mixed (by kernel_rfl) (by kernel_rfl) (by kernel_rfl) (by decide) ?_
      refine MonoJ.normA ?_
      repeat' (first
        | refine W1 ?_ | refine Wc ?_ | refine W2c ?_ ?_ | refine Wg ?_ | refine W2 ?_ ?_ | exact Wdead | refine Wlive (fun hb => ?_) | intro _ _ _ _ _ _ _ _ | refine We ?_ | refine Wx ?_ | refine Wt ?_ | refine Wm ?_ | refine W2m ?_ ?_ | refine Wl ?_
        | fail)
      refine st_appG (a := r) (hA.app _) rfl encC_len rfl rfl getA (by simp) rfl rfl (by simp; omega) htl (by decide) ?_
      intro v2 H2 hA2 hE hK hL
      obtain ⟨i2, k2, rfl⟩ := hA2.slice
      have e0 := hK (H.length) _ (by omega) (get_old hb0)
      have e1 := hK (H.length + 1) _ (by omega) (get_old hb1)
      have e2 := hK (H.length + 2) _ (by omega) (get_old hb2)
      simp only [List.length_append, List.length_cons, List.length_nil] at hL
      refine OpsJ.normA ?_
      repeat' (first
        | refine W1 ?_ | refine Wc ?_ | refine W2c ?_ ?_ | refine Wg ?_ | refine W2 ?_ ?_ | exact Wdead | refine Wlive (fun hb => ?_) | intro _ _ _ _ _ _ _ _ | refine We ?_ | refine Wx ?_ | refine Wt ?_ | refine Wm ?_ | refine W2m ?_ ?_ | refine Wl ?_
        | fail)
      exact ⟨_, hlt, (by repeat' (first | exact Weak.nil | refine Weak.wild ?_ | refine Weak.same ?_ | refine Weak.intEq (by first | omega | (simp; done) | (push_cast; omega)) ?_)), rfl, Ext.set (hE H extA (by omega)) (by omega) _, getA, ⟨cs, hcs, getA⟩, getA, by rw [m2, htk]; refine hA2.set ?_; omega, by rw [List.length_set]; omega⟩
    · have hjk : ¬ j < k := fun h => by rw [hq, if_pos h] at hb; exact hb rfl
      have m1 : min (j + 1) k = min j k := by omega
      exact ⟨v1, hlt, (by repeat' (first | exact Weak.nil | refine Weak.wild ?_ | refine Weak.same ?_ | refine Weak.intEq (by first | omega | (simp; done) | (push_cast; omega)) ?_)), rfl, he, hb0, ⟨cs, hcs, hb1⟩, hb2, by rw [m1]; exact hA, hlen⟩
  · have hcv := hA.cell
    have hok3 : [Value.int .i64 m.hour, Value.int .i64 m.grace, s1, s2, v1].all cellOk = true := by simp at hok ⊢; exact ⟨hok.1, hok.2.1, hok.2.2.1, hok.2.2.2.1, hcv⟩
    obtain rfl : j = m.clips.length := by omega
    have hmk : m.clips.take (min m.clips.length k) = m.clips.take k := by rw [← List.take_take]; exact List.take_of_length_le (by simp; omega)
    rw [hmk] at hA
    repeat' (first
      | refine W1 ?_ | refine Wc ?_ | refine W2c ?_ ?_ | refine Wg ?_ | refine W2 ?_ ?_ | exact Wdead | refine Wlive (fun hb => ?_) | intro _ _ _ _ _ _ _ _ | refine We ?_ | refine Wx ?_ | refine Wt ?_ | refine Wm ?_ | refine W2m ?_ ?_ | refine Wl ?_
      | fail)
    exact tidy1 (hA.set (by omega)).bnd (by omega) extA rfl rfl hl1 hl2 (fun _ => rfl) ⟨rfl, rfl, rfl⟩
theorem some_w (m : HouseM) (s1 s2 s3 : Value) (k : Nat) (hk62 : k ≤ 62) (hm : HouseIs H m s1 s2 s3) (hb3 : m.clips.length ≤ 30) : CallJ Try.prog E 73 [hv m s1 s2 s3, .int .i64 ((2 ^ k - 1 : Nat) : Int)] (fun v H' g' => (∃ t1 t2 t3, v = hv (upto m k) t1 t2 t3 ∧ HouseIs H' (upto m k) t1 t2 t3 ∧ Ext H H') ∧ g' = g) H g :=
  (some_spec E g H m s1 s2 s3 k hk62 hm hb3).mono (by
    rintro v H' g' ⟨rfl, rfl, rfl⟩
    have he : Ext H (H ++ (slH encC 3 (m.clips.take k)).map frz) := ⟨_, rfl⟩
    have g3 : m.clips.take k ≠ [] → (H ++ (slH encC 3 (m.clips.take k)).map frz)[H.length]? = some (.row ((m.clips.take k).map encC).flatten 3 false) := fun h => by
      rw [slH_frz h]; exact List.getElem?_concat_length
    have hok := hm.ok
    refine ⟨⟨s1, s2, _, rfl, ⟨hm.clocks.ext he, hm.tickets.ext he, rd_at' encC_len g3, ?_, hm.n1, hm.n2, by have := hm.n3; simp [upto]; omega, hm.p1.ext he, hm.p2.ext he, plain_at' (fun _ => rfl) g3⟩, he⟩, rfl⟩
    simp [slV_cell] at hok ⊢
    exact ⟨hok.1, hok.2.1⟩)
end
theorem check_of_good {m : HouseM} (h : Good m) : checkS m = 0 := by
  have h1 : isLongS m = false := by
    have := h.n1; have := h.n2; have := h.n3
    simp [isLongS]; omega
  have h2 : isValidS m = true := by
    simp only [isValidS, Bool.and_eq_true, decide_eq_true_eq, List.all_eq_true, isClockS, isTicketS, isClipS]
    refine ⟨⟨h.hour, h.grace⟩, ⟨fun r hr => by have := h.clock r hr; omega, fun r hr => h.ticket r hr⟩, fun c hc => ?_⟩
    have h3 := h.clip c hc
    exact ⟨⟨⟨h3.1, h3.2.1⟩, h3.2.2.1⟩, h3.2.2.2⟩
  have h4 := h.few
  unfold checkS
  rw [h1, h2, if_neg (by decide), if_pos rfl, if_neg (by omega)]
theorem gen_ne : ∀ (l : List (Int × Int)), (∀ r ∈ l, r.1 ≤ r.2) → gen l ≠ []
  | [], _ => by simp [gen]
  | r :: l, h => by
    have ih := gen_ne l (fun x hx => h x (by simp [hx]))
    have hr := h r (by simp)
    obtain ⟨s, hs⟩ := List.exists_mem_of_ne_nil _ ih
    have h1 : r.1 ∈ rng r := by
      unfold rng
      exact List.mem_map.2 ⟨0, List.mem_range.2 (by omega), by simp⟩
    intro e
    have : (r.1 :: s) ∈ gen (r :: l) := List.mem_flatMap.2 ⟨r.1, h1, List.mem_map.2 ⟨s, hs, rfl⟩⟩
    rw [e] at this
    cases this
theorem hasS_nil {m : HouseM} (hG : Good m) (hc : m.clips = []) : hasS m = true := by
  have h1 : errs m ≠ [] := by
    unfold errs
    intro e
    exact gen_ne m.clocks (fun r hr => (hG.clock r hr).2.1) (by simpa using e)
  obtain ⟨es, hes⟩ := List.exists_mem_of_ne_nil _ h1
  have h2 : es ∈ truthsL m := by
    unfold truthsL
    exact List.mem_filter.2 ⟨hes, by unfold isT; rw [hc]; rfl⟩
  unfold hasS
  cases h : truthsL m with
  | nil => rw [h] at h2; cases h2
  | cons a l => rfl
theorem upto_all (m : HouseM) : upto m m.clips.length = m := by unfold upto; rw [List.take_length]
theorem first_none {m : HouseM} (hG : Good m) (h : firstA m = none) : hasS m = true := by
  unfold firstA firstS at h
  rw [List.find?_eq_none] at h
  cases hn : m.clips.length with
  | zero => exact hasS_nil hG (List.length_eq_zero_iff.1 hn)
  | succ n =>
    have := h n (List.mem_range.2 (by omega))
    rw [← hn, upto_all] at this
    simpa using this
theorem first_some {m : HouseM} {j : Nat} (hG : Good m) (h : firstA m = some j) : j < m.clips.length ∧ hasS (upto m (j + 1)) = false ∧ hasS (upto m j) = true := by
  unfold firstA firstS at h
  rw [List.find?_eq_some_iff_getElem] at h
  obtain ⟨h1, i, hi, h2, h3⟩ := h
  simp at hi h2
  subst h2
  refine ⟨hi, by simpa using h1, ?_⟩
  cases i with
  | zero => exact hasS_nil (upto_good hG 0) (by simp [upto])
  | succ i =>
    have := h3 i (by omega)
    simpa using this
theorem checkT_upto {m : HouseM} (hG : Good m) (k : Nat) : checkT (upto m k) = if hasS (upto m k) then 0 else 11 := by
  unfold checkT
  rw [if_pos (check_of_good (upto_good hG k))]
section
variable {γ : Type} (E : Env γ) (g : γ) (H : AHeap)
theorem FirstN_spec (m : HouseM) (s1 s2 s3 : Value) (hS : checkS m = 0) (h : firstA m = none) (hm : HouseIs H m s1 s2 s3) : CallJ Try.prog E 52 [hv m s1 s2 s3] (fun v H' g' => v = .tuple #[.int .i64 0, .int .i64 7] ∧ H' = H ∧ g' = g) H g :=
  (First_spec E g H m s1 s2 s3 hm).mono (by rintro v H' g' ⟨rfl, rfl, rfl⟩; unfold firstV firstE; rw [if_pos hS, if_pos hS, h]; exact ⟨rfl, rfl, rfl⟩)
theorem FirstS_spec (m : HouseM) (s1 s2 s3 : Value) (j : Nat) (hS : checkS m = 0) (h : firstA m = some j) (hm : HouseIs H m s1 s2 s3) : CallJ Try.prog E 52 [hv m s1 s2 s3] (fun v H' g' => v = .tuple #[.int .i64 (j : Nat), .int .i64 0] ∧ H' = H ∧ g' = g) H g :=
  (First_spec E g H m s1 s2 s3 hm).mono (by rintro v H' g' ⟨rfl, rfl, rfl⟩; unfold firstV firstE; rw [if_pos hS, if_pos hS, h]; exact ⟨rfl, rfl, rfl⟩)
theorem ClocksT_spec (m : HouseM) (s1 s2 s3 : Value) (hT : checkT m = 0) (hm : HouseIs H m s1 s2 s3) : CallJ Try.prog E 34 [hv m s1 s2 s3] (fun v H' g' => (∃ sv, v = .tuple #[sv, .int .i64 0] ∧ Ext H H') ∧ g' = g) H g :=
  (ClocksW_spec E g H m s1 s2 s3 hm).mono (by
    rintro v H' g' ⟨⟨he, ⟨_, i, c, own, rfl, hi⟩ | ⟨h, _⟩⟩, rfl⟩
    · exact ⟨⟨_, rfl, he⟩, rfl⟩
    · exact absurd hT h)
theorem ClocksN_spec (m : HouseM) (s1 s2 s3 : Value) (hT : checkT m = 11) (hm : HouseIs H m s1 s2 s3) : CallJ Try.prog E 34 [hv m s1 s2 s3] (fun v H' g' => (∃ sv, v = .tuple #[sv, .int .i64 11] ∧ Ext H H') ∧ g' = g) H g :=
  (ClocksW_spec E g H m s1 s2 s3 hm).mono (by
    rintro v H' g' ⟨⟨he, ⟨h, _⟩ | ⟨_, rfl⟩⟩, rfl⟩
    · omega
    · rw [hT]; exact ⟨⟨_, rfl, he⟩, rfl⟩)
theorem some_p (m : HouseM) (s1 s2 s3 : Value) (k p : Nat) (hp : p = 2 ^ k) (hk62 : k ≤ 62) (hm : HouseIs H m s1 s2 s3) (hb3 : m.clips.length ≤ 30) : CallJ Try.prog E 73 [hv m s1 s2 s3, .int .i64 ((p : Int) - 1)] (fun v H' g' => (∃ t1 t2 t3, v = hv (upto m k) t1 t2 t3 ∧ HouseIs H' (upto m k) t1 t2 t3 ∧ Ext H H') ∧ g' = g) H g := by
  have h1 : 0 < p := by rw [hp]; exact Nat.two_pow_pos k
  have e : (p : Int) - 1 = ((2 ^ k - 1 : Nat) : Int) := by rw [← hp]; omega
  rw [e]
  exact some_w E g H m s1 s2 s3 k hk62 hm hb3
end
theorem thin_upto {m : HouseM} (h : thinS m = true) (k : Nat) : thinS (upto m k) = true := by
  unfold thinS at h
  simp only [Bool.and_eq_true, decide_eq_true_eq] at h
  have h3 : (m.clips.take k).length ≤ 30 := by rw [List.length_take]; omega
  show (decide (m.clocks.length ≤ 30) && decide (m.tickets.length ≤ 30) && decide ((m.clips.take k).length ≤ 30)) = true
  rw [decide_eq_true h.1.1, decide_eq_true h.1.2, decide_eq_true h3]; rfl
theorem shl_eq {a j k p : Nat} (hp : p = 2 ^ k) (hk : a * 2 ^ j = 2 ^ k) (hj : j ≤ 30) (hk30 : k ≤ 31) : IntKind.i64.wrap ((a : Int) * 2 ^ (min ((j : Int)).toNat IntKind.i64.bits)) = (p : Int) := by
  have h1 : min ((j : Int)).toNat IntKind.i64.bits = j := by simp [IntKind.bits]; omega
  have h2 : 2 ^ k ≤ 2 ^ 31 := Nat.pow_le_pow_right (by decide) hk30
  have h3 : ((a : Int) * 2 ^ j) = ((a * 2 ^ j : Nat) : Int) := by simp
  rw [h1, h3, hk, ← hp]
  simp [IntKind.wrap, IntKind.bits, IntKind.signed]
  omega
end Go.Proofs.Ytehobnpoeodhkaa
