import Derived.Test.YtjbiidlmpaibkaaIjw
namespace Go.Proofs.Ytjbiidlmpaibkaa
open Go Go.Abs Go.Proofs
set_option maxHeartbeats 1600000
attribute [local irreducible] CallJ OpsJ WPJ CallV MonoJ SpecJ

/-! ### All truths, whatever the readings are -/
theorem pad5_drop : ∀ (l : List Int), l.length ≤ 5 → l ++ List.drop l.length [0, 0, 0, 0, 0] = pad5 l
  | [], _ => rfl
  | [a], _ => rfl
  | [a, b], _ => rfl
  | [a, b, c], _ => rfl
  | [a, b, c, d], _ => rfl
  | [a, b, c, d, e], _ => rfl
  | a :: b :: c :: d :: e :: f :: l, h => by simp at h
def prodN : List (Int × Int) → Nat
  | [] => 1
  | r :: l => szN r * prodN l
theorem prodN_eq : ∀ (l : List (Int × Int)), (∀ r ∈ l, upTo r 99 = true) → ((prodN l : Nat) : Int) = prodS l
  | [], _ => rfl
  | r :: l, h => by
    have h1 := prodN_eq l fun x hx => h x (by simp [hx])
    obtain ⟨_, _, h2⟩ := szN_pos (h r (by simp))
    show ((szN r * prodN l : Nat) : Int) = (r.2 - r.1 + 1) * prodS l
    rw [Int.natCast_mul, h1, h2]
theorem digits_mem : ∀ (rs : List (Int × Int)) (n : Nat), (∀ r ∈ rs, upTo r 99 = true) → digits rs n ∈ gen rs
  | [], n, _ => by simp [digits, gen]
  | r :: rs, n, h => by
    have ih := digits_mem rs (n / szN r) fun x hx => h x (by simp [hx])
    obtain ⟨h1, _, h2⟩ := szN_pos (h r (by simp))
    have h3 : n % szN r < szN r := Nat.mod_lt _ (by omega)
    refine List.mem_flatMap.2 ⟨r.1 + (n % szN r : Nat), ?_, List.mem_map.2 ⟨_, ih, rfl⟩⟩
    unfold rng
    exact List.mem_map.2 ⟨n % szN r, List.mem_range.2 h3, by omega⟩
theorem digits_sur : ∀ (rs : List (Int × Int)) (s : List Int), (∀ r ∈ rs, upTo r 99 = true) → s ∈ gen rs → ∃ n, n < prodN rs ∧ digits rs n = s
  | [], s, _, hs => by
    simp [gen] at hs; subst hs
    exact ⟨0, by simp [prodN], rfl⟩
  | r :: rs, s, h, hs => by
    obtain ⟨x, hx, hs⟩ := List.mem_flatMap.1 hs
    obtain ⟨s', hs', rfl⟩ := List.mem_map.1 hs
    obtain ⟨n, hn, rfl⟩ := digits_sur rs s' (fun x hx => h x (by simp [hx])) hs'
    unfold rng at hx
    obtain ⟨k, hk, rfl⟩ := List.mem_map.1 hx
    replace hk : k < szN r := List.mem_range.1 hk
    refine ⟨k + szN r * n, ?_, ?_⟩
    · show _ < szN r * prodN rs
      have : szN r * (n + 1) ≤ szN r * prodN rs := Nat.mul_le_mul_left _ hn
      rw [Nat.mul_add, Nat.mul_one] at this
      omega
    · show (r.1 + ((k + szN r * n) % szN r : Nat)) :: digits rs ((k + szN r * n) / szN r) = _
      rw [Nat.add_mul_mod_self_left, Nat.mod_eq_of_lt hk, Nat.add_mul_div_left _ _ (by omega), Nat.div_eq_of_lt hk, Nat.zero_add]
      try simp
      try omega
abbrev nthT (m : CopM) (n : Nat) : Int × List Int := (nthH m n, pad5 (nthL m n))
theorem many_nat {m : CopM} (hG : Good m) : (manyS m).toNat = szN (m.hlo, m.hhi) * prodN m.loss := by
  obtain ⟨_, _, h2⟩ := szN_pos hG.hh
  have h3 := prodN_eq m.loss hG.lb
  have h4 := hG.sz
  have h5 : sizesS m = ((szN (m.hlo, m.hhi) * prodN m.loss : Nat) : Int) := by
    unfold sizesS; rw [Int.natCast_mul, h3, h2]
  rw [h5] at h4
  rw [manyS_eq, h5]
  generalize szN (m.hlo, m.hhi) * prodN m.loss = K at *
  omega
theorem nth_mem {m : CopM} (hG : Good m) (n : Nat) : nthT m n ∈ allT m := by
  obtain ⟨hn5, hnl⟩ := hrs_le hG.w
  have hll := hG.ll
  obtain ⟨h1, _, h2⟩ := szN_pos hG.hh
  have h3 : n % szN (m.hlo, m.hhi) < szN (m.hlo, m.hhi) := Nat.mod_lt _ (by omega)
  have h4 : (nthL m n).length = m.loss.length := digits_len _ _
  refine List.mem_flatMap.2 ⟨nthH m n, ?_, List.mem_map.2 ⟨pad5 (nthL m n), ?_, rfl⟩⟩
  · unfold rng
    exact List.mem_map.2 ⟨n % szN (m.hlo, m.hhi), List.mem_range.2 h3, rfl⟩
  · unfold genA
    exact List.mem_map.2 ⟨nthL m n, digits_mem _ _ hG.lb, by rw [← h4]; exact pad5_drop _ (by omega)⟩
theorem nth_sur {m : CopM} (hG : Good m) {t : Int × List Int} (ht : t ∈ allT m) : ∃ n, n < (manyS m).toNat ∧ nthT m n = t := by
  obtain ⟨hn5, hnl⟩ := hrs_le hG.w
  have hll := hG.ll
  obtain ⟨h, es⟩ := t
  obtain ⟨h1, h2⟩ := allT_mem ht
  unfold genA at h2
  obtain ⟨s, hs, rfl⟩ := List.mem_map.1 h2
  have hsl := gen_elem_len _ _ hs
  obtain ⟨n, hn, he⟩ := digits_sur ((m.hlo, m.hhi) :: m.loss) (h :: s) (fun r hr => by
    rcases List.mem_cons.1 hr with rfl | hr
    · exact hG.hh
    · exact hG.lb r hr) (List.mem_flatMap.2 ⟨h, h1, List.mem_map.2 ⟨s, hs, rfl⟩⟩)
  rw [many_nat hG]
  refine ⟨n, hn, ?_⟩
  have e1 : nthH m n = h := (List.cons.inj he).1
  have e2 : nthL m n = s := (List.cons.inj he).2
  show (nthH m n, pad5 (nthL m n)) = _
  rw [e1, e2, ← hsl, pad5_drop _ (by omega)]
def allN (m : CopM) (k : Nat) : List Nat := (List.range k).map fun n => rightB m (nthT m n) m.reads.length
def natI (l : List Nat) : List Int := l.map fun (n : Nat) => (n : Int)
theorem allN_succ (m : CopM) (k : Nat) : natI (allN m (k + 1)) = natI (allN m k) ++ [((rightB m (nthT m k) m.reads.length : Nat) : Int)] := by
  unfold natI allN; rw [List.range_succ, List.map_append, List.map_append]; rfl
theorem allN_len (m : CopM) (k : Nat) : (natI (allN m k)).length = k := by simp [natI, allN]
def cansB (l : List Nat) (b : Nat) : Bool := l.any fun a => decide (a &&& b = b)
theorem and_sub {a b : Nat} : a &&& b = b ↔ ∀ i, b.testBit i = true → a.testBit i = true := by
  constructor
  · intro h i hi
    rw [← h, Nat.testBit_and] at hi
    exact (Bool.and_eq_true_iff.1 hi).1
  · intro h
    refine Nat.eq_of_testBit_eq fun i => ?_
    rw [Nat.testBit_and]
    cases hb : b.testBit i with
    | false => simp
    | true => rw [h i hb]; rfl
theorem isT_sub (m : CopM) (b : Nat) (t : Int × List Int) (hb : b < 2 ^ m.reads.length) : isT (subM m b) t = decide (rightB m t m.reads.length &&& b = b) := by
  rw [Bool.eq_iff_iff, decide_eq_true_eq, and_sub]
  show ((readsB m b).all (rightR (arr5 (hrs m) (hotS m t.1 t.2)))) = true ↔ _
  rw [List.all_eq_true]
  constructor
  · intro h i hi
    have hil : i < m.reads.length := by
      refine Nat.lt_of_not_le fun hge => ?_
      rw [Nat.testBit_lt_two_pow (Nat.lt_of_lt_of_le hb (Nat.pow_le_pow_right (by decide) hge))] at hi
      cases hi
    rw [rightB_bit, decide_eq_true hil, Bool.true_and]
    exact h _ (List.mem_map.2 ⟨i, List.mem_filter.2 ⟨List.mem_range.2 hil, hi⟩, rfl⟩)
  · intro h r hr
    unfold readsB readsK at hr
    obtain ⟨p, hp, rfl⟩ := List.mem_map.1 hr
    obtain ⟨hp1, hp2⟩ := List.mem_filter.1 hp
    have := h p hp2
    rw [rightB_bit, Bool.and_eq_true] at this
    exact this.2
theorem cans_has {m : CopM} (hG : Good m) {b : Nat} (hb : b < 2 ^ m.reads.length) : cansB (allN m (manyS m).toNat) b = hasS (subM m b) := by
  have hl : truthsL (subM m b) = (allT m).filter (isT (subM m b)) := rfl
  rw [Bool.eq_iff_iff]
  unfold cansB hasS
  rw [List.any_eq_true]
  constructor
  · rintro ⟨a, ha, hab⟩
    obtain ⟨n, hn, rfl⟩ := List.mem_map.1 ha
    have : nthT m n ∈ truthsL (subM m b) := by
      rw [hl]
      exact List.mem_filter.2 ⟨nth_mem hG n, by rw [isT_sub m b _ hb]; exact hab⟩
    cases h : truthsL (subM m b) with
    | nil => rw [h] at this; cases this
    | cons x l => rfl
  · intro h
    obtain ⟨t, ht⟩ : ∃ t, t ∈ truthsL (subM m b) := by
      cases h' : truthsL (subM m b) with
      | nil => rw [h'] at h; cases h
      | cons x l => exact ⟨x, by simp⟩
    rw [hl] at ht
    obtain ⟨h1, h2⟩ := List.mem_filter.1 ht
    obtain ⟨n, hn, rfl⟩ := nth_sur hG h1
    rw [isT_sub m b _ hb] at h2
    exact ⟨_, List.mem_map.2 ⟨n, List.mem_range.2 hn, rfl⟩, h2⟩
section
variable {γ : Type} (E : Env γ) (g : γ) (H : AHeap)
theorem All_spec (m : CopM) (s1 s2 s3 s4 : Value) (hm : CopY H m s1 s2 s3 s4) (hG : Good m) :
    CallJ Try.prog E 49 [cv m s1 s2 s3 s4] (fun v H' g' => v = slV H.length (natI (allN m (manyS m).toNat)) ∧ H' = H ++ slH enc1 1 (natI (allN m (manyS m).toNat)) ∧ g' = g) H g := by
  have hok := hm.cells
  refine CallJ.tidy ?_
  unfold cv
  refine CallJ.enter Try.func49 rfl (by simp only [Try.ntmps49, List.length_cons, List.length_nil, Nat.zero_add, Nat.reduceSub, List.replicate_succ, List.replicate_zero, List.cons_append, List.nil_append]; rfl) ?_
  repeat' (first
    | ((fail_if_success (first | refine is_ucall ?_ | refine is_umcall ?_)); first | refine W1 ?_ | refine Wc ?_ | refine W2c ?_ ?_ | refine Wg ?_ | refine W2 ?_ ?_ | exact Wdead | refine Wlive (fun hb => ?_) | intro _ _ _ _ _ _ _ _ | refine We ?_ | refine Wx ?_ | refine Wt ?_ | refine Wm ?_ | refine W2m ?_ ?_ | refine Wl ?_)
    | fail)
  have hMk := many_nat hG
  have hM0 : (((manyS m).toNat : Nat) : Int) = manyS m := by
    have := prodS_pos m.loss hG.lb
    have hh := hG.hh
    simp only [upTo, Bool.and_eq_true, decide_eq_true_eq] at hh
    have : 0 ≤ sizesS m := Int.mul_nonneg (by omega) (by omega)
    rw [manyS_eq]; omega
  have hM : (manyS m).toNat ≤ 3000 := by
    have := manyS_eq m
    omega
  clear hMk
  obtain ⟨K, hK⟩ : ∃ K, K = (manyS m).toNat := ⟨_, rfl⟩
  rw [← hK] at hM0 hM ⊢
  clear hK
  refine WPJ.loopT K [5, 6, 7, 8, 11, 12, 13, 14, 15, 16, 17, 18, 9, 10] (fun j (v : Value) => [(4, .int .i64 j), (3, v)])
    (fun j v H1 g1 => g1 = g ∧ Ext H H1 ∧ H1[H.length]? = some (.row (ccells m s1 s2 s3 s4) 1 true) ∧ AppG enc1 1 H1 (H.length + 1) v (natI (allN m j)) ∧ H.length + 1 ≤ H1.length) 0 (.slice none 0 0) (Nat.zero_le _)
    (by intro p hp; simp at hp; rcases hp with rfl | rfl <;> rfl) ⟨rfl, extA, getA, AppG.nil, by simp⟩ ?_
  rintro j v1 H1 g1 hj ⟨rfl, he, hb0, hA, hlen⟩ hl0
  simp only [updT, maskT, List.set_cons_zero, List.set_cons_succ]
  obtain ⟨hn5, hnl⟩ := hrs_le hG.w
  have hll := hG.ll
  have hmx := hm.ext he
  have hnl5 : (nthL m j).length = hrs m := by have : (nthL m j).length = m.loss.length := digits_len _ _; omega
  have htok := hG.valid.tok _ (nth_mem hG j)
  repeat' (first
    | ((fail_if_success (first | refine is_ucall ?_ | refine is_umcall ?_)); first | refine W1 ?_ | refine Wc ?_ | refine W2c ?_ ?_ | refine Wg ?_ | refine W2 ?_ ?_ | exact Wdead | refine Wlive (fun hb => ?_) | intro _ _ _ _ _ _ _ _ | refine We ?_ | refine Wx ?_ | refine Wt ?_ | refine Wm ?_ | refine W2m ?_ ?_ | refine Wl ?_)
    | fail)
  refine st_callP (h := Many_spec _ _ _ m s1 s2 s3 s4 hmx hG.hh hG.lb) (k := ?_)
  refine OpsJ.normA ?_
  rw [← hM0]
  repeat' (first
    | ((fail_if_success (first | refine is_ucall ?_ | refine is_umcall ?_)); first | refine W1 ?_ | refine Wc ?_ | refine W2c ?_ ?_ | refine Wg ?_ | refine W2 ?_ ?_ | exact Wdead | refine Wlive (fun hb => ?_) | intro _ _ _ _ _ _ _ _ | refine We ?_ | refine Wx ?_ | refine Wt ?_ | refine Wm ?_ | refine W2m ?_ ?_ | refine Wl ?_)
    | fail)
  · skip
    refine WPJ.draw 7 mixed (by kernel_rfl) (by kernel_rfl) (by kernel_rfl) (by decide) ?_
    refine MonoJ.normA ?_
    repeat' (first
      | ((fail_if_success (first | refine is_ucall ?_ | refine is_umcall ?_)); first | refine W1 ?_ | refine Wc ?_ | refine W2c ?_ ?_ | refine Wg ?_ | refine W2 ?_ ?_ | exact Wdead | refine Wlive (fun hb => ?_) | intro _ _ _ _ _ _ _ _ | refine We ?_ | refine Wx ?_ | refine Wt ?_ | refine Wm ?_ | refine W2m ?_ ?_ | refine Wl ?_)
      | fail)
    refine mj_callL (h := Nth_spec _ _ _ m s1 s2 s3 s4 j hmx hG (by omega)) (k := ?_)
    refine MonoJ.normA ?_
    repeat' (first
      | ((fail_if_success (first | refine is_ucall ?_ | refine is_umcall ?_)); first | refine W1 ?_ | refine Wc ?_ | refine W2c ?_ ?_ | refine Wg ?_ | refine W2 ?_ ?_ | exact Wdead | refine Wlive (fun hb => ?_) | intro _ _ _ _ _ _ _ _ | refine We ?_ | refine Wx ?_ | refine Wt ?_ | refine Wm ?_ | refine W2m ?_ ?_ | refine Wl ?_)
      | fail)
    refine mj_callP (h := Right_spec _ _ _ m s1 s2 s3 s4 (.slice (some ⟨H1.length, 0, none⟩) (nthL m j).length (nthL m j).length) (nthH m j) (nthL m j) (hmx.ext ⟨_, rfl⟩) hG htok hnl5 (rd_encE List.getElem?_concat_length (List.take_of_length_le (by simp [encE])))) (k := ?_)
    refine MonoJ.normA ?_
    repeat' (first
      | ((fail_if_success (first | refine is_ucall ?_ | refine is_umcall ?_)); first | refine W1 ?_ | refine Wc ?_ | refine W2c ?_ ?_ | refine Wg ?_ | refine W2 ?_ ?_ | exact Wdead | refine Wlive (fun hb => ?_) | intro _ _ _ _ _ _ _ _ | refine We ?_ | refine Wx ?_ | refine Wt ?_ | refine Wm ?_ | refine W2m ?_ ?_ | refine Wl ?_)
      | fail)
    refine st_appG (enc := enc1) (a := ((rightB m (nthT m j) m.reads.length : Nat) : Int)) (hA.app _) rfl (fun _ => rfl) rfl rfl getA (by simp) rfl rfl (by simp; omega) (by rw [allN_len]; omega) (by decide) ?_
    intro v2 H2 hA2 hE hK hL
    obtain ⟨i2, k2, rfl⟩ := hA2.slice
    have e0 := hK (H.length) _ (by omega) (get_old hb0)
    simp only [List.length_append, List.length_cons, List.length_nil] at hL
    refine OpsJ.normA ?_
    repeat' (first
      | ((fail_if_success (first | refine is_ucall ?_ | refine is_umcall ?_)); first | refine W1 ?_ | refine Wc ?_ | refine W2c ?_ ?_ | refine Wg ?_ | refine W2 ?_ ?_ | exact Wdead | refine Wlive (fun hb => ?_) | intro _ _ _ _ _ _ _ _ | refine We ?_ | refine Wx ?_ | refine Wt ?_ | refine Wm ?_ | refine W2m ?_ ?_ | refine Wl ?_)
      | fail)
    exact ⟨.slice (some ⟨i2, 0, none⟩) k2 k2, by omega, (by repeat' (first | exact Weak.nil | refine Weak.wild ?_ | refine Weak.same ?_ | refine Weak.intEq (by first | omega | (simp; done) | (push_cast; omega)) ?_)), rfl, hE H extA (by omega), e0, by rw [allN_succ]; exact hA2, by omega⟩
  · obtain rfl : j = K := by omega
    exact hA.tidy (by omega) he (fun _ => rfl) ⟨rfl, rfl, rfl⟩
end
end Go.Proofs.Ytjbiidlmpaibkaa
