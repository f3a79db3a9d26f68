import Derived.Test.YtehobnpoeodhkaaSa
namespace Go.Proofs.Ytehobnpoeodhkaa
open Go Go.Abs Go.Proofs
set_option maxHeartbeats 4000000
set_option maxRecDepth 20000
attribute [local irreducible] CallJ OpsJ WPJ CallV MonoJ SpecJ

/-! ### A house with some of its clips, as the law builds it -/
def clipsK (m : HouseM) (b j : Nat) : List ClipM := ((List.range j).filter fun p => b.testBit p).map fun p => m.clips.getD p ⟨0, 0, 0⟩
theorem clipsK_step (m : HouseM) (b j : Nat) : clipsK m b (j + 1) = if b.testBit j = true then clipsK m b j ++ [m.clips.getD j ⟨0, 0, 0⟩] else clipsK m b j := by
  unfold clipsK
  rw [List.range_succ, List.filter_append, List.map_append]
  by_cases h : b.testBit j <;> simp [h]
theorem clipsK_len (m : HouseM) (b j : Nat) : (clipsK m b j).length ≤ j := by
  unfold clipsK
  rw [List.length_map]
  exact Nat.le_trans (List.length_filter_le _ _) (by simp)
theorem or_nat {a b : Nat} (ha : a < 2 ^ 30) (hb : b < 2 ^ 30) : bitsBin .or .i64 (a : Int) (b : Int) = some ((a ||| b : Nat) : Int) := by
  have hx : a ||| b < 2 ^ 30 := Nat.or_lt_two_pow ha hb
  have h : (BitVec.ofInt 64 (a : Int) ||| BitVec.ofInt 64 (b : Int)).toNat = a ||| b := by
    rw [BitVec.toNat_or, BitVec.ofInt_natCast, BitVec.ofInt_natCast, BitVec.toNat_ofNat, BitVec.toNat_ofNat, Nat.mod_eq_of_lt (by omega), Nat.mod_eq_of_lt (by omega)]
  show some (IntKind.i64.wrap ((BitVec.ofInt 64 _ ||| BitVec.ofInt 64 _).toNat : Int)) = _
  rw [h, wrap64_eq ⟨by omega, by omega⟩]
theorem and_nat {a b : Nat} (ha : a < 2 ^ 30) (hb : b < 2 ^ 30) : bitsBin .and .i64 (a : Int) (b : Int) = some ((a &&& b : Nat) : Int) := by
  have hx : a &&& b < 2 ^ 30 := Nat.and_lt_two_pow _ hb
  have h : (BitVec.ofInt 64 (a : Int) &&& BitVec.ofInt 64 (b : Int)).toNat = a &&& b := by
    rw [BitVec.toNat_and, BitVec.ofInt_natCast, BitVec.ofInt_natCast, BitVec.toNat_ofNat, BitVec.toNat_ofNat, Nat.mod_eq_of_lt (by omega), Nat.mod_eq_of_lt (by omega)]
  show some (IntKind.i64.wrap ((BitVec.ofInt 64 _ &&& BitVec.ofInt 64 _).toNat : Int)) = _
  rw [h, wrap64_eq ⟨by omega, by omega⟩]
theorem thin_sub {m : HouseM} (h : thinS m = true) (b : Nat) : thinS (subM m b) = true := by
  unfold thinS at h
  simp only [Bool.and_eq_true, decide_eq_true_eq] at h
  have h3 : (clipsB m b).length ≤ 30 := by have := (clipsB_sub m b).length_le; omega
  show (decide (m.clocks.length ≤ 30) && decide (m.tickets.length ≤ 30) && decide ((clipsB m b).length ≤ 30)) = true
  rw [decide_eq_true h.1.1, decide_eq_true h.1.2, decide_eq_true h3]; rfl
theorem checkT_sub {m : HouseM} (hG : Good m) (b : Nat) : checkT (subM m b) = if hasS (subM m b) then 0 else 11 := by
  unfold checkT
  rw [if_pos (check_of_good (sub_good hG b))]
theorem mask_snoc (s : List Nat) (p : Nat) : maskOf (s ++ [p]) = maskOf s ||| 2 ^ p := by
  refine Nat.eq_of_testBit_eq fun q => ?_
  rw [Nat.testBit_or, mask_bit, mask_bit, Nat.testBit_two_pow]
  by_cases h : q = p
  · simp [h]
  · simp [h, Ne.symm h]
theorem leave_least {m : HouseM} (hG : Good m) : okWithout m (leaveS m) = true ∧ (∃ s : List Nat, leaveS m = s.map (fun (p : Nat) => (p : Int)) ∧ s.Sublist (List.range m.clips.length)) ∧ ∀ c, okWithout m (bitsN c m.clips.length) = true → shorterS (bitsN c m.clips.length) (leaveS m) = false := by
  unfold leaveS
  cases hs : smallS m with
  | none =>
    unfold smallS at hs
    rw [List.find?_eq_none] at hs
    have h4 := hs _ (bits_in_upTo m (2 ^ m.clips.length - 1))
    rw [full_ok hG] at h4
    exact absurd rfl h4
  | some s =>
    obtain ⟨k1, ⟨d, hd, ed⟩, k3⟩ := small_least hs
    exact ⟨k1, ⟨_, ed.symm, List.filter_sublist⟩, k3⟩
section
variable {γ : Type} (E : Env γ) (g : γ) (H : AHeap)
theorem some_sub (m : HouseM) (s1 s2 s3 : Value) (b : Nat) (hm : HouseIs H m s1 s2 s3) (hb3 : m.clips.length ≤ 30) : CallJ Try.prog E 73 [hv m s1 s2 s3, .int .i64 b] (fun v H' g' => v = hv (subM m b) s1 s2 (slV H.length (clipsB m b)) ∧ H' = H ++ (slH encC 3 (clipsB m b)).map frz ∧ g' = g) H g := by
  refine CallJ.freezeN (K := fun v H' g' => v = hv (subM m b) s1 s2 (slV H.length (clipsB m b)) ∧ H' = H ++ slH encC 3 (clipsB m b) ∧ g' = g) ?_ (by rintro v H' g' ⟨rfl, rfl, rfl⟩; exact ⟨_, rfl, slH_flat (fun _ => rfl), rfl, rfl, rfl⟩)
  have hok := hm.cells
  have hr3 := hm.clips
  have hl1 := RdS.low hm.clocks
  have hl2 := RdS.low hm.tickets
  refine CallJ.tidy ?_
  unfold hv
  refine CallJ.enter Try.func73 rfl (by simp only [Try.ntmps73, List.length_cons, List.length_nil, Nat.zero_add, Nat.reduceAdd, Nat.reduceSub, List.replicate_succ, List.replicate_zero, List.cons_append, List.nil_append]; rfl) ?_
  repeat' (first
    | refine W1 ?_ | refine Wc ?_ | refine W2c ?_ ?_ | refine Wg ?_ | refine W2 ?_ ?_ | exact Wdead | refine Wlive (fun hb => ?_) | intro _ _ _ _ _ _ _ _ | refine We ?_ | refine Wx ?_ | refine Wt ?_ | refine Wm ?_ | refine W2m ?_ ?_ | refine Wl ?_
    | fail)
  refine WPJ.loopT m.clips.length [9, 10, 11, 12, 13, 14, 15, 16, 17, 18, 19, 20, 21, 22, 23, 24, 25, 26, 27, 28, 29, 30, 31] (fun j (v : Value) => [(6, .int .i64 j)])
    (fun j v H1 g1 => g1 = g ∧ Ext H H1 ∧ H1[H.length]? = some (.row [.int .i64 m.hour, .int .i64 m.grace, s1, s2, s3] 1 true) ∧ (∃ cs, cs.length = 5 ∧ H1[H.length + 1]? = some (.row cs 1 true)) ∧ H1[H.length + 2]? = some (.row [.int .i64 m.hour, .int .i64 m.grace, s1, s2, v] 1 true) ∧ AppG encC 3 H1 (H.length + 3) v (clipsK m b j) ∧ H.length + 3 ≤ H1.length) 0 (.slice none 0 0) (Nat.zero_le _)
    (by intro p hp; simp at hp; rcases hp with rfl; rfl) ⟨rfl, extA, getA, ⟨_, ?_, getA⟩, getA, AppG.nil, by simp⟩ ?_
  · rfl
  rintro j v1 H1 g1 hj ⟨rfl, he, hb0, ⟨cs, hcs, hb1⟩, hb2, hA, hlen⟩ hl0
  simp only [updT, maskT, List.set_cons_zero, List.set_cons_succ]
  rcases Nat.lt_or_ge j m.clips.length with hlt | hge
  · have hel : (m.clips.map encC)[(j : Int).toNat]? = some (encC m.clips[j]) := by simp [hlt]
    have hstep := clipsK_step m b j
    have htl : (clipsK m b j).length ≤ 1000000 := by have := clipsK_len m b j; omega
    have hwr : IntKind.u64.wrap (j : Int) = j := wrap_u64 (by omega) (by omega)
    have hq := bit_tmod (b := b) (i := j) (by omega)
    rw [show m.clips.getD j ⟨0, 0, 0⟩ = m.clips[j] by simp [List.getD, hlt]] at hstep
    generalize hc : m.clips[j] = r at *
    cases htb : b.testBit j with
    | true =>
      rw [htb, if_pos rfl] at hq hstep
      repeat' (first
        | refine W1 ?_ | refine Wc ?_ | refine W2c ?_ ?_ | refine Wg ?_ | refine W2 ?_ ?_ | exact Wdead | refine Wlive (fun hb => ?_) | intro _ _ _ _ _ _ _ _ | refine We ?_ | refine Wx ?_ | refine Wt ?_ | refine Wm ?_ | refine W2m ?_ ?_ | refine Wl ?_
        | fail)
      clear hq hwr
      refine WPJ.draw 8 mixed (by kernel_rfl) (by kernel_rfl) (by kernel_rfl) (by decide) ?_
      refine MonoJ.normA ?_
      repeat' (first
        | refine W1 ?_ | refine Wc ?_ | refine W2c ?_ ?_ | refine Wg ?_ | refine W2 ?_ ?_ | exact Wdead | refine Wlive (fun hb => ?_) | intro _ _ _ _ _ _ _ _ | refine We ?_ | refine Wx ?_ | refine Wt ?_ | refine Wm ?_ | refine W2m ?_ ?_ | refine Wl ?_
        | fail)
      refine st_appG (a := r) (hA.app _) rfl encC_len rfl rfl getA (by simp) rfl rfl (by simp; omega) htl (by decide) ?_
      intro v2 H2 hA2 hE hK hL
      obtain ⟨i2, k2, rfl⟩ := hA2.slice
      have e0 := hK (H.length) _ (by omega) (get_old hb0)
      have e1 := hK (H.length + 1) _ (by omega) (get_old hb1)
      have e2 := hK (H.length + 2) _ (by omega) (get_old hb2)
      simp only [List.length_append, List.length_cons, List.length_nil] at hL
      refine OpsJ.normA ?_
      repeat' (first
        | refine W1 ?_ | refine Wc ?_ | refine W2c ?_ ?_ | refine Wg ?_ | refine W2 ?_ ?_ | exact Wdead | refine Wlive (fun hb => ?_) | intro _ _ _ _ _ _ _ _ | refine We ?_ | refine Wx ?_ | refine Wt ?_ | refine Wm ?_ | refine W2m ?_ ?_ | refine Wl ?_
        | fail)
      exact ⟨_, hlt, (by repeat' (first | exact Weak.nil | refine Weak.wild ?_ | refine Weak.same ?_ | refine Weak.intEq (by first | omega | (simp; done) | (push_cast; omega)) ?_)), rfl, Ext.set (hE H extA (by omega)) (by omega) _, getA, ⟨cs, hcs, getA⟩, getA, by rw [hstep]; refine hA2.set ?_; omega, by rw [List.length_set]; omega⟩
    | false =>
      rw [htb, if_neg (by simp)] at hq hstep
      repeat' (first
        | refine W1 ?_ | refine Wc ?_ | refine W2c ?_ ?_ | refine Wg ?_ | refine W2 ?_ ?_ | exact Wdead | refine Wlive (fun hb => ?_) | intro _ _ _ _ _ _ _ _ | refine We ?_ | refine Wx ?_ | refine Wt ?_ | refine Wm ?_ | refine W2m ?_ ?_ | refine Wl ?_
        | fail)
      exact ⟨v1, hlt, (by repeat' (first | exact Weak.nil | refine Weak.wild ?_ | refine Weak.same ?_ | refine Weak.intEq (by first | omega | (simp; done) | (push_cast; omega)) ?_)), rfl, he, hb0, ⟨cs, hcs, hb1⟩, hb2, by rw [hstep]; exact hA, hlen⟩
  · have hcv := hA.cell
    have hok3 : [Value.int .i64 m.hour, Value.int .i64 m.grace, s1, s2, v1].all cellOk = true := by simp at hok ⊢; exact ⟨hok.1, hok.2.1, hok.2.2.1, hok.2.2.2.1, hcv⟩
    obtain rfl : j = m.clips.length := by omega
    repeat' (first
      | refine W1 ?_ | refine Wc ?_ | refine W2c ?_ ?_ | refine Wg ?_ | refine W2 ?_ ?_ | exact Wdead | refine Wlive (fun hb => ?_) | intro _ _ _ _ _ _ _ _ | refine We ?_ | refine Wx ?_ | refine Wt ?_ | refine Wm ?_ | refine W2m ?_ ?_ | refine Wl ?_
      | fail)
    exact tidy1 (hA.set (by omega)).bnd (by omega) extA rfl rfl hl1 hl2 (fun _ => rfl) ⟨rfl, rfl, rfl⟩
theorem someZ (m : HouseM) (s1 s2 s3 : Value) (z : Int) (b : Nat) (hz : z = b) (hm : HouseIs H m s1 s2 s3) (hb3 : m.clips.length ≤ 30) : CallJ Try.prog E 73 [hv m s1 s2 s3, .int .i64 z] (fun v H' g' => (∃ t1 t2 t3, v = hv (subM m b) t1 t2 t3 ∧ HouseIs H' (subM m b) t1 t2 t3 ∧ Ext H H') ∧ g' = g) H g := by
  subst hz
  exact (some_sub E g H m s1 s2 s3 b hm hb3).mono (by
    rintro v H' g' ⟨rfl, rfl, rfl⟩
    have he : Ext H (H ++ (slH encC 3 (clipsB m b)).map frz) := ⟨_, rfl⟩
    have g3 : clipsB m b ≠ [] → (H ++ (slH encC 3 (clipsB m b)).map frz)[H.length]? = some (.row ((clipsB m b).map encC).flatten 3 false) := fun h => by
      rw [slH_frz h]; exact List.getElem?_concat_length
    have hok := hm.ok
    refine ⟨⟨s1, s2, _, rfl, ⟨hm.clocks.ext he, hm.tickets.ext he, rd_at' encC_len g3, ?_, hm.n1, hm.n2, by have := hm.n3; have h2 := (clipsB_sub m b).length_le; show (clipsB m b).length ≤ _; omega, hm.p1.ext he, hm.p2.ext he, plain_at' (fun _ => rfl) g3⟩, he⟩, rfl⟩
    simp [slV_cell] at hok ⊢
    exact ⟨hok.1, hok.2.1⟩)
end
end Go.Proofs.Ytehobnpoeodhkaa
