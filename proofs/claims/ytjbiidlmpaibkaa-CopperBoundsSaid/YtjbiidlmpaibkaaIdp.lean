import Derived.Test.YtjbiidlmpaibkaaIcp
namespace Go.Proofs.Ytjbiidlmpaibkaa
open Go Go.Abs Go.Proofs
set_option maxHeartbeats 1600000
attribute [local irreducible] CallJ OpsJ WPJ CallV MonoJ SpecJ
def rightP (m : CopM) (t : Int × List Int) (i : Nat) : Bool := rightR (arr5 (hrs m) (hotS m t.1 t.2)) (m.reads.getD i rd0)
def rightB (m : CopM) (t : Int × List Int) : Nat → Nat
  | 0 => 0
  | k + 1 => if rightP m t k then rightB m t k ||| 2 ^ k else rightB m t k
theorem rightB_bit (m : CopM) (t : Int × List Int) : ∀ k i, (rightB m t k).testBit i = (decide (i < k) && rightP m t i)
  | 0, i => by simp [rightB]
  | k + 1, i => by
    have ih := rightB_bit m t k i
    unfold rightB
    by_cases hk : rightP m t k = true
    · rw [if_pos hk, Nat.testBit_or, ih, Nat.testBit_two_pow]
      by_cases h1 : i < k
      · have h2 : ¬ k = i := by omega
        simp [h1, h2, show i < k + 1 by omega]
      · by_cases h2 : k = i
        · subst h2; simp [hk]
        · simp [h1, h2, show ¬ i < k + 1 by omega]
    · rw [if_neg hk, ih]
      by_cases h1 : i < k
      · simp [h1, show i < k + 1 by omega]
      · by_cases h2 : k = i
        · subst h2; simp [hk]
        · simp [h1, show ¬ i < k + 1 by omega]
theorem rightB_lt (m : CopM) (t : Int × List Int) : ∀ k, rightB m t k < 2 ^ k
  | 0 => by simp [rightB]
  | k + 1 => by
    have ih := rightB_lt m t k
    have h2 : 2 ^ k < 2 ^ (k + 1) := Nat.pow_lt_pow_right (by decide) (by omega)
    unfold rightB
    split
    · exact Nat.or_lt_two_pow (by omega) h2
    · omega
theorem rightB_full (m : CopM) (t : Int × List Int) : decide (rightB m t m.reads.length = 2 ^ m.reads.length - 1) = isT m t := by
  rw [Bool.eq_iff_iff, decide_eq_true_eq]
  unfold isT rightS
  rw [List.all_eq_true]
  constructor
  · intro h r hr
    obtain ⟨i, hi, rfl⟩ := List.mem_iff_getElem.1 hr
    have h1 := rightB_bit m t m.reads.length i
    rw [h, Nat.testBit_two_pow_sub_one, decide_eq_true hi, Bool.true_and] at h1
    unfold rightP at h1
    rw [show m.reads.getD i rd0 = m.reads[i] by simp [List.getD, hi]] at h1
    exact h1.symm
  · intro h
    refine Nat.eq_of_testBit_eq fun i => ?_
    rw [rightB_bit, Nat.testBit_two_pow_sub_one]
    by_cases hi : i < m.reads.length
    · rw [decide_eq_true hi, Bool.true_and]
      unfold rightP
      rw [show m.reads.getD i rd0 = m.reads[i] by simp [List.getD, hi]]
      exact h _ (List.getElem_mem hi)
    · rw [decide_eq_false hi, Bool.false_and]
theorem or_nat {a b : Nat} (ha : a < 2 ^ 30) (hb : b < 2 ^ 30) : bitsBin .or .i64 (a : Int) (b : Int) = some ((a ||| b : Nat) : Int) := by
  have hx : a ||| b < 2 ^ 30 := Nat.or_lt_two_pow ha hb
  have h : (BitVec.ofInt 64 (a : Int) ||| BitVec.ofInt 64 (b : Int)).toNat = a ||| b := by
    rw [BitVec.toNat_or, BitVec.ofInt_natCast, BitVec.ofInt_natCast, BitVec.toNat_ofNat, BitVec.toNat_ofNat, Nat.mod_eq_of_lt (by omega), Nat.mod_eq_of_lt (by omega)]
  show some (IntKind.i64.wrap ((BitVec.ofInt 64 _ ||| BitVec.ofInt 64 _).toNat : Int)) = _
  rw [h, wrap64_eq ⟨by omega, by omega⟩]
theorem arr5_getD {k i : Nat} {f : Nat → Int} (h : i < k) (h5 : i < 5) : (arr5 k f).getD i 0 = f i := by
  rw [List.getD_eq_getElem?_getD, arr5_get h h5]; rfl
section
variable {γ : Type} (E : Env γ) (g : γ) (H : AHeap)
theorem Full_spec (m : CopM) (s1 s2 s3 s4 : Value) (hm : CopY H m s1 s2 s3 s4) (hN : m.reads.length ≤ 30) : CallJ Try.prog E 73 [cv m s1 s2 s3 s4] (fun v H' g' => v = .int .i64 ((2 ^ m.reads.length - 1 : Nat) : Int) ∧ H' = H ∧ g' = g) H g := by
  have hok := hm.cells
  have hr4 := hm.reads
  obtain ⟨p, hp⟩ : ∃ p, p = 2 ^ m.reads.length := ⟨_, rfl⟩
  have hp2 : 2 ^ m.reads.length ≤ 2 ^ 30 := Nat.pow_le_pow_right (by decide) hN
  have hp1 : 1 ≤ p ∧ p ≤ 1073741824 := by rw [hp]; exact ⟨Nat.two_pow_pos _, hp2⟩
  have ep := shl_eq (a := 1) (j := m.reads.length) hp (by rw [Nat.one_mul]) (by omega) (by omega)
  rw [← hp]
  have he : ((p - 1 : Nat) : Int) = (p : Int) - 1 := by omega
  rw [he]
  clear hp2 hp he
  refine CallJ.tidy ?_
  unfold cv
  refine CallJ.enter Try.func73 rfl (by simp only [Try.ntmps73, List.length_cons, List.length_nil, Nat.zero_add, Nat.reduceSub, List.replicate_succ, List.replicate_zero, List.cons_append, List.nil_append]; rfl) ?_
  repeat' (first
    | ((fail_if_success (first | refine is_ucall ?_ | refine is_umcall ?_)); first | refine W1 ?_ | refine Wc ?_ | refine W2c ?_ ?_ | refine Wg ?_ | refine W2 ?_ ?_ | exact Wdead | refine Wlive (fun hb => ?_) | intro _ _ _ _ _ _ _ _ | refine We ?_ | refine Wx ?_ | refine Wt ?_ | refine Wm ?_ | refine W2m ?_ ?_ | refine Wl ?_)
    | fail)
  rw [wrap_u64 (n := (m.reads.length : Int)) (by omega) (by omega)]
  refine OpsJ.normA ?_
  refine st_shl rfl rfl (by omega) ?_
  have ep' : IntKind.i64.wrap (1 * 2 ^ (min ((m.reads.length : Int)).toNat IntKind.i64.bits)) = (p : Int) := ep
  rw [ep']
  refine OpsJ.normA ?_
  repeat' (first
    | ((fail_if_success (first | refine is_ucall ?_ | refine is_umcall ?_)); first | refine W1 ?_ | refine Wc ?_ | refine W2c ?_ ?_ | refine Wg ?_ | refine W2 ?_ ?_ | exact Wdead | refine Wlive (fun hb => ?_) | intro _ _ _ _ _ _ _ _ | refine We ?_ | refine Wx ?_ | refine Wt ?_ | refine Wm ?_ | refine W2m ?_ ?_ | refine Wl ?_)
    | fail)
  exact ⟨rfl, rfl, rfl⟩
theorem Right_spec (m : CopM) (s1 s2 s3 s4 tl : Value) (h : Int) (ls : List Int) (hm : CopY H m s1 s2 s3 s4) (hG : Good m) (hT : TOk h (pad5 ls)) (hll : ls.length = hrs m) (hr : RdS H tl 1 (encI ls)) :
    CallJ Try.prog E 84 [cv m s1 s2 s3 s4, .agg ⟨[.int .i64 h, tl]⟩] (fun v H' g' => v = .int .i64 (rightB m (h, pad5 ls) m.reads.length : Nat) ∧ H' = H ∧ g' = g) H g := by
  have hok := hm.cells
  have hr1 := hm.coal
  have hr2 := hm.want
  have hr4 := hm.reads
  have hN := hG.nr
  have hW := hG.w
  obtain ⟨hn5, hnl⟩ := hrs_le hW
  have hokt : [Value.int .i64 h, tl].all cellOk = true := by
    obtain ⟨a, b, c, rfl⟩ := RdS.shape hr; rfl
  have hhot : ∀ (g' : Unit) (H' : AHeap) (j : Nat), j < hrs m → Ext H H' → CallJ Try.prog trivE 29 [cv m s1 s2 s3 s4, .agg ⟨[.int .i64 h, tl]⟩, s1, s2, .int .i64 j] (fun v H2 g2 => v = .int .i64 (hotS m h (pad5 ls) j) ∧ H2 = H' ∧ g2 = g') H' g' := fun g' H' j hj he => Hot_spec trivE g' H' m s1 s2 s3 s4 tl s1 s2 h ls m.coal m.want hok hW hT hll j hj (hr.ext he) (hr1.ext he) (hr2.ext he)
  refine CallJ.tidy ?_
  unfold cv
  refine CallJ.enter Try.func84 rfl (by simp only [Try.ntmps84, List.length_cons, List.length_nil, Nat.zero_add, Nat.reduceAdd, Nat.reduceSub, List.replicate_succ, List.replicate_zero, List.cons_append, List.nil_append]; rfl) ?_
  repeat' (first
    | ((fail_if_success (first | refine is_ucall ?_ | refine is_umcall ?_)); first | refine W1 ?_ | refine Wc ?_ | refine W2c ?_ ?_ | refine Wg ?_ | refine W2 ?_ ?_ | exact Wdead | refine Wlive (fun hb => ?_) | intro _ _ _ _ _ _ _ _ | refine We ?_ | refine Wx ?_ | refine Wt ?_ | refine Wm ?_ | refine W2m ?_ ?_ | refine Wl ?_)
    | fail)
  refine WPJ.loopT m.reads.length [8, 9, 10, 11, 12, 15, 16, 17, 18, 19, 7, 20, 21, 22, 23, 24, 25, 26, 27, 28, 29, 30, 31, 32, 33, 34, 35, 36, 13, 14] (fun j (_ : Unit) => [(6, .int .i64 j), (5, .int .i64 (rightB m (h, pad5 ls) j : Nat))])
    (fun j _ H1 g1 => g1 = g ∧ Ext H H1 ∧ H1[H.length]? = some (.row (ccells m s1 s2 s3 s4) 1 true) ∧ H1[H.length + 1]? = some (.row [.int .i64 h, tl] 1 true) ∧ H.length + 1 < H1.length) 0 () (Nat.zero_le _) (by intro p hp; simp at hp; rcases hp with rfl | rfl <;> rfl) ⟨rfl, extA, getA, getA, by simp⟩ ?_
  rintro j _ H1 g1 hj ⟨rfl, he, hb0, hb1, hlen⟩ hl0
  simp only [updT, maskT, List.set_cons_zero, List.set_cons_succ]
  rcases Nat.lt_or_ge j m.reads.length with hlt | hge
  · have hel : (m.reads.map encD)[(j : Int).toNat]? = some (encD m.reads[j]) := by simp [hlt]
    have hrd := hG.rd _ (List.getElem_mem hlt)
    have hbd : rightB m (h, pad5 ls) j < 2 ^ 30 := Nat.lt_of_lt_of_le (rightB_lt m (h, pad5 ls) j) (Nat.pow_le_pow_right (by decide) (by omega))
    have hst : rightB m (h, pad5 ls) (j + 1) = if rightP m (h, pad5 ls) j then rightB m (h, pad5 ls) j ||| 2 ^ j else rightB m (h, pad5 ls) j := rfl
    have hP : rightP m (h, pad5 ls) j = rightR (arr5 (hrs m) (hotS m h (pad5 ls))) m.reads[j] := by unfold rightP; rw [show m.reads.getD j rd0 = m.reads[j] by simp [List.getD, hlt]]
    obtain ⟨q, hq⟩ : ∃ q, q = 2 ^ j := ⟨_, rfl⟩
    have hq2 : 2 ^ j ≤ 2 ^ 5 := Nat.pow_le_pow_right (by decide) (by omega)
    have hq1 : 1 ≤ q ∧ q ≤ 32 := by rw [hq]; exact ⟨Nat.two_pow_pos _, hq2⟩
    have ep := shl_eq (a := 1) (j := j) hq (by rw [Nat.one_mul]) (by omega) (by omega)
    rw [hP, ← hq] at hst
    generalize m.reads[j] = r at *
    obtain ⟨rh, rl, ru⟩ := r
    have hih : 0 ≤ rh ∧ rh ≤ m.last := by
      unfold isReadS at hrd
      rw [Bool.and_eq_true] at hrd
      have h1 := hrd.1
      unfold inR at h1
      simpa using h1
    obtain ⟨rn, rfl⟩ : ∃ n : Nat, rh = n := ⟨rh.toNat, by omega⟩
    have hrn : rn < hrs m := by omega
    have hR : rightR (arr5 (hrs m) (hotS m h (pad5 ls))) ⟨rn, rl, ru⟩ = inR rl ru (hotS m h (pad5 ls) rn) := by
      unfold rightR
      rw [show ((rn : Int)).toNat = rn from rfl, arr5_getD hrn (by omega)]
    rw [hR] at hst
    have hcall := fun g' H' he' => hhot g' H' rn hrn he'
    clear hhot hR hP hq2 hrd
    generalize hotS m h (pad5 ls) rn = x at *
    generalize hrb : rightB m (h, pad5 ls) j = b at *
    repeat' (first
      | ((fail_if_success (first | refine is_ucall ?_ | refine is_umcall ?_)); first | refine W1 ?_ | refine Wc ?_ | refine W2c ?_ ?_ | refine Wg ?_ | refine W2 ?_ ?_ | exact Wdead | refine Wlive (fun hb => ?_) | intro _ _ _ _ _ _ _ _ | refine We ?_ | refine Wx ?_ | refine Wt ?_ | refine Wm ?_ | refine W2m ?_ ?_ | refine Wl ?_)
      | fail)
    refine WPJ.draw 12 mixed (by kernel_rfl) (by kernel_rfl) (by kernel_rfl) (by decide) ?_
    refine MonoJ.normA ?_
    repeat' (first
      | ((fail_if_success (first | refine is_ucall ?_ | refine is_umcall ?_)); first | refine W1 ?_ | refine Wc ?_ | refine W2c ?_ ?_ | refine Wg ?_ | refine W2 ?_ ?_ | exact Wdead | refine Wlive (fun hb => ?_) | intro _ _ _ _ _ _ _ _ | refine We ?_ | refine Wx ?_ | refine Wt ?_ | refine Wm ?_ | refine W2m ?_ ?_ | refine Wl ?_)
      | fail)
    refine mj_callP (h := hcall _ _ ?_) (k := ?_)
    · exact he.trans extA
    clear hcall
    refine MonoJ.normA ?_
    repeat' (first
      | ((fail_if_success (first | refine is_ucall ?_ | refine is_umcall ?_)); first | refine W1 ?_ | refine Wc ?_ | refine W2c ?_ ?_ | refine Wg ?_ | refine W2 ?_ ?_ | exact Wdead | refine Wlive (fun hb => ?_) | intro _ _ _ _ _ _ _ _ | refine We ?_ | refine Wx ?_ | refine Wt ?_ | refine Wm ?_ | refine W2m ?_ ?_ | refine Wl ?_)
      | fail)
    refine mj_callP (h := Is_spec _ _ _ x (rl, ru)) (k := ?_)
    cases hi : inR rl ru x with
    | false =>
      rw [hi, if_neg (by decide)] at hst
      refine MonoJ.normA ?_
      repeat' (first
        | ((fail_if_success (first | refine is_ucall ?_ | refine is_umcall ?_)); first | refine W1 ?_ | refine Wc ?_ | refine W2c ?_ ?_ | refine Wg ?_ | refine W2 ?_ ?_ | exact Wdead | refine Wlive (fun hb => ?_) | intro _ _ _ _ _ _ _ _ | refine We ?_ | refine Wx ?_ | refine Wt ?_ | refine Wm ?_ | refine W2m ?_ ?_ | refine Wl ?_)
        | fail)
      exact ⟨(), hlt, by rw [hst]; exact (by repeat' (first | exact Weak.nil | refine Weak.wild ?_ | refine Weak.same ?_ | refine Weak.intEq (by first | omega | (simp; done) | (push_cast; omega)) ?_)), rfl, extA, getA, getA, by simp; omega⟩
    | true =>
      rw [hi, if_pos rfl] at hst
      refine MonoJ.normA ?_
      repeat' (first
        | ((fail_if_success (first | refine is_ucall ?_ | refine is_umcall ?_)); first | refine W1 ?_ | refine Wc ?_ | refine W2c ?_ ?_ | refine Wg ?_ | refine W2 ?_ ?_ | exact Wdead | refine Wlive (fun hb => ?_) | intro _ _ _ _ _ _ _ _ | refine We ?_ | refine Wx ?_ | refine Wt ?_ | refine Wm ?_ | refine W2m ?_ ?_ | refine Wl ?_)
        | fail)
      rw [wrap_u64 (n := (j : Int)) (by omega) (by omega)]
      refine OpsJ.normA ?_
      refine st_shl rfl rfl (by omega) ?_
      have ep' : IntKind.i64.wrap (1 * 2 ^ (min ((j : Int)).toNat IntKind.i64.bits)) = (q : Int) := ep
      rw [ep']
      refine OpsJ.normA ?_
      refine st_bits rfl rfl (or_nat (a := b) (b := q) hbd (by omega)) ?_
      refine OpsJ.normA ?_
      repeat' (first
        | ((fail_if_success (first | refine is_ucall ?_ | refine is_umcall ?_)); first | refine W1 ?_ | refine Wc ?_ | refine W2c ?_ ?_ | refine Wg ?_ | refine W2 ?_ ?_ | exact Wdead | refine Wlive (fun hb => ?_) | intro _ _ _ _ _ _ _ _ | refine We ?_ | refine Wx ?_ | refine Wt ?_ | refine Wm ?_ | refine W2m ?_ ?_ | refine Wl ?_)
        | fail)
      exact ⟨(), hlt, by rw [hst]; exact (by repeat' (first | exact Weak.nil | refine Weak.wild ?_ | refine Weak.same ?_ | refine Weak.intEq (by first | omega | (simp; done) | (push_cast; omega)) ?_)), rfl, extA, getA, getA, by simp; omega⟩
  · obtain rfl : j = m.reads.length := by omega
    repeat' (first
      | ((fail_if_success (first | refine is_ucall ?_ | refine is_umcall ?_)); first | refine W1 ?_ | refine Wc ?_ | refine W2c ?_ ?_ | refine Wg ?_ | refine W2 ?_ ?_ | exact Wdead | refine Wlive (fun hb => ?_) | intro _ _ _ _ _ _ _ _ | refine We ?_ | refine Wx ?_ | refine Wt ?_ | refine Wm ?_ | refine W2m ?_ ?_ | refine Wl ?_)
      | fail)
    exact ⟨rfl, rfl, rfl⟩
end
end Go.Proofs.Ytjbiidlmpaibkaa
