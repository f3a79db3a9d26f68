import Derived.Test.YtjbiidlmpaibkaaIkw
import Derived.Test.YtjbiidlmpaibkaaIhw
namespace Go.Proofs.Ytjbiidlmpaibkaa
open Go Go.Abs Go.Proofs
set_option maxHeartbeats 1600000
attribute [local irreducible] CallJ OpsJ WPJ CallV MonoJ SpecJ

/-! ### The reference: the first wrong reading, the smallest set -/
theorem all_lt {m : CopM} (hG : Good m) (k : Nat) : ∀ a ∈ allN m k, a < 2 ^ 30 := by
  intro a ha
  obtain ⟨n, _, rfl⟩ := List.mem_map.1 ha
  have h1 := rightB_lt m (nthT m n) m.reads.length
  have h2 : 2 ^ m.reads.length ≤ 2 ^ 30 := Nat.pow_le_pow_right (by decide) (by have := hG.nr; omega)
  omega
section
variable {γ : Type} (E : Env γ) (g : γ) (H : AHeap)
theorem Can_spec (av : Value) (l : List Nat) (b : Nat) (hr : RdS H av 1 (encI (natI l))) (hl : ∀ a ∈ l, a < 2 ^ 30) (hn : l.length ≤ 1000000) (hb : b < 2 ^ 30) :
    CallJ Try.prog E 109 [av, .int .i64 b] (fun v H' g' => v = .bool (cansB l b) ∧ H' = H ∧ g' = g) H g := by
  refine CallJ.tidy ?_
  have hnl : (natI l).length = l.length := by simp [natI]
  refine CallJ.enter Try.func109 rfl (by simp only [Try.ntmps109, List.length_cons, List.length_nil, Nat.zero_add, Nat.reduceAdd, Nat.reduceSub, List.replicate_succ, List.replicate_zero, List.cons_append, List.nil_append]; rfl) ?_
  repeat' (first
    | ((fail_if_success (first | refine is_ucall ?_ | refine is_umcall ?_)); first | refine W1 ?_ | refine Wc ?_ | refine W2c ?_ ?_ | refine Wg ?_ | refine W2 ?_ ?_ | exact Wdead | refine Wlive (fun hb => ?_) | intro _ _ _ _ _ _ _ _ | refine We ?_ | refine Wx ?_ | refine Wt ?_ | refine Wm ?_ | refine W2m ?_ ?_ | refine Wl ?_)
    | fail)
  refine WPJ.loopT l.length [6, 7, 8, 9, 12, 13, 14, 15, 16, 17, 18, 19, 10, 11] (fun j (_ : Unit) => [(5, .int .i64 j)])
    (fun j _ H1 g1 => g1 = g ∧ H1 = H ∧ cansB (l.take j) b = false) 0 () (Nat.zero_le _) (by intro p hp; simp at hp; rcases hp with rfl; rfl) ⟨rfl, rfl, rfl⟩ ?_
  rintro j _ H1 g1 hj ⟨rfl, rfl, hx⟩ hl0
  simp only [updT, maskT, List.set_cons_zero, List.set_cons_succ]
  rcases Nat.lt_or_ge j l.length with hlt | hge
  · have hel : (encI (natI l))[(j : Int).toNat]? = some [.int .i64 (l[j] : Int)] := by simp [natI, hlt]
    have hal := hl _ (List.getElem_mem hlt)
    have htk := List.take_succ_eq_append_getElem hlt
    have hcs : cansB (l.take (j + 1)) b = decide (l[j] &&& b = b) := by
      unfold cansB at hx ⊢
      rw [htk, List.any_append, hx]; simp
    have hfin : l[j] &&& b = b → cansB l b = true := fun h => by
      unfold cansB
      exact List.any_eq_true.2 ⟨l[j], List.getElem_mem hlt, by simpa using h⟩
    have hand : IntKind.i64.wrap ((BitVec.ofInt IntKind.i64.bits ((l[j] : Nat) : Int) &&& BitVec.ofInt IntKind.i64.bits (b : Int)).toNat : Int) = ((l[j] &&& b : Nat) : Int) := Option.some.inj (and_nat hal hb)
    generalize l[j] = a at *
    repeat' (first
      | ((fail_if_success (first | refine is_ucall ?_ | refine is_umcall ?_)); first | refine W1 ?_ | refine Wc ?_ | refine W2c ?_ ?_ | refine Wg ?_ | refine W2 ?_ ?_ | exact Wdead | refine Wlive (fun hb => ?_) | intro _ _ _ _ _ _ _ _ | refine We ?_ | refine Wx ?_ | refine Wt ?_ | refine Wm ?_ | refine W2m ?_ ?_ | refine Wl ?_)
      | fail)
    · rw [hfin (by omega)]
      exact ⟨rfl, rfl, rfl⟩
    · exact ⟨(), hlt, (by repeat' (first | exact Weak.nil | refine Weak.wild ?_ | refine Weak.same ?_ | refine Weak.intEq (by first | omega | (simp; done) | (push_cast; omega)) ?_)), rfl, rfl, by rw [hcs, decide_eq_false]; omega⟩
  · obtain rfl : j = l.length := by omega
    rw [List.take_length] at hx
    repeat' (first
      | ((fail_if_success (first | refine is_ucall ?_ | refine is_umcall ?_)); first | refine W1 ?_ | refine Wc ?_ | refine W2c ?_ ?_ | refine Wg ?_ | refine W2 ?_ ?_ | exact Wdead | refine Wlive (fun hb => ?_) | intro _ _ _ _ _ _ _ _ | refine We ?_ | refine Wx ?_ | refine Wt ?_ | refine Wm ?_ | refine W2m ?_ ?_ | refine Wl ?_)
      | fail)
    rw [hx]
    exact ⟨rfl, rfl, rfl⟩
theorem FirstR_spec (m : CopM) (s1 s2 s3 s4 av : Value) (hm : CopY H m s1 s2 s3 s4) (hG : Good m) (hr : RdS H av 1 (encI (natI (allN m (manyS m).toNat)))) :
    CallJ Try.prog E 52 [cv m s1 s2 s3 s4, av] (fun v H' g' => v = .int .i64 (match firstA m with | none => -1 | some j => (j : Int)) ∧ H' = H ∧ g' = g) H g := by
  have hok := hm.cells
  refine CallJ.tidy ?_
  unfold cv
  have hr4 := hm.reads
  have hnr := hG.nr
  have hM : (manyS m).toNat ≤ 3000 := by have := manyS_eq m; omega
  have hal := all_lt hG (manyS m).toNat
  have hln : (allN m (manyS m).toNat).length ≤ 1000000 := by have := allN_len m (manyS m).toNat; simp [natI] at this; omega
  refine CallJ.enter Try.func52 rfl (by simp only [Try.ntmps52, List.length_cons, List.length_nil, Nat.zero_add, Nat.reduceAdd, Nat.reduceSub, List.replicate_succ, List.replicate_zero, List.cons_append, List.nil_append]; rfl) ?_
  repeat' (first
    | ((fail_if_success (first | refine is_ucall ?_ | refine is_umcall ?_)); first | refine W1 ?_ | refine Wc ?_ | refine W2c ?_ ?_ | refine Wg ?_ | refine W2 ?_ ?_ | exact Wdead | refine Wlive (fun hb => ?_) | intro _ _ _ _ _ _ _ _ | refine We ?_ | refine Wx ?_ | refine Wt ?_ | refine Wm ?_ | refine W2m ?_ ?_ | refine Wl ?_)
    | fail)
  refine WPJ.loopT m.reads.length [6, 7, 8, 9, 10, 13, 14, 15, 16, 17, 18, 19, 20, 11, 12] (fun j (_ : Unit) => [(5, .int .i64 j)])
    (fun j _ H1 g1 => g1 = g ∧ H1 = H ++ [.row (ccells m s1 s2 s3 s4) 1 true] ∧ ∀ i < j, hasS (upto m (i + 1)) = true) 0 () (Nat.zero_le _) (by intro p hp; simp at hp; rcases hp with rfl; rfl) ⟨rfl, rfl, fun i h => by omega⟩ ?_
  rintro j _ H1 g1 hj ⟨rfl, rfl, hx⟩ hl0
  simp only [updT, maskT, List.set_cons_zero, List.set_cons_succ]
  rcases Nat.lt_or_ge j m.reads.length with hlt | hge
  · have hp1 : 2 ^ (j + 1) ≤ 2 ^ m.reads.length := Nat.pow_le_pow_right (by decide) (by omega)
    have hp2 : 2 ^ m.reads.length ≤ 2 ^ 5 := Nat.pow_le_pow_right (by decide) hnr
    have hp0 : 1 ≤ 2 ^ (j + 1) := Nat.two_pow_pos _
    have ep := shl_eq (a := 2) (j := j) (k := j + 1) (p := 2 ^ (j + 1)) rfl (by rw [Nat.pow_succ, Nat.mul_comm]) (by omega) (by omega)
    have hcan := cans_has hG (b := 2 ^ (j + 1) - 1) (by omega)
    rw [subM_mask] at hcan
    obtain ⟨p, hp⟩ : ∃ p, p = 2 ^ (j + 1) := ⟨_, rfl⟩
    rw [← hp] at hp1 hp0 ep hcan
    have ep' : IntKind.i64.wrap (2 * 2 ^ (min ((j : Int)).toNat IntKind.i64.bits)) = (p : Int) := ep
    have hpe : ((p : Nat) : Int) - 1 = ((p - 1 : Nat) : Int) := by omega
    repeat' (first
      | ((fail_if_success (first | refine is_ucall ?_ | refine is_umcall ?_)); first | refine W1 ?_ | refine Wc ?_ | refine W2c ?_ ?_ | refine Wg ?_ | refine W2 ?_ ?_ | exact Wdead | refine Wlive (fun hb => ?_) | intro _ _ _ _ _ _ _ _ | refine We ?_ | refine Wx ?_ | refine Wt ?_ | refine Wm ?_ | refine W2m ?_ ?_ | refine Wl ?_)
      | fail)
    rw [wrap_u64 (n := (j : Int)) (by omega) (by omega)]
    refine st_shl rfl rfl (by omega) ?_
    rw [ep']
    refine OpsJ.normA ?_
    repeat' (first
      | ((fail_if_success (first | refine is_ucall ?_ | refine is_umcall ?_)); first | refine W1 ?_ | refine Wc ?_ | refine W2c ?_ ?_ | refine Wg ?_ | refine W2 ?_ ?_ | exact Wdead | refine Wlive (fun hb => ?_) | intro _ _ _ _ _ _ _ _ | refine We ?_ | refine Wx ?_ | refine Wt ?_ | refine Wm ?_ | refine W2m ?_ ?_ | refine Wl ?_)
      | fail)
    rw [hpe]
    refine st_callP (h := Can_spec _ _ _ av (allN m (manyS m).toNat) (p - 1) (hr.ext extA) hal hln (by omega)) (k := ?_)
    rw [hcan]
    refine OpsJ.normA ?_
    cases hs : hasS (upto m (j + 1)) with
    | true =>
      repeat' (first
        | ((fail_if_success (first | refine is_ucall ?_ | refine is_umcall ?_)); first | refine W1 ?_ | refine Wc ?_ | refine W2c ?_ ?_ | refine Wg ?_ | refine W2 ?_ ?_ | exact Wdead | refine Wlive (fun hb => ?_) | intro _ _ _ _ _ _ _ _ | refine We ?_ | refine Wx ?_ | refine Wt ?_ | refine Wm ?_ | refine W2m ?_ ?_ | refine Wl ?_)
        | fail)
      have hx2 : ∀ i < j + 1, hasS (upto m (i + 1)) = true := fun i hi => by
        rcases Nat.lt_or_ge i j with h | h
        · exact hx i h
        · obtain rfl : i = j := by omega
          exact hs
      exact ⟨(), hlt, (by repeat' (first | exact Weak.nil | refine Weak.wild ?_ | refine Weak.same ?_ | refine Weak.intEq (by first | omega | (simp; done) | (push_cast; omega)) ?_)), rfl, rfl, hx2⟩
    | false =>
      have hsome : firstA m = some j := firstS_some hlt (by rw [hs]; rfl) fun k hk => by rw [hx k hk]; rfl
      rw [hsome]
      repeat' (first
        | ((fail_if_success (first | refine is_ucall ?_ | refine is_umcall ?_)); first | refine W1 ?_ | refine Wc ?_ | refine W2c ?_ ?_ | refine Wg ?_ | refine W2 ?_ ?_ | exact Wdead | refine Wlive (fun hb => ?_) | intro _ _ _ _ _ _ _ _ | refine We ?_ | refine Wx ?_ | refine Wt ?_ | refine Wm ?_ | refine W2m ?_ ?_ | refine Wl ?_)
        | fail)
      exact ⟨rfl, rfl, rfl⟩
  · obtain rfl : j = m.reads.length := by omega
    have hnone : firstA m = none := firstS_none fun k hk => by rw [hx k hk]; rfl
    rw [hnone]
    repeat' (first
      | ((fail_if_success (first | refine is_ucall ?_ | refine is_umcall ?_)); first | refine W1 ?_ | refine Wc ?_ | refine W2c ?_ ?_ | refine Wg ?_ | refine W2 ?_ ?_ | exact Wdead | refine Wlive (fun hb => ?_) | intro _ _ _ _ _ _ _ _ | refine We ?_ | refine Wx ?_ | refine Wt ?_ | refine Wm ?_ | refine W2m ?_ ?_ | refine Wl ?_)
      | fail)
    exact ⟨rfl, rfl, rfl⟩
def bestB (m : CopM) : Nat → List Int
  | 0 => bitsN (2 ^ m.reads.length - 1) m.reads.length
  | j + 1 => if shorterS (bitsN j m.reads.length) (bestB m j) && okWithout m (bitsN j m.reads.length) then bitsN j m.reads.length else bestB m j
theorem best_facts {m : CopM} (hG : Good m) : ∀ j, j ≤ 2 ^ m.reads.length → okWithout m (bestB m j) = true ∧ (∃ c, c < 2 ^ m.reads.length ∧ bestB m j = bitsN c m.reads.length) ∧ ∀ c, c < j → okWithout m (bitsN c m.reads.length) = true → shorterS (bitsN c m.reads.length) (bestB m j) = false
  | 0, _ => ⟨full_ok hG, ⟨2 ^ m.reads.length - 1, by have := Nat.two_pow_pos m.reads.length; omega, rfl⟩, fun c h => by omega⟩
  | j + 1, hj => by
    obtain ⟨h1, h2, h3⟩ := best_facts hG j (by omega)
    unfold bestB
    cases hs : shorterS (bitsN j m.reads.length) (bestB m j) && okWithout m (bitsN j m.reads.length) with
    | true =>
      rw [if_pos rfl]
      rw [Bool.and_eq_true] at hs
      refine ⟨hs.2, ⟨j, by omega, rfl⟩, fun c hc hok => ?_⟩
      rcases Nat.lt_or_ge c j with h | h
      · cases hx : shorterS (bitsN c m.reads.length) (bitsN j m.reads.length) with
        | false => rfl
        | true => rw [← h3 c h hok, shorter_trans hx hs.1]
      · obtain rfl : c = j := by omega
        exact shorter_irr _
    | false =>
      rw [if_neg (by simp)]
      refine ⟨h1, h2, fun c hc hok => ?_⟩
      rcases Nat.lt_or_ge c j with h | h
      · exact h3 c h hok
      · obtain rfl : c = j := by omega
        rw [hok, Bool.and_true] at hs
        exact hs
theorem best_leave {m : CopM} (hG : Good m) : bestB m (2 ^ m.reads.length) = leaveS m := by
  obtain ⟨h1, ⟨c, hc, h2⟩, h3⟩ := best_facts hG _ (Nat.le_refl _)
  obtain ⟨k1, ⟨s, hs, hss⟩, k3⟩ := leave_least hG
  obtain ⟨b1, b2⟩ := bits_of_sub hss
  rw [← hs] at b2
  have e1 := h3 _ b1 (by rw [b2]; exact k1)
  have e2 := k3 c (by rw [← h2]; exact h1)
  rw [b2] at e1
  rw [← h2] at e2
  rcases shorter_total (bestB m (2 ^ m.reads.length)) (leaveS m) with h | h | h
  · rw [h] at e2; cases e2
  · exact h
  · rw [h] at e1; cases e1
theorem LeaveR_spec (m : CopM) (s1 s2 s3 s4 av : Value) (hm : CopY H m s1 s2 s3 s4) (hG : Good m) (hr : RdS H av 1 (encI (natI (allN m (manyS m).toNat)))) :
    CallJ Try.prog E 51 [cv m s1 s2 s3 s4, av] (fun v H' g' => (RdS H' v 1 (encI (leaveS m)) ∧ Ext H H') ∧ g' = g) H g := by
  have hok := hm.cells
  have hnr := hG.nr
  have hb30 : m.reads.length ≤ 30 := by omega
  have hM : (manyS m).toNat ≤ 3000 := by have := manyS_eq m; omega
  have hal := all_lt hG (manyS m).toNat
  have hln : (allN m (manyS m).toNat).length ≤ 1000000 := by have := allN_len m (manyS m).toNat; simp [natI] at this; omega
  have hp2 : 2 ^ m.reads.length ≤ 2 ^ 5 := Nat.pow_le_pow_right (by decide) hnr
  have hp1 : 1 ≤ 2 ^ m.reads.length := Nat.two_pow_pos _
  have hB := fun j => best_facts hG (m := m) j
  have hLe := best_leave hG
  obtain ⟨K, hK⟩ : ∃ K, K = 2 ^ m.reads.length := ⟨_, rfl⟩
  unfold cv
  refine CallJ.enter Try.func51 rfl (by simp only [Try.ntmps51, List.length_cons, List.length_nil, Nat.zero_add, Nat.reduceAdd, Nat.reduceSub, List.replicate_succ, List.replicate_zero, List.cons_append, List.nil_append]; rfl) ?_
  repeat' (first
    | ((fail_if_success (first | refine is_ucall ?_ | refine is_umcall ?_)); first | refine W1 ?_ | refine Wc ?_ | refine W2c ?_ ?_ | refine Wg ?_ | refine W2 ?_ ?_ | exact Wdead | refine Wlive (fun hb => ?_) | intro _ _ _ _ _ _ _ _ | refine We ?_ | refine Wx ?_ | refine Wt ?_ | refine Wm ?_ | refine W2m ?_ ?_ | refine Wl ?_)
    | fail)
  refine st_callP (h := Full_spec _ _ _ m s1 s2 s3 s4 (hm.ext extA) hb30) (k := ?_)
  refine OpsJ.normA ?_
  repeat' (first
    | ((fail_if_success (first | refine is_ucall ?_ | refine is_umcall ?_)); first | refine W1 ?_ | refine Wc ?_ | refine W2c ?_ ?_ | refine Wg ?_ | refine W2 ?_ ?_ | exact Wdead | refine Wlive (fun hb => ?_) | intro _ _ _ _ _ _ _ _ | refine We ?_ | refine Wx ?_ | refine Wt ?_ | refine Wm ?_ | refine W2m ?_ ?_ | refine Wl ?_)
    | fail)
  refine st_call rfl (BitsR _ _ _ (2 ^ m.reads.length - 1) m.reads.length (by omega) hb30) ?_
  rintro bv H1 g ⟨⟨hb0, x1⟩, rfl⟩
  have hx : Ext H H1 := (show Ext H _ from ⟨_, rfl⟩).trans x1
  have hbx := x1.get (i := H.length) (o := .row (ccells m s1 s2 s3 s4) 1 true) (by simp)
  clear x1
  refine OpsJ.normA ?_
  repeat' (first
    | ((fail_if_success (first | refine is_ucall ?_ | refine is_umcall ?_)); first | refine W1 ?_ | refine Wc ?_ | refine W2c ?_ ?_ | refine Wg ?_ | refine W2 ?_ ?_ | exact Wdead | refine Wlive (fun hb => ?_) | intro _ _ _ _ _ _ _ _ | refine We ?_ | refine Wx ?_ | refine Wt ?_ | refine Wm ?_ | refine W2m ?_ ?_ | refine Wl ?_)
    | fail)
  refine WPJ.loopT K [7, 11, 12, 13, 14, 17, 18, 19, 20, 21, 22, 23, 24, 25, 26, 27, 28, 29, 30, 15, 16] (fun j (v : Value) => [(6, .int .i64 j), (5, v)])
    (fun j v H2 g2 => g2 = g ∧ Ext H H2 ∧ H2[H.length]? = some (.row (ccells m s1 s2 s3 s4) 1 true) ∧ RdS H2 v 1 (encI (bestB m j))) 0 bv (Nat.zero_le _)
    (by intro p hp; simp at hp; rcases hp with rfl | rfl <;> rfl) ⟨rfl, hx, hbx, hb0⟩ ?_
  rintro j v H2 g2 hj ⟨rfl, x2, hb2, hv⟩ hl0
  simp only [updT, maskT, List.set_cons_zero, List.set_cons_succ]
  clear hx hbx hb0
  have hKe : ((2 ^ m.reads.length - 1 : Nat) : Int) = (K : Int) - 1 := by omega
  repeat' (first
    | ((fail_if_success (first | refine is_ucall ?_ | refine is_umcall ?_)); first | refine W1 ?_ | refine Wc ?_ | refine W2c ?_ ?_ | refine Wg ?_ | refine W2 ?_ ?_ | exact Wdead | refine Wlive (fun hb => ?_) | intro _ _ _ _ _ _ _ _ | refine We ?_ | refine Wx ?_ | refine Wt ?_ | refine Wm ?_ | refine W2m ?_ ?_ | refine Wl ?_)
    | fail)
  refine st_callP (h := Full_spec _ _ _ m s1 s2 s3 s4 (hm.ext x2) hb30) (k := ?_)
  rw [hKe]
  refine OpsJ.normA ?_
  rcases Nat.lt_or_ge j K with hlt | hge
  · obtain ⟨f1, ⟨c, hc, f2⟩, f3⟩ := hB j (by omega)
    have hbl : (bestB m j).length ≤ 1000000 := by rw [f2]; have := bitsN_len c m.reads.length; omega
    have hjl : (bitsN j m.reads.length).length ≤ 1000000 := by have := bitsN_len j m.reads.length; omega
    have hstep : bestB m (j + 1) = if shorterS (bitsN j m.reads.length) (bestB m j) && okWithout m (bitsN j m.reads.length) then bitsN j m.reads.length else bestB m j := rfl
    have hcan := cans_has hG (b := (2 ^ m.reads.length - 1) ^^^ j) (Nat.xor_lt_two_pow (by omega) (by omega))
    rw [sub_not (by omega)] at hcan
    have hand := and_not hb30 (c := j) (by omega)
    rw [hKe] at hand
    have hxl : (2 ^ m.reads.length - 1) ^^^ j < 2 ^ 30 := Nat.lt_of_lt_of_le (Nat.xor_lt_two_pow (n := m.reads.length) (by omega) (by omega)) (Nat.pow_le_pow_right (by decide) hb30)
    generalize (2 ^ m.reads.length - 1) ^^^ j = z at *
    clear f1 f2 f3 hc hB hLe
    repeat' (first
      | ((fail_if_success (first | refine is_ucall ?_ | refine is_umcall ?_)); first | refine W1 ?_ | refine Wc ?_ | refine W2c ?_ ?_ | refine Wg ?_ | refine W2 ?_ ?_ | exact Wdead | refine Wlive (fun hb => ?_) | intro _ _ _ _ _ _ _ _ | refine We ?_ | refine Wx ?_ | refine Wt ?_ | refine Wm ?_ | refine W2m ?_ ?_ | refine Wl ?_)
      | fail)
    refine st_call rfl (BitsR _ _ _ j m.reads.length (by omega) hb30) ?_
    rintro nv H3 g ⟨⟨hn3, x3⟩, rfl⟩
    have x4 := x2.trans x3
    replace hb2 := x3.get hb2
    replace hv := hv.ext x3
    clear x2 x3
    refine OpsJ.normA ?_
    repeat' (first
      | ((fail_if_success (first | refine is_ucall ?_ | refine is_umcall ?_)); first | refine W1 ?_ | refine Wc ?_ | refine W2c ?_ ?_ | refine Wg ?_ | refine W2 ?_ ?_ | exact Wdead | refine Wlive (fun hb => ?_) | intro _ _ _ _ _ _ _ _ | refine We ?_ | refine Wx ?_ | refine Wt ?_ | refine Wm ?_ | refine W2m ?_ ?_ | refine Wl ?_)
      | fail)
    refine st_callP (h := Shorter_spec _ _ _ nv v _ _ hn3 hv hjl hbl) (k := ?_)
    cases hs : shorterS (bitsN j m.reads.length) (bestB m j) with
    | false =>
      rw [hs, Bool.false_and, if_neg (by simp)] at hstep
      refine OpsJ.normA ?_
      repeat' (first
        | ((fail_if_success (first | refine is_ucall ?_ | refine is_umcall ?_)); first | refine W1 ?_ | refine Wc ?_ | refine W2c ?_ ?_ | refine Wg ?_ | refine W2 ?_ ?_ | exact Wdead | refine Wlive (fun hb => ?_) | intro _ _ _ _ _ _ _ _ | refine We ?_ | refine Wx ?_ | refine Wt ?_ | refine Wm ?_ | refine W2m ?_ ?_ | refine Wl ?_)
        | fail)
      exact ⟨v, hlt, (by repeat' (first | exact Weak.nil | refine Weak.wild ?_ | refine Weak.same ?_ | refine Weak.intEq (by first | omega | (simp; done) | (push_cast; omega)) ?_)), rfl, x4, hb2, by rw [hstep]; exact hv⟩
    | true =>
      refine OpsJ.normA ?_
      repeat' (first
        | ((fail_if_success (first | refine is_ucall ?_ | refine is_umcall ?_)); first | refine W1 ?_ | refine Wc ?_ | refine W2c ?_ ?_ | refine Wg ?_ | refine W2 ?_ ?_ | exact Wdead | refine Wlive (fun hb => ?_) | intro _ _ _ _ _ _ _ _ | refine We ?_ | refine Wx ?_ | refine Wt ?_ | refine Wm ?_ | refine W2m ?_ ?_ | refine Wl ?_)
        | fail)
      refine st_callP (h := Full_spec _ _ _ m s1 s2 s3 s4 (hm.ext x4) hb30) (k := ?_)
      rw [hKe]
      refine OpsJ.normA ?_
      repeat' (first
        | ((fail_if_success (first | refine is_ucall ?_ | refine is_umcall ?_)); first | refine W1 ?_ | refine Wc ?_ | refine W2c ?_ ?_ | refine Wg ?_ | refine W2 ?_ ?_ | exact Wdead | refine Wlive (fun hb => ?_) | intro _ _ _ _ _ _ _ _ | refine We ?_ | refine Wx ?_ | refine Wt ?_ | refine Wm ?_ | refine W2m ?_ ?_ | refine Wl ?_)
        | fail)
      have hand' : IntKind.i64.wrap ((BitVec.ofInt IntKind.i64.bits ((K : Int) - 1) &&& ~~~BitVec.ofInt IntKind.i64.bits (j : Int)).toNat : Int) = (z : Int) := Option.some.inj hand
      rw [hand']
      refine st_callP (h := Can_spec _ _ _ av (allN m (manyS m).toNat) z (hr.ext x4) hal hln hxl) (k := ?_)
      rw [hcan]
      cases ho : hasS (without m (bitsN j m.reads.length)) with
      | false =>
        have hok2 : okWithout m (bitsN j m.reads.length) = false := ho
        rw [hok2, Bool.and_false, if_neg (by simp)] at hstep
        refine OpsJ.normA ?_
        repeat' (first
          | ((fail_if_success (first | refine is_ucall ?_ | refine is_umcall ?_)); first | refine W1 ?_ | refine Wc ?_ | refine W2c ?_ ?_ | refine Wg ?_ | refine W2 ?_ ?_ | exact Wdead | refine Wlive (fun hb => ?_) | intro _ _ _ _ _ _ _ _ | refine We ?_ | refine Wx ?_ | refine Wt ?_ | refine Wm ?_ | refine W2m ?_ ?_ | refine Wl ?_)
          | fail)
        exact ⟨v, hlt, (by repeat' (first | exact Weak.nil | refine Weak.wild ?_ | refine Weak.same ?_ | refine Weak.intEq (by first | omega | (simp; done) | (push_cast; omega)) ?_)), rfl, x4, hb2, by rw [hstep]; exact hv⟩
      | true =>
        have hok2 : okWithout m (bitsN j m.reads.length) = true := ho
        rw [hs, hok2, Bool.and_true, if_pos rfl] at hstep
        refine OpsJ.normA ?_
        repeat' (first
          | ((fail_if_success (first | refine is_ucall ?_ | refine is_umcall ?_)); first | refine W1 ?_ | refine Wc ?_ | refine W2c ?_ ?_ | refine Wg ?_ | refine W2 ?_ ?_ | exact Wdead | refine Wlive (fun hb => ?_) | intro _ _ _ _ _ _ _ _ | refine We ?_ | refine Wx ?_ | refine Wt ?_ | refine Wm ?_ | refine W2m ?_ ?_ | refine Wl ?_)
          | fail)
        exact ⟨nv, hlt, (by repeat' (first | exact Weak.nil | refine Weak.wild ?_ | refine Weak.same ?_ | refine Weak.intEq (by first | omega | (simp; done) | (push_cast; omega)) ?_)), rfl, x4, hb2, by rw [hstep]; exact hn3⟩
  · obtain rfl : j = K := by omega
    rw [← hK] at hLe
    rw [hLe] at hv
    repeat' (first
      | ((fail_if_success (first | refine is_ucall ?_ | refine is_umcall ?_)); first | refine W1 ?_ | refine Wc ?_ | refine W2c ?_ ?_ | refine Wg ?_ | refine W2 ?_ ?_ | exact Wdead | refine Wlive (fun hb => ?_) | intro _ _ _ _ _ _ _ _ | refine We ?_ | refine Wx ?_ | refine Wt ?_ | refine Wm ?_ | refine W2m ?_ ?_ | refine Wl ?_)
      | fail)
    exact ⟨⟨hv, x2⟩, rfl⟩
end
end Go.Proofs.Ytjbiidlmpaibkaa
