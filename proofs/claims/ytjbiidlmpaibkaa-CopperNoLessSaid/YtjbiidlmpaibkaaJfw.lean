import Derived.Test.YtjbiidlmpaibkaaJdw
import Derived.Test.YtjbiidlmpaibkaaJew
namespace Go.Proofs.Ytjbiidlmpaibkaa
open Go Go.Abs Go.Proofs
set_option maxHeartbeats 8000000
set_option maxRecDepth 20000
attribute [local irreducible] CallJ OpsJ WPJ CallV MonoJ SpecJ

theorem verdict_always (l : List (Int × List Int)) (p : Int × List Int → Bool) : verdictS l p = 1 ↔ l.all p = true := by
  unfold verdictS
  cases l.all p <;> simp
  split <;> simp
theorem CoalOk.forH {m : CopM} (hG : Good m) {l : List Int} (h : CoalOk m l) : forHours m l m.shovels = true := by
  have hnl := (hrs_le hG.w).2
  simp only [forHours, inR, Bool.and_eq_true, List.all_eq_true, decide_eq_true_eq]
  exact ⟨by rw [h.1]; omega, fun x hx => h.2 x hx⟩
theorem own_ok {m : CopM} (hG : Good m) : CoalOk m m.coal := ⟨hG.w.cl, hG.cs⟩
theorem tok0 {m : CopM} (hG : Good m) : ∀ t ∈ truthsL m, 0 ≤ t.1 := fun t ht => (hG.valid.tok t (List.mem_filter.1 ht).1).h.1
theorem coalB_sure {m : CopM} (hG : Good m) (hT : checkT m = 0) {l : List Int} (h : CoalOk m l) {n : Int} (hn : sumL l ≤ n) : coalB m l n = sureQ m l := by
  unfold coalB sureQ
  rw [decide_eq_true hT, h.forH hG, decide_eq_true hn, Bool.true_and, Bool.true_and, Bool.true_and]
theorem coalB_not {m : CopM} (hT : checkT m ≠ 0) (l : List Int) (n : Int) : coalB m l n = false := by
  unfold coalB
  rw [decide_eq_false hT]; rfl
theorem lacks_sure {m : CopM} (hG : Good m) : (lacksF m (hrs m)).isNone = sureQ m m.coal := by
  rw [Bool.eq_iff_iff, Option.isNone_iff_eq_none]
  unfold lacksF sureQ
  rw [List.find?_eq_none, List.all_eq_true]
  have key : ∀ j < hrs m, (keepsL m).getD j 0 = 1 ↔ ∀ t ∈ truthsL m, keepQ m j t = true := by
    intro j hj
    rw [← List.all_eq_true, ← verdict_always]
    unfold keepsL
    simp [List.getD, hj]
  constructor
  · intro h t ht
    show keptT m t = true
    rw [kept_each hG.w, List.all_eq_true]
    intro j hj
    have hj' := List.mem_range.1 hj
    have h1 := h j hj
    simp only [ne_eq, decide_not, Bool.not_eq_true', decide_eq_false_iff_not, Decidable.not_not] at h1
    exact (key j hj').1 h1 t ht
  · intro h j hj
    have hj' := List.mem_range.1 hj
    simp only [ne_eq, decide_not, Bool.not_eq_true', decide_eq_false_iff_not, Decidable.not_not]
    refine (key j hj').2 fun t ht => ?_
    have h1 : keptT m t = true := h t ht
    rw [kept_each hG.w, List.all_eq_true] at h1
    exact h1 j hj
section
variable {P : Program} {T : List Value} {H : AHeap} {R : List Value → AHeap → Prop} {ops : Array Oper} {dst : Option Tmp} {ty : TypeId} {ps : String} {af : Array Edge} {rest : List Oper} {mm : Nat} {xs : Array Operand} {at_ : Array TypeId}
theorem mj_copperN {m : CopM} {s1 s2 s3 s4 : Value} (ha : evalL T xs.toList = [cv m s1 s2 s3 s4]) (hm : CopY H m s1 s2 s3 s4) (hb3 : m.loss.length ≤ 1000) (hb4 : m.reads.length ≤ 1000)
    (k : ∀ H' t1 t2 t3 t4, CopIs H' m t1 t2 t3 t4 → Ext H H' → MonoJ Try.prog ops R mm rest (putT T dst (cv m t1 t2 t3 t4)) H') : MonoJ Try.prog ops R (mm + 1) (⟨dst, .call { callee := .value (.func 22), args := xs, argTypes := at_ }, ty, ps, af, none⟩ :: rest) T H :=
  mj_callL (ha := ha) (h := CopperO_spec trivE () H m s1 s2 s3 s4 hm hb3 hb4) (hL := copL_own m) (k := k _ _ _ _ _ (cop_madeO H m hm.n1 hm.n2 hm.n3 hm.n4) ⟨_, rfl⟩)
theorem mj_list {sv : Value} {l : List Int} (ha : evalL T xs.toList = [sv]) (hr : RdS H sv 1 (encI l)) (hn : l.length ≤ 1000000)
    (k : ∀ H' tv, RdS H' tv 1 (encI l) → Ext H H' → MonoJ Try.prog ops R mm rest (putT T dst tv) H') : MonoJ Try.prog ops R (mm + 1) (⟨dst, .call { callee := .value (.func 40), args := xs, argTypes := at_ }, ty, ps, af, none⟩ :: rest) T H :=
  mj_callL (ha := ha) (h := list_spec trivE () H sv l hr hn) (hL := rfl) (k := k _ _ (rd_encE (own := true) List.getElem?_concat_length (List.take_of_length_le (by simp [encE]))) ⟨_, rfl⟩)
theorem mj_coal {m : CopM} {s1 s2 s3 s4 : Value} {z : Int} {n : Nat} (ha : evalL T xs.toList = [cv m s1 s2 s3 s4, .int .i64 z]) (hz : z = (n : Int)) (hok : (ccells m s1 s2 s3 s4).all cellOk = true) (hG : Good m) (hn : n ≤ 1000000)
    (k : ∀ H' tv, RdS H' tv 1 (encI (coalN m n)) → Ext H H' → MonoJ Try.prog ops R mm rest (putT T dst tv) H') : MonoJ Try.prog ops R (mm + 1) (⟨dst, .call { callee := .value (.func 66), args := xs, argTypes := at_ }, ty, ps, af, none⟩ :: rest) T H := by
  subst hz
  have hl : (coalN m n).length = hrs m := by simp [coalN]
  have hr := rd_encE (own := true) (cap := hrs m) (H := H ++ [.row (encE (coalN m n)) 1 true]) (s := coalN m n) List.getElem?_concat_length (List.take_of_length_le (by simp [encE]))
  rw [hl] at hr
  exact mj_callL (ha := ha) (h := Coal_spec trivE () H m s1 s2 s3 s4 n hok hG.w hG.sh.1 hG.sh.2 hn) (hL := rfl) (k := k _ _ hr ⟨_, rfl⟩)
end
section
variable {γ : Type} (E : Env γ) (g : γ) (H : AHeap)
theorem list_w (sv : Value) (l : List Int) (hr : RdS H sv 1 (encI l)) (hn : l.length ≤ 1000000) : CallJ Try.prog E 40 [sv] (fun v H' g' => (RdS H' v 1 (encI l) ∧ Ext H H') ∧ g' = g) H g :=
  (list_spec E g H sv l hr hn).mono (by
    rintro v H' g' ⟨rfl, rfl, rfl⟩
    exact ⟨⟨rd_encE (own := true) List.getElem?_concat_length (List.take_of_length_le (by simp [encE])), ⟨_, rfl⟩⟩, rfl⟩)
theorem LeastW_spec (m : CopM) (s1 s2 s3 s4 : Value) (hm : CopIs H m s1 s2 s3 s4) : CallJ Try.prog E 55 [cv m s1 s2 s3 s4] (fun v H' g' => (∃ sv, v = .tuple #[sv, .int .i64 (leastE m)] ∧ (leastE m = 0 → RdS H' sv 1 (encI (leastL m))) ∧ Ext H H') ∧ g' = g) H g :=
  (Least_spec E g H m s1 s2 s3 s4 hm).mono (by
    rintro v H' g' ⟨h, rfl⟩
    unfold IntsA at h
    by_cases hS : leastE m = 0
    · rw [if_pos hS] at h
      obtain ⟨rfl, rfl⟩ := h
      exact ⟨⟨_, by rw [hS], fun _ => rd_encE (own := true) List.getElem?_concat_length (List.take_of_length_le (by simp [encE])), ⟨_, rfl⟩⟩, rfl⟩
    · rw [if_neg hS] at h
      obtain ⟨rfl, rfl⟩ := h
      exact ⟨⟨_, rfl, fun hz => absurd hz hS, Ext.refl _⟩, rfl⟩)
theorem noless_law (m : CopM) (s1 s2 s3 s4 : Value) (w : Int) (hm : CopZ H m s1 s2 s3 s4) (hw : 0 ≤ w ∧ w ≤ 65535) : CallJ Try.prog E 13 [cv m s1 s2 s3 s4, .int .u16 w] (fun v H' g' => v = .bool true ∧ H' = H ∧ g' = g) H g := by
  have hok := hm.cells
  refine CallJ.tidy ?_
  unfold cv
  refine CallJ.enter Try.func13 rfl (by simp only [Try.ntmps13, List.length_cons, List.length_nil, Nat.zero_add, Nat.reduceAdd, Nat.reduceSub, List.replicate_succ, List.replicate_zero, List.cons_append, List.nil_append]; rfl) ?_
  repeat' (first
    | (refine is_ucall ?_; first
      | refine st_callP (h := readyZ_spec _ _ _ m s1 s2 s3 s4 (hm.ext extA)) (k := ?_)
      | refine st_callP (h := awake_spec _ _ _) (k := ?_)
      | fail)
    | (refine is_umcall ?_; first
      | refine mj_callP (h := readyZ_spec _ _ _ m s1 s2 s3 s4 (hm.ext extA)) (k := ?_)
      | refine mj_callP (h := awake_spec _ _ _) (k := ?_)
      | fail)
    | ((fail_if_success (first | refine is_ucall ?_ | refine is_umcall ?_)); first | refine W1 ?_ | refine Wc ?_ | refine W2c ?_ ?_ | refine Wg ?_ | refine W2 ?_ ?_ | exact Wdead | refine Wlive (fun hb => ?_) | intro _ _ _ _ _ _ _ _ | refine We ?_ | refine Wx ?_ | refine Wt ?_ | refine Wm ?_ | refine W2m ?_ ?_ | refine Wl ?_)
    | fail)
  · exact ⟨rfl, rfl, rfl⟩
  · have hr : thinS m = true ∧ checkS m = 0 := by assumption
    have hI := hm.is hr.1
    have hG := good_of hr.2
    have hN := hG.nr
    obtain ⟨hn5, hnl⟩ := hrs_le hG.w
    have hll := hG.ll
    obtain ⟨hC1, hC2⟩ := coals_bd (s := m.shovels.toNat) (k := hrs m) (by have := hG.sh; omega) hn5
    have hwr : IntKind.i64.wrap w = ((w.toNat : Nat) : Int) := by rw [wrap64_eq ⟨by omega, by omega⟩]; omega
    have hrem : ((w.toNat : Nat) : Int).tmod (((m.shovels.toNat + 1) ^ hrs m : Nat) : Int) = ((w.toNat % (m.shovels.toNat + 1) ^ hrs m : Nat) : Int) := rfl
    have hml : w.toNat % (m.shovels.toNat + 1) ^ hrs m < (m.shovels.toNat + 1) ^ hrs m := Nat.mod_lt _ (by omega)
    have hfull : CoalOk m (coalN m ((m.shovels.toNat + 1) ^ hrs m - 1)) := coalN_ok hG.sh.1 _
    have hfg := coalN_full (m := m) hG.sh.1 hG.sh.2 hn5
    have hcs := fun (E' : Env Unit) (H' : AHeap) => Coals_spec E' () H' m s1 s2 s3 s4 hok hG.w hG.sh.1 hG.sh.2
    have htr : CoalOk m (coalN m (w.toNat % (m.shovels.toNat + 1) ^ hrs m)) := coalN_ok hG.sh.1 _
    generalize w.toNat % (m.shovels.toNat + 1) ^ hrs m = n at *
    generalize (m.shovels.toNat + 1) ^ hrs m = C at *
    have hsh := hG.sh
    have h0 := tok0 hG
    have htl : (coalN m n).length ≤ 1000000 := by rw [htr.1]; omega
    have hsm : ∀ l, CoalOk m l → sumL l ≤ 99 := fun l hl => by
      have h1 := (sumL_nn l hl.2).2
      have h2 := Int.mul_le_mul hsh.2 (show ((l.length : Nat) : Int) ≤ 5 by rw [hl.1]; omega) (by omega) (by omega)
      omega
    -- what the calls answer
    obtain ⟨ev, hev⟩ : ∃ x, x = leastE m := ⟨_, rfl⟩
    obtain ⟨iv, hiv⟩ : ∃ x, x = coalB m (coalN m n) 99 := ⟨_, rfl⟩
    obtain ⟨ov, hov⟩ : ∃ x, x = coalB m m.coal 99 := ⟨_, rfl⟩
    obtain ⟨nv, fv, hL, key⟩ : ∃ nv fv : Int, (∀ (g' : γ) (H' : AHeap) (u1 u2 u3 u4 : Value), CopIs H' m u1 u2 u3 u4 → CallJ Try.prog E 36 [cv m u1 u2 u3 u4] (fun v H2 g2 => v = .tuple #[.int .i64 nv, .int .i64 fv] ∧ H2 = H' ∧ g2 = g') H' g') ∧
        ((fv = 11 ∧ ov = false ∧ ev = 11 ∧ iv = false) ∨ (fv = 0 ∧ ov = false ∧ ev = 10 ∧ iv = false) ∨
          (ev = 0 ∧ ((fv = 7 ∧ ov = true) ∨ (fv = 0 ∧ ov = false)) ∧ CoalOk m (leastL m) ∧ coalB m (leastL m) (sumL (leastL m)) = true ∧ coalB m (coalN m (C - 1)) 99 = true ∧
            (iv = false ∨ (iv = true ∧ sumL (leastL m) < sumL (coalN m n)) ∨ (iv = true ∧ sumL (coalN m n) = sumL (leastL m) ∧ beforeS (coalN m n) (leastL m) = false)))) := by
      have hT := checkT_good hG
      cases hs : hasS m with
      | false =>
        rw [hs] at hT
        have hT : checkT m = 11 := hT
        have hn0 : checkT m ≠ 0 := by rw [hT]; decide
        refine ⟨0, 11, fun g' H' u1 u2 u3 u4 hu => ?_, .inl ⟨rfl, by rw [hov]; exact coalB_not hn0 _ _, by rw [hev]; unfold leastE; rw [if_neg hn0, hT], by rw [hiv]; exact coalB_not hn0 _ _⟩⟩
        have := Lacks_spec E g' H' m u1 u2 u3 u4 hu
        rw [if_neg hn0, hT] at this
        exact this
      | true =>
        rw [hs] at hT
        have hT : checkT m = 0 := hT
        have hI2 := coalB_sure hG hT htr (hsm _ htr)
        have hO2 := coalB_sure hG hT (own_ok hG) (hsm _ (own_ok hG))
        have hls := lacks_sure hG
        have hlk : ∃ nv fv : Int, (∀ (g' : γ) (H' : AHeap) (u1 u2 u3 u4 : Value), CopIs H' m u1 u2 u3 u4 → CallJ Try.prog E 36 [cv m u1 u2 u3 u4] (fun v H2 g2 => v = .tuple #[.int .i64 nv, .int .i64 fv] ∧ H2 = H' ∧ g2 = g') H' g') ∧ ((fv = 7 ∧ ov = true) ∨ (fv = 0 ∧ ov = false)) := by
          cases hf : lacksF m (hrs m) with
          | none =>
            rw [hf] at hls
            refine ⟨0, 7, fun g' H' u1 u2 u3 u4 hu => ?_, .inl ⟨rfl, by rw [hov, hO2, ← hls]; rfl⟩⟩
            have := Lacks_spec E g' H' m u1 u2 u3 u4 hu
            rw [if_pos hT, hf] at this
            exact this
          | some j =>
            rw [hf] at hls
            refine ⟨j, 0, fun g' H' u1 u2 u3 u4 hu => ?_, .inr ⟨rfl, by rw [hov, hO2, ← hls]; rfl⟩⟩
            have := Lacks_spec E g' H' m u1 u2 u3 u4 hu
            rw [if_pos hT, hf] at this
            exact this
        obtain ⟨nv, fv, hL, hfo⟩ := hlk
        refine ⟨nv, fv, hL, .inr ?_⟩
        cases hl : leastO m with
        | none =>
          left
          have hno := fun l hl' => least_none hG.w hsh.1 hsh.2 h0 hl (l := l) hl'
          have ho : ov = false := by rw [hov, hO2]; exact hno _ (own_ok hG)
          refine ⟨?_, ho, by rw [hev]; unfold leastE; rw [if_pos hT, hl]; rfl, by rw [hiv, hI2]; exact hno _ htr⟩
          rcases hfo with ⟨_, h⟩ | ⟨h, _⟩
          · rw [ho] at h; cases h
          · exact h
        | some es =>
          right
          obtain ⟨q1, q2, q3⟩ := least_some hG.w hsh.2 h0 hl
          refine ⟨by rw [hev]; unfold leastE; rw [if_pos hT, hl]; rfl, hfo, q1, ?_, ?_, ?_⟩
          · rw [coalB_sure hG hT q1 (Int.le_refl _)]; exact q2
          · rw [coalB_sure hG hT hfull (hsm _ hfull)]
            refine sure_more hG.w hsh.2 h0 q1 hfull (fun j => ?_) q2
            rcases Nat.lt_or_ge j (hrs m) with hj | hj
            · rw [hfg j hj]
              exact (getD_bd (a := 0) (b := m.shovels) q1.2 ⟨Int.le_refl _, hsh.1⟩ j).2
            · simp only [List.getD]
              rw [List.getElem?_eq_none (by rw [q1.1]; exact hj), List.getElem?_eq_none (by rw [hfull.1]; exact hj)]
              exact Int.le_refl _
          · rw [hiv, hI2]
            cases hq : sureQ m (coalN m n) with
            | false => exact .inl rfl
            | true =>
              obtain ⟨r1, r2⟩ := q3 _ htr hq
              rcases Int.lt_or_eq_of_le r1 with h | h
              · exact .inr (.inl ⟨rfl, h⟩)
              · exact .inr (.inr ⟨rfl, h.symm, r2 h.symm⟩)
    have hll5 : (coalN m (C - 1)).length ≤ 1000000 := by rw [hfull.1]; omega
    clear hsm h0 hfg
    refine WPJ.draw 14 mixed (by kernel_rfl) (by kernel_rfl) (by kernel_rfl) (by decide) ?_
    refine MonoJ.normA ?_
    repeat' (first
      | (refine is_ucall ?_; first
        | refine st_callP (h := readyZ_spec _ _ _ m s1 s2 s3 s4 (hm.ext extA)) (k := ?_)
        | refine st_callP (h := awake_spec _ _ _) (k := ?_)
        | fail)
      | (refine is_umcall ?_; first
        | refine mj_callP (h := readyZ_spec _ _ _ m s1 s2 s3 s4 (hm.ext extA)) (k := ?_)
        | refine mj_callP (h := awake_spec _ _ _) (k := ?_)
        | fail)
      | ((fail_if_success (first | refine is_ucall ?_ | refine is_umcall ?_)); first | refine W1 ?_ | refine Wc ?_ | refine W2c ?_ ?_ | refine Wg ?_ | refine W2 ?_ ?_ | exact Wdead | refine Wlive (fun hb => ?_) | intro _ _ _ _ _ _ _ _ | refine We ?_ | refine Wx ?_ | refine Wt ?_ | refine Wm ?_ | refine W2m ?_ ?_ | refine Wl ?_)
      | fail)
    refine mj_callP (h := hcs _ _) (k := ?_)
    rw [hwr]
    refine MonoJ.normA ?_
    repeat' (first
      | (refine is_ucall ?_; first
        | refine st_callP (h := readyZ_spec _ _ _ m s1 s2 s3 s4 (hm.ext extA)) (k := ?_)
        | refine st_callP (h := awake_spec _ _ _) (k := ?_)
        | fail)
      | (refine is_umcall ?_; first
        | refine mj_callP (h := readyZ_spec _ _ _ m s1 s2 s3 s4 (hm.ext extA)) (k := ?_)
        | refine mj_callP (h := awake_spec _ _ _) (k := ?_)
        | fail)
      | ((fail_if_success (first | refine is_ucall ?_ | refine is_umcall ?_)); first | refine W1 ?_ | refine Wc ?_ | refine W2c ?_ ?_ | refine Wg ?_ | refine W2 ?_ ?_ | exact Wdead | refine Wlive (fun hb => ?_) | intro _ _ _ _ _ _ _ _ | refine We ?_ | refine Wx ?_ | refine Wt ?_ | refine Wm ?_ | refine W2m ?_ ?_ | refine Wl ?_)
      | fail)
    rw [hrem]
    refine mj_coal (n := n) rfl rfl hok hG (by omega) ?_
    intro H1 tv hrt e1
    have hb1 : H1[H.length]? = some (.row (ccells m s1 s2 s3 s4) 1 true) := e1.get getA
    have x1 : Ext H H1 := Ext.trans extA e1
    clear e1
    refine MonoJ.normA ?_
    repeat' (first
      | (refine is_ucall ?_; first
        | refine st_callP (h := readyZ_spec _ _ _ m s1 s2 s3 s4 (hm.ext extA)) (k := ?_)
        | refine st_callP (h := awake_spec _ _ _) (k := ?_)
        | fail)
      | (refine is_umcall ?_; first
        | refine mj_callP (h := readyZ_spec _ _ _ m s1 s2 s3 s4 (hm.ext extA)) (k := ?_)
        | refine mj_callP (h := awake_spec _ _ _) (k := ?_)
        | fail)
      | ((fail_if_success (first | refine is_ucall ?_ | refine is_umcall ?_)); first | refine W1 ?_ | refine Wc ?_ | refine W2c ?_ ?_ | refine Wg ?_ | refine W2 ?_ ?_ | exact Wdead | refine Wlive (fun hb => ?_) | intro _ _ _ _ _ _ _ _ | refine We ?_ | refine Wx ?_ | refine Wt ?_ | refine Wm ?_ | refine W2m ?_ ?_ | refine Wl ?_)
      | fail)
    refine mj_callP (h := hcs _ _) (k := ?_)
    refine MonoJ.normA ?_
    repeat' (first
      | (refine is_ucall ?_; first
        | refine st_callP (h := readyZ_spec _ _ _ m s1 s2 s3 s4 (hm.ext extA)) (k := ?_)
        | refine st_callP (h := awake_spec _ _ _) (k := ?_)
        | fail)
      | (refine is_umcall ?_; first
        | refine mj_callP (h := readyZ_spec _ _ _ m s1 s2 s3 s4 (hm.ext extA)) (k := ?_)
        | refine mj_callP (h := awake_spec _ _ _) (k := ?_)
        | fail)
      | ((fail_if_success (first | refine is_ucall ?_ | refine is_umcall ?_)); first | refine W1 ?_ | refine Wc ?_ | refine W2c ?_ ?_ | refine Wg ?_ | refine W2 ?_ ?_ | exact Wdead | refine Wlive (fun hb => ?_) | intro _ _ _ _ _ _ _ _ | refine We ?_ | refine Wx ?_ | refine Wt ?_ | refine Wm ?_ | refine W2m ?_ ?_ | refine Wl ?_)
      | fail)
    refine mj_coal (n := C - 1) rfl (by omega) hok hG (by omega) ?_
    intro H2 uv hru e2
    have hb2 := e2.get hb1
    have x2 := x1.trans e2
    replace hrt := hrt.ext e2
    clear e2 hb1 x1 hcs hrem
    refine MonoJ.normA ?_
    repeat' (first
      | (refine is_ucall ?_; first
        | refine st_callP (h := readyZ_spec _ _ _ m s1 s2 s3 s4 (hm.ext extA)) (k := ?_)
        | refine st_callP (h := awake_spec _ _ _) (k := ?_)
        | fail)
      | (refine is_umcall ?_; first
        | refine mj_callP (h := readyZ_spec _ _ _ m s1 s2 s3 s4 (hm.ext extA)) (k := ?_)
        | refine mj_callP (h := awake_spec _ _ _) (k := ?_)
        | fail)
      | ((fail_if_success (first | refine is_ucall ?_ | refine is_umcall ?_)); first | refine W1 ?_ | refine Wc ?_ | refine W2c ?_ ?_ | refine Wg ?_ | refine W2 ?_ ?_ | exact Wdead | refine Wlive (fun hb => ?_) | intro _ _ _ _ _ _ _ _ | refine We ?_ | refine Wx ?_ | refine Wt ?_ | refine Wm ?_ | refine W2m ?_ ?_ | refine Wl ?_)
      | fail)
    refine st_call rfl (Copper_w E _ _ m s1 s2 s3 s4 ?_ (by omega) (by omega)) ?_
    · exact (hI.ext x2).y
    rintro _ H3 _ ⟨⟨t1, t2, t3, t4, rfl, hmt, ee⟩, rfl⟩
    have hb3 := ee.get hb2
    have x3 := x2.trans ee
    replace hrt := hrt.ext ee
    replace hru := hru.ext ee
    clear ee hb2 x2
    refine OpsJ.normA ?_
    repeat' (first
      | (refine is_ucall ?_; first
        | refine st_callP (h := readyZ_spec _ _ _ m s1 s2 s3 s4 (hm.ext extA)) (k := ?_)
        | refine st_callP (h := awake_spec _ _ _) (k := ?_)
        | fail)
      | (refine is_umcall ?_; first
        | refine mj_callP (h := readyZ_spec _ _ _ m s1 s2 s3 s4 (hm.ext extA)) (k := ?_)
        | refine mj_callP (h := awake_spec _ _ _) (k := ?_)
        | fail)
      | ((fail_if_success (first | refine is_ucall ?_ | refine is_umcall ?_)); first | refine W1 ?_ | refine Wc ?_ | refine W2c ?_ ?_ | refine Wg ?_ | refine W2 ?_ ?_ | exact Wdead | refine Wlive (fun hb => ?_) | intro _ _ _ _ _ _ _ _ | refine We ?_ | refine Wx ?_ | refine Wt ?_ | refine Wm ?_ | refine W2m ?_ ?_ | refine Wl ?_)
      | fail)
    refine st_call rfl (LeastW_spec E _ _ m t1 t2 t3 t4 hmt) ?_
    rintro _ H4 _ ⟨⟨xv, rfl, hx, ee⟩, rfl⟩
    rw [← hev]
    rw [← hev] at hx
    have hb4 := ee.get hb3
    have x4 := x3.trans ee
    replace hrt := hrt.ext ee
    replace hru := hru.ext ee
    clear ee hb3 x3
    clear hmt
    refine OpsJ.normA ?_
    repeat' (first
      | (refine is_ucall ?_; first
        | refine st_callP (h := readyZ_spec _ _ _ m s1 s2 s3 s4 (hm.ext extA)) (k := ?_)
        | refine st_callP (h := awake_spec _ _ _) (k := ?_)
        | fail)
      | (refine is_umcall ?_; first
        | refine mj_callP (h := readyZ_spec _ _ _ m s1 s2 s3 s4 (hm.ext extA)) (k := ?_)
        | refine mj_callP (h := awake_spec _ _ _) (k := ?_)
        | fail)
      | ((fail_if_success (first | refine is_ucall ?_ | refine is_umcall ?_)); first | refine W1 ?_ | refine Wc ?_ | refine W2c ?_ ?_ | refine Wg ?_ | refine W2 ?_ ?_ | exact Wdead | refine Wlive (fun hb => ?_) | intro _ _ _ _ _ _ _ _ | refine We ?_ | refine Wx ?_ | refine Wt ?_ | refine Wm ?_ | refine W2m ?_ ?_ | refine Wl ?_)
      | fail)
    have hx' := fun (H' : AHeap) (ee : Ext _ H') (hz : ev = 0) => (hx hz).ext ee
    clear hx
    refine st_call rfl (Copper_w E _ _ m s1 s2 s3 s4 ?_ (by omega) (by omega)) ?_
    · exact (hI.ext x4).y
    rintro _ H5 _ ⟨⟨t1, t2, t3, t4, rfl, hmt, ee⟩, rfl⟩
    have hb5 := ee.get hb4
    have x5 := x4.trans ee
    replace hrt := hrt.ext ee
    replace hru := hru.ext ee
    replace hx' := fun (H' : AHeap) (ee2 : Ext _ H') (hz : ev = 0) => hx' H' (Ext.trans ee ee2) hz
    clear ee hb4 x4
    refine OpsJ.normA ?_
    repeat' (first
      | (refine is_ucall ?_; first
        | refine st_callP (h := readyZ_spec _ _ _ m s1 s2 s3 s4 (hm.ext extA)) (k := ?_)
        | refine st_callP (h := awake_spec _ _ _) (k := ?_)
        | fail)
      | (refine is_umcall ?_; first
        | refine mj_callP (h := readyZ_spec _ _ _ m s1 s2 s3 s4 (hm.ext extA)) (k := ?_)
        | refine mj_callP (h := awake_spec _ _ _) (k := ?_)
        | fail)
      | ((fail_if_success (first | refine is_ucall ?_ | refine is_umcall ?_)); first | refine W1 ?_ | refine Wc ?_ | refine W2c ?_ ?_ | refine Wg ?_ | refine W2 ?_ ?_ | exact Wdead | refine Wlive (fun hb => ?_) | intro _ _ _ _ _ _ _ _ | refine We ?_ | refine Wx ?_ | refine Wt ?_ | refine Wm ?_ | refine W2m ?_ ?_ | refine Wl ?_)
      | fail)
    refine st_callP (h := hL _ _ t1 t2 t3 t4 hmt) (k := ?_)
    clear hmt
    refine OpsJ.normA ?_
    repeat' (first
      | (refine is_ucall ?_; first
        | refine st_callP (h := readyZ_spec _ _ _ m s1 s2 s3 s4 (hm.ext extA)) (k := ?_)
        | refine st_callP (h := awake_spec _ _ _) (k := ?_)
        | fail)
      | (refine is_umcall ?_; first
        | refine mj_callP (h := readyZ_spec _ _ _ m s1 s2 s3 s4 (hm.ext extA)) (k := ?_)
        | refine mj_callP (h := awake_spec _ _ _) (k := ?_)
        | fail)
      | ((fail_if_success (first | refine is_ucall ?_ | refine is_umcall ?_)); first | refine W1 ?_ | refine Wc ?_ | refine W2c ?_ ?_ | refine Wg ?_ | refine W2 ?_ ?_ | exact Wdead | refine Wlive (fun hb => ?_) | intro _ _ _ _ _ _ _ _ | refine We ?_ | refine Wx ?_ | refine Wt ?_ | refine Wm ?_ | refine W2m ?_ ?_ | refine Wl ?_)
      | fail)
    refine st_call rfl (Copper_w E _ _ m s1 s2 s3 s4 ?_ (by omega) (by omega)) ?_
    · exact (hI.ext x5).y
    rintro _ H6 _ ⟨⟨t1, t2, t3, t4, rfl, hmt, ee⟩, rfl⟩
    have hb6 := ee.get hb5
    have x6 := x5.trans ee
    replace hrt := hrt.ext ee
    replace hru := hru.ext ee
    replace hx' := fun (H' : AHeap) (ee2 : Ext _ H') (hz : ev = 0) => hx' H' (Ext.trans ee ee2) hz
    clear ee hb5 x5
    refine OpsJ.normA ?_
    repeat' (first
      | (refine is_ucall ?_; first
        | refine st_callP (h := readyZ_spec _ _ _ m s1 s2 s3 s4 (hm.ext extA)) (k := ?_)
        | refine st_callP (h := awake_spec _ _ _) (k := ?_)
        | fail)
      | (refine is_umcall ?_; first
        | refine mj_callP (h := readyZ_spec _ _ _ m s1 s2 s3 s4 (hm.ext extA)) (k := ?_)
        | refine mj_callP (h := awake_spec _ _ _) (k := ?_)
        | fail)
      | ((fail_if_success (first | refine is_ucall ?_ | refine is_umcall ?_)); first | refine W1 ?_ | refine Wc ?_ | refine W2c ?_ ?_ | refine Wg ?_ | refine W2 ?_ ?_ | exact Wdead | refine Wlive (fun hb => ?_) | intro _ _ _ _ _ _ _ _ | refine We ?_ | refine Wx ?_ | refine Wt ?_ | refine Wm ?_ | refine W2m ?_ ?_ | refine Wl ?_)
      | fail)
    refine st_call rfl (list_w E _ _ tv _ hrt htl) ?_
    rintro lv H7 _ ⟨⟨hlv, ee⟩, rfl⟩
    replace hmt := hmt.ext ee
    have hb7 := ee.get hb6
    have x7 := x6.trans ee
    replace hrt := hrt.ext ee
    replace hru := hru.ext ee
    replace hx' := fun (H' : AHeap) (ee2 : Ext _ H') (hz : ev = 0) => hx' H' (Ext.trans ee ee2) hz
    clear ee hb6 x6
    refine OpsJ.normA ?_
    repeat' (first
      | (refine is_ucall ?_; first
        | refine st_callP (h := readyZ_spec _ _ _ m s1 s2 s3 s4 (hm.ext extA)) (k := ?_)
        | refine st_callP (h := awake_spec _ _ _) (k := ?_)
        | fail)
      | (refine is_umcall ?_; first
        | refine mj_callP (h := readyZ_spec _ _ _ m s1 s2 s3 s4 (hm.ext extA)) (k := ?_)
        | refine mj_callP (h := awake_spec _ _ _) (k := ?_)
        | fail)
      | ((fail_if_success (first | refine is_ucall ?_ | refine is_umcall ?_)); first | refine W1 ?_ | refine Wc ?_ | refine W2c ?_ ?_ | refine Wg ?_ | refine W2 ?_ ?_ | exact Wdead | refine Wlive (fun hb => ?_) | intro _ _ _ _ _ _ _ _ | refine We ?_ | refine Wx ?_ | refine Wt ?_ | refine Wm ?_ | refine W2m ?_ ?_ | refine Wl ?_)
      | fail)
    refine st_callP (h := ProveCoal_spec E _ _ m t1 t2 t3 t4 lv (coalN m n) 99 hmt hlv htl) (k := ?_)
    rw [← hiv]
    clear hmt hlv
    refine OpsJ.normA ?_
    repeat' (first
      | (refine is_ucall ?_; first
        | refine st_callP (h := readyZ_spec _ _ _ m s1 s2 s3 s4 (hm.ext extA)) (k := ?_)
        | refine st_callP (h := awake_spec _ _ _) (k := ?_)
        | fail)
      | (refine is_umcall ?_; first
        | refine mj_callP (h := readyZ_spec _ _ _ m s1 s2 s3 s4 (hm.ext extA)) (k := ?_)
        | refine mj_callP (h := awake_spec _ _ _) (k := ?_)
        | fail)
      | ((fail_if_success (first | refine is_ucall ?_ | refine is_umcall ?_)); first | refine W1 ?_ | refine Wc ?_ | refine W2c ?_ ?_ | refine Wg ?_ | refine W2 ?_ ?_ | exact Wdead | refine Wlive (fun hb => ?_) | intro _ _ _ _ _ _ _ _ | refine We ?_ | refine Wx ?_ | refine Wt ?_ | refine Wm ?_ | refine W2m ?_ ?_ | refine Wl ?_)
      | fail)
    refine WPJ.draw 7 mixed (by kernel_rfl) (by kernel_rfl) (by kernel_rfl) (by decide) ?_
    refine MonoJ.normA ?_
    repeat' (first
      | (refine is_ucall ?_; first
        | refine st_callP (h := readyZ_spec _ _ _ m s1 s2 s3 s4 (hm.ext extA)) (k := ?_)
        | refine st_callP (h := awake_spec _ _ _) (k := ?_)
        | fail)
      | (refine is_umcall ?_; first
        | refine mj_callP (h := readyZ_spec _ _ _ m s1 s2 s3 s4 (hm.ext extA)) (k := ?_)
        | refine mj_callP (h := awake_spec _ _ _) (k := ?_)
        | fail)
      | ((fail_if_success (first | refine is_ucall ?_ | refine is_umcall ?_)); first | refine W1 ?_ | refine Wc ?_ | refine W2c ?_ ?_ | refine Wg ?_ | refine W2 ?_ ?_ | exact Wdead | refine Wlive (fun hb => ?_) | intro _ _ _ _ _ _ _ _ | refine We ?_ | refine Wx ?_ | refine Wt ?_ | refine Wm ?_ | refine W2m ?_ ?_ | refine Wl ?_)
      | fail)
    refine mj_copperN rfl (hI.ext x7).y (by omega) (by omega) ?_
    intro H8 t1 t2 t3 t4 hmt ee
    have hb8 := ee.get hb7
    have x8 := x7.trans ee
    replace hrt := hrt.ext ee
    replace hru := hru.ext ee
    replace hx' := fun (H' : AHeap) (ee2 : Ext _ H') (hz : ev = 0) => hx' H' (Ext.trans ee ee2) hz
    clear ee hb7 x7
    refine MonoJ.normA ?_
    repeat' (first
      | (refine is_ucall ?_; first
        | refine st_callP (h := readyZ_spec _ _ _ m s1 s2 s3 s4 (hm.ext extA)) (k := ?_)
        | refine st_callP (h := awake_spec _ _ _) (k := ?_)
        | fail)
      | (refine is_umcall ?_; first
        | refine mj_callP (h := readyZ_spec _ _ _ m s1 s2 s3 s4 (hm.ext extA)) (k := ?_)
        | refine mj_callP (h := awake_spec _ _ _) (k := ?_)
        | fail)
      | ((fail_if_success (first | refine is_ucall ?_ | refine is_umcall ?_)); first | refine W1 ?_ | refine Wc ?_ | refine W2c ?_ ?_ | refine Wg ?_ | refine W2 ?_ ?_ | exact Wdead | refine Wlive (fun hb => ?_) | intro _ _ _ _ _ _ _ _ | refine We ?_ | refine Wx ?_ | refine Wt ?_ | refine Wm ?_ | refine W2m ?_ ?_ | refine Wl ?_)
      | fail)
    refine mj_list (l := m.coal) rfl (hI.ext x8).coal hI.n1 ?_
    intro H9 lv hlv ee
    replace hmt := hmt.ext ee
    have hb9 := ee.get hb8
    have x9 := x8.trans ee
    replace hrt := hrt.ext ee
    replace hru := hru.ext ee
    replace hx' := fun (H' : AHeap) (ee2 : Ext _ H') (hz : ev = 0) => hx' H' (Ext.trans ee ee2) hz
    clear ee hb8 x8
    refine MonoJ.normA ?_
    repeat' (first
      | (refine is_ucall ?_; first
        | refine st_callP (h := readyZ_spec _ _ _ m s1 s2 s3 s4 (hm.ext extA)) (k := ?_)
        | refine st_callP (h := awake_spec _ _ _) (k := ?_)
        | fail)
      | (refine is_umcall ?_; first
        | refine mj_callP (h := readyZ_spec _ _ _ m s1 s2 s3 s4 (hm.ext extA)) (k := ?_)
        | refine mj_callP (h := awake_spec _ _ _) (k := ?_)
        | fail)
      | ((fail_if_success (first | refine is_ucall ?_ | refine is_umcall ?_)); first | refine W1 ?_ | refine Wc ?_ | refine W2c ?_ ?_ | refine Wg ?_ | refine W2 ?_ ?_ | exact Wdead | refine Wlive (fun hb => ?_) | intro _ _ _ _ _ _ _ _ | refine We ?_ | refine Wx ?_ | refine Wt ?_ | refine Wm ?_ | refine W2m ?_ ?_ | refine Wl ?_)
      | fail)
    refine mj_callP (h := ProveCoal_spec _ _ _ m t1 t2 t3 t4 lv m.coal 99 hmt hlv hI.n1) (k := ?_)
    rw [← hov]
    clear hmt hlv
    clear hL
    rcases key with ⟨rfl, rfl, rfl, rfl⟩ | ⟨rfl, rfl, rfl, rfl⟩ | ⟨rfl, hfo, q1, q2, q3, q4⟩
    · skip
      refine MonoJ.normA ?_
      repeat' (first
        | (refine is_ucall ?_; first
          | refine st_callP (h := readyZ_spec _ _ _ m s1 s2 s3 s4 (hm.ext extA)) (k := ?_)
          | refine st_callP (h := awake_spec _ _ _) (k := ?_)
          | fail)
        | (refine is_umcall ?_; first
          | refine mj_callP (h := readyZ_spec _ _ _ m s1 s2 s3 s4 (hm.ext extA)) (k := ?_)
          | refine mj_callP (h := awake_spec _ _ _) (k := ?_)
          | fail)
        | ((fail_if_success (first | refine is_ucall ?_ | refine is_umcall ?_)); first | refine W1 ?_ | refine Wc ?_ | refine W2c ?_ ?_ | refine Wg ?_ | refine W2 ?_ ?_ | exact Wdead | refine Wlive (fun hb => ?_) | intro _ _ _ _ _ _ _ _ | refine We ?_ | refine Wx ?_ | refine Wt ?_ | refine Wm ?_ | refine W2m ?_ ?_ | refine Wl ?_)
        | fail)
      all_goals first | exact ⟨rfl, rfl, rfl⟩ | exact absurd trivial (by assumption) | exact absurd rfl (by assumption) | trace_state
    · skip
      refine MonoJ.normA ?_
      repeat' (first
        | (refine is_ucall ?_; first
          | refine st_callP (h := readyZ_spec _ _ _ m s1 s2 s3 s4 (hm.ext extA)) (k := ?_)
          | refine st_callP (h := awake_spec _ _ _) (k := ?_)
          | fail)
        | (refine is_umcall ?_; first
          | refine mj_callP (h := readyZ_spec _ _ _ m s1 s2 s3 s4 (hm.ext extA)) (k := ?_)
          | refine mj_callP (h := awake_spec _ _ _) (k := ?_)
          | fail)
        | ((fail_if_success (first | refine is_ucall ?_ | refine is_umcall ?_)); first | refine W1 ?_ | refine Wc ?_ | refine W2c ?_ ?_ | refine Wg ?_ | refine W2 ?_ ?_ | exact Wdead | refine Wlive (fun hb => ?_) | intro _ _ _ _ _ _ _ _ | refine We ?_ | refine Wx ?_ | refine Wt ?_ | refine Wm ?_ | refine W2m ?_ ?_ | refine Wl ?_)
        | fail)
      all_goals first | exact ⟨rfl, rfl, rfl⟩ | exact absurd trivial (by assumption) | exact absurd rfl (by assumption) | trace_state
    · have hx0 := hx' _ (Ext.refl _) rfl
      have hxl : (leastL m).length ≤ 1000000 := by rw [q1.1]; omega
      have hS1 := fun (g' : γ) => Shovels_spec E g' H9 xv (leastL m) hx0 (by rw [q1.1]; omega) (fun x hx => by have := q1.2 x hx; omega)
      have hS2 := fun (g' : γ) => Shovels_spec E g' H9 tv (coalN m n) hrt (by rw [htr.1]; omega) (fun x hx => by have := htr.2 x hx; omega)
      have hEa := fun (g' : γ) => Each_spec E g' H9 m s1 s2 s3 s4 xv (leastL m) m.shovels hok ⟨by omega, by omega⟩ hx0 hxl
      rw [q1.forH hG] at hEa
      have hBf := fun (g' : γ) (H' : AHeap) (ee : Ext H9 H') => Before_spec E g' H' tv xv (coalN m n) (leastL m) (hrt.ext ee) (hx0.ext ee) htl hxl
      obtain ⟨a, ha⟩ : ∃ a, a = sumL (leastL m) := ⟨_, rfl⟩
      obtain ⟨c, hc⟩ : ∃ c, c = sumL (coalN m n) := ⟨_, rfl⟩
      rw [← ha] at hS1 q2 q4
      rw [← hc] at hS2 q4
      clear hx'
      rcases hfo with ⟨rfl, rfl⟩ | ⟨rfl, rfl⟩
      · skip
        refine MonoJ.normA ?_
        repeat' (first
          | (refine is_ucall ?_; first
            | refine st_callP (h := readyZ_spec _ _ _ m s1 s2 s3 s4 (hm.ext extA)) (k := ?_)
            | refine st_callP (h := awake_spec _ _ _) (k := ?_)
            | fail)
          | (refine is_umcall ?_; first
            | refine mj_callP (h := readyZ_spec _ _ _ m s1 s2 s3 s4 (hm.ext extA)) (k := ?_)
            | refine mj_callP (h := awake_spec _ _ _) (k := ?_)
            | fail)
          | ((fail_if_success (first | refine is_ucall ?_ | refine is_umcall ?_)); first | refine W1 ?_ | refine Wc ?_ | refine W2c ?_ ?_ | refine Wg ?_ | refine W2 ?_ ?_ | exact Wdead | refine Wlive (fun hb => ?_) | intro _ _ _ _ _ _ _ _ | refine We ?_ | refine Wx ?_ | refine Wt ?_ | refine Wm ?_ | refine W2m ?_ ?_ | refine Wl ?_)
          | fail)
        refine st_callP (h := hS1 _) (k := ?_)
        refine OpsJ.normA ?_
        repeat' (first
          | (refine is_ucall ?_; first
            | refine st_callP (h := readyZ_spec _ _ _ m s1 s2 s3 s4 (hm.ext extA)) (k := ?_)
            | refine st_callP (h := awake_spec _ _ _) (k := ?_)
            | fail)
          | (refine is_umcall ?_; first
            | refine mj_callP (h := readyZ_spec _ _ _ m s1 s2 s3 s4 (hm.ext extA)) (k := ?_)
            | refine mj_callP (h := awake_spec _ _ _) (k := ?_)
            | fail)
          | ((fail_if_success (first | refine is_ucall ?_ | refine is_umcall ?_)); first | refine W1 ?_ | refine Wc ?_ | refine W2c ?_ ?_ | refine Wg ?_ | refine W2 ?_ ?_ | exact Wdead | refine Wlive (fun hb => ?_) | intro _ _ _ _ _ _ _ _ | refine We ?_ | refine Wx ?_ | refine Wt ?_ | refine Wm ?_ | refine W2m ?_ ?_ | refine Wl ?_)
          | fail)
        refine st_callP (h := hS2 _) (k := ?_)
        refine OpsJ.normA ?_
        repeat' (first
          | (refine is_ucall ?_; first
            | refine st_callP (h := readyZ_spec _ _ _ m s1 s2 s3 s4 (hm.ext extA)) (k := ?_)
            | refine st_callP (h := awake_spec _ _ _) (k := ?_)
            | fail)
          | (refine is_umcall ?_; first
            | refine mj_callP (h := readyZ_spec _ _ _ m s1 s2 s3 s4 (hm.ext extA)) (k := ?_)
            | refine mj_callP (h := awake_spec _ _ _) (k := ?_)
            | fail)
          | ((fail_if_success (first | refine is_ucall ?_ | refine is_umcall ?_)); first | refine W1 ?_ | refine Wc ?_ | refine W2c ?_ ?_ | refine Wg ?_ | refine W2 ?_ ?_ | exact Wdead | refine Wlive (fun hb => ?_) | intro _ _ _ _ _ _ _ _ | refine We ?_ | refine Wx ?_ | refine Wt ?_ | refine Wm ?_ | refine W2m ?_ ?_ | refine Wl ?_)
          | fail)
        refine st_callP (h := hEa _) (k := ?_)
        refine OpsJ.normA ?_
        repeat' (first
          | (refine is_ucall ?_; first
            | refine st_callP (h := readyZ_spec _ _ _ m s1 s2 s3 s4 (hm.ext extA)) (k := ?_)
            | refine st_callP (h := awake_spec _ _ _) (k := ?_)
            | fail)
          | (refine is_umcall ?_; first
            | refine mj_callP (h := readyZ_spec _ _ _ m s1 s2 s3 s4 (hm.ext extA)) (k := ?_)
            | refine mj_callP (h := awake_spec _ _ _) (k := ?_)
            | fail)
          | ((fail_if_success (first | refine is_ucall ?_ | refine is_umcall ?_)); first | refine W1 ?_ | refine Wc ?_ | refine W2c ?_ ?_ | refine Wg ?_ | refine W2 ?_ ?_ | exact Wdead | refine Wlive (fun hb => ?_) | intro _ _ _ _ _ _ _ _ | refine We ?_ | refine Wx ?_ | refine Wt ?_ | refine Wm ?_ | refine W2m ?_ ?_ | refine Wl ?_)
          | fail)
        refine st_call rfl (Copper_w E _ _ m s1 s2 s3 s4 ?_ (by omega) (by omega)) ?_
        · exact (hI.ext x9).y
        rintro _ Ha _ ⟨⟨t1, t2, t3, t4, rfl, hmt, ea⟩, rfl⟩
        have hba := ea.get hb9
        refine OpsJ.normA ?_
        repeat' (first
          | (refine is_ucall ?_; first
            | refine st_callP (h := readyZ_spec _ _ _ m s1 s2 s3 s4 (hm.ext extA)) (k := ?_)
            | refine st_callP (h := awake_spec _ _ _) (k := ?_)
            | fail)
          | (refine is_umcall ?_; first
            | refine mj_callP (h := readyZ_spec _ _ _ m s1 s2 s3 s4 (hm.ext extA)) (k := ?_)
            | refine mj_callP (h := awake_spec _ _ _) (k := ?_)
            | fail)
          | ((fail_if_success (first | refine is_ucall ?_ | refine is_umcall ?_)); first | refine W1 ?_ | refine Wc ?_ | refine W2c ?_ ?_ | refine Wg ?_ | refine W2 ?_ ?_ | exact Wdead | refine Wlive (fun hb => ?_) | intro _ _ _ _ _ _ _ _ | refine We ?_ | refine Wx ?_ | refine Wt ?_ | refine Wm ?_ | refine W2m ?_ ?_ | refine Wl ?_)
          | fail)
        refine st_call rfl (list_w E _ _ xv _ (hx0.ext ea) hxl) ?_
        rintro lv Hb _ ⟨⟨hlv, eb⟩, rfl⟩
        have hbb := eb.get hba
        have xb := ea.trans eb
        refine OpsJ.normA ?_
        repeat' (first
          | (refine is_ucall ?_; first
            | refine st_callP (h := readyZ_spec _ _ _ m s1 s2 s3 s4 (hm.ext extA)) (k := ?_)
            | refine st_callP (h := awake_spec _ _ _) (k := ?_)
            | fail)
          | (refine is_umcall ?_; first
            | refine mj_callP (h := readyZ_spec _ _ _ m s1 s2 s3 s4 (hm.ext extA)) (k := ?_)
            | refine mj_callP (h := awake_spec _ _ _) (k := ?_)
            | fail)
          | ((fail_if_success (first | refine is_ucall ?_ | refine is_umcall ?_)); first | refine W1 ?_ | refine Wc ?_ | refine W2c ?_ ?_ | refine Wg ?_ | refine W2 ?_ ?_ | exact Wdead | refine Wlive (fun hb => ?_) | intro _ _ _ _ _ _ _ _ | refine We ?_ | refine Wx ?_ | refine Wt ?_ | refine Wm ?_ | refine W2m ?_ ?_ | refine Wl ?_)
          | fail)
        refine st_callP (h := ProveCoal_spec E _ _ m t1 t2 t3 t4 lv (leastL m) a (hmt.ext eb) hlv hxl) (k := ?_)
        rw [q2]
        clear hmt hlv ea eb hba
        refine OpsJ.normA ?_
        repeat' (first
          | (refine is_ucall ?_; first
            | refine st_callP (h := readyZ_spec _ _ _ m s1 s2 s3 s4 (hm.ext extA)) (k := ?_)
            | refine st_callP (h := awake_spec _ _ _) (k := ?_)
            | fail)
          | (refine is_umcall ?_; first
            | refine mj_callP (h := readyZ_spec _ _ _ m s1 s2 s3 s4 (hm.ext extA)) (k := ?_)
            | refine mj_callP (h := awake_spec _ _ _) (k := ?_)
            | fail)
          | ((fail_if_success (first | refine is_ucall ?_ | refine is_umcall ?_)); first | refine W1 ?_ | refine Wc ?_ | refine W2c ?_ ?_ | refine Wg ?_ | refine W2 ?_ ?_ | exact Wdead | refine Wlive (fun hb => ?_) | intro _ _ _ _ _ _ _ _ | refine We ?_ | refine Wx ?_ | refine Wt ?_ | refine Wm ?_ | refine W2m ?_ ?_ | refine Wl ?_)
          | fail)
        refine st_call rfl (Copper_w E _ _ m s1 s2 s3 s4 ?_ (by omega) (by omega)) ?_
        · exact (hI.ext (x9.trans xb)).y
        rintro _ Hc _ ⟨⟨t1, t2, t3, t4, rfl, hmt, ec⟩, rfl⟩
        have hbc := ec.get hbb
        have xc := xb.trans ec
        refine OpsJ.normA ?_
        repeat' (first
          | (refine is_ucall ?_; first
            | refine st_callP (h := readyZ_spec _ _ _ m s1 s2 s3 s4 (hm.ext extA)) (k := ?_)
            | refine st_callP (h := awake_spec _ _ _) (k := ?_)
            | fail)
          | (refine is_umcall ?_; first
            | refine mj_callP (h := readyZ_spec _ _ _ m s1 s2 s3 s4 (hm.ext extA)) (k := ?_)
            | refine mj_callP (h := awake_spec _ _ _) (k := ?_)
            | fail)
          | ((fail_if_success (first | refine is_ucall ?_ | refine is_umcall ?_)); first | refine W1 ?_ | refine Wc ?_ | refine W2c ?_ ?_ | refine Wg ?_ | refine W2 ?_ ?_ | exact Wdead | refine Wlive (fun hb => ?_) | intro _ _ _ _ _ _ _ _ | refine We ?_ | refine Wx ?_ | refine Wt ?_ | refine Wm ?_ | refine W2m ?_ ?_ | refine Wl ?_)
          | fail)
        refine st_call rfl (list_w E _ _ uv _ (hru.ext xc) hll5) ?_
        rintro lv Hd _ ⟨⟨hlv, ed⟩, rfl⟩
        have xd := xc.trans ed
        have xz := x9.trans xd
        refine OpsJ.normA ?_
        repeat' (first
          | (refine is_ucall ?_; first
            | refine st_callP (h := readyZ_spec _ _ _ m s1 s2 s3 s4 (hm.ext extA)) (k := ?_)
            | refine st_callP (h := awake_spec _ _ _) (k := ?_)
            | fail)
          | (refine is_umcall ?_; first
            | refine mj_callP (h := readyZ_spec _ _ _ m s1 s2 s3 s4 (hm.ext extA)) (k := ?_)
            | refine mj_callP (h := awake_spec _ _ _) (k := ?_)
            | fail)
          | ((fail_if_success (first | refine is_ucall ?_ | refine is_umcall ?_)); first | refine W1 ?_ | refine Wc ?_ | refine W2c ?_ ?_ | refine Wg ?_ | refine W2 ?_ ?_ | exact Wdead | refine Wlive (fun hb => ?_) | intro _ _ _ _ _ _ _ _ | refine We ?_ | refine Wx ?_ | refine Wt ?_ | refine Wm ?_ | refine W2m ?_ ?_ | refine Wl ?_)
          | fail)
        refine st_callP (h := ProveCoal_spec E _ _ m t1 t2 t3 t4 lv (coalN m (C - 1)) 99 (hmt.ext ed) hlv hll5) (k := ?_)
        rw [q3]
        clear hmt hlv ed ec xc
        rcases q4 with rfl | ⟨rfl, q5⟩ | ⟨rfl, q5, q6⟩
        · skip
          refine OpsJ.normA ?_
          repeat' (first
            | (refine is_ucall ?_; first
              | refine st_callP (h := readyZ_spec _ _ _ m s1 s2 s3 s4 (hm.ext extA)) (k := ?_)
              | refine st_callP (h := awake_spec _ _ _) (k := ?_)
              | fail)
            | (refine is_umcall ?_; first
              | refine mj_callP (h := readyZ_spec _ _ _ m s1 s2 s3 s4 (hm.ext extA)) (k := ?_)
              | refine mj_callP (h := awake_spec _ _ _) (k := ?_)
              | fail)
            | ((fail_if_success (first | refine is_ucall ?_ | refine is_umcall ?_)); first | refine W1 ?_ | refine Wc ?_ | refine W2c ?_ ?_ | refine Wg ?_ | refine W2 ?_ ?_ | exact Wdead | refine Wlive (fun hb => ?_) | intro _ _ _ _ _ _ _ _ | refine We ?_ | refine Wx ?_ | refine Wt ?_ | refine Wm ?_ | refine W2m ?_ ?_ | refine Wl ?_)
            | fail)
          all_goals first | exact ⟨rfl, rfl, rfl⟩ | exact absurd trivial (by assumption) | exact absurd rfl (by assumption) | trace_state
        · skip
          refine OpsJ.normA ?_
          repeat' (first
            | (refine is_ucall ?_; first
              | refine st_callP (h := readyZ_spec _ _ _ m s1 s2 s3 s4 (hm.ext extA)) (k := ?_)
              | refine st_callP (h := awake_spec _ _ _) (k := ?_)
              | fail)
            | (refine is_umcall ?_; first
              | refine mj_callP (h := readyZ_spec _ _ _ m s1 s2 s3 s4 (hm.ext extA)) (k := ?_)
              | refine mj_callP (h := awake_spec _ _ _) (k := ?_)
              | fail)
            | ((fail_if_success (first | refine is_ucall ?_ | refine is_umcall ?_)); first | refine W1 ?_ | refine Wc ?_ | refine W2c ?_ ?_ | refine Wg ?_ | refine W2 ?_ ?_ | exact Wdead | refine Wlive (fun hb => ?_) | intro _ _ _ _ _ _ _ _ | refine We ?_ | refine Wx ?_ | refine Wt ?_ | refine Wm ?_ | refine W2m ?_ ?_ | refine Wl ?_)
            | fail)
          all_goals first | exact ⟨rfl, rfl, rfl⟩ | exact absurd trivial (by assumption) | exact absurd rfl (by assumption) | trace_state
        · subst q5
          refine OpsJ.normA ?_
          repeat' (first
            | (refine is_ucall ?_; first
              | refine st_callP (h := readyZ_spec _ _ _ m s1 s2 s3 s4 (hm.ext extA)) (k := ?_)
              | refine st_callP (h := awake_spec _ _ _) (k := ?_)
              | fail)
            | (refine is_umcall ?_; first
              | refine mj_callP (h := readyZ_spec _ _ _ m s1 s2 s3 s4 (hm.ext extA)) (k := ?_)
              | refine mj_callP (h := awake_spec _ _ _) (k := ?_)
              | fail)
            | ((fail_if_success (first | refine is_ucall ?_ | refine is_umcall ?_)); first | refine W1 ?_ | refine Wc ?_ | refine W2c ?_ ?_ | refine Wg ?_ | refine W2 ?_ ?_ | exact Wdead | refine Wlive (fun hb => ?_) | intro _ _ _ _ _ _ _ _ | refine We ?_ | refine Wx ?_ | refine Wt ?_ | refine Wm ?_ | refine W2m ?_ ?_ | refine Wl ?_)
            | fail)
          all_goals try exact absurd trivial (by assumption)
          refine st_callP (h := hBf _ _ xd) (k := ?_)
          rw [q6]
          refine OpsJ.normA ?_
          repeat' (first
            | (refine is_ucall ?_; first
              | refine st_callP (h := readyZ_spec _ _ _ m s1 s2 s3 s4 (hm.ext extA)) (k := ?_)
              | refine st_callP (h := awake_spec _ _ _) (k := ?_)
              | fail)
            | (refine is_umcall ?_; first
              | refine mj_callP (h := readyZ_spec _ _ _ m s1 s2 s3 s4 (hm.ext extA)) (k := ?_)
              | refine mj_callP (h := awake_spec _ _ _) (k := ?_)
              | fail)
            | ((fail_if_success (first | refine is_ucall ?_ | refine is_umcall ?_)); first | refine W1 ?_ | refine Wc ?_ | refine W2c ?_ ?_ | refine Wg ?_ | refine W2 ?_ ?_ | exact Wdead | refine Wlive (fun hb => ?_) | intro _ _ _ _ _ _ _ _ | refine We ?_ | refine Wx ?_ | refine Wt ?_ | refine Wm ?_ | refine W2m ?_ ?_ | refine Wl ?_)
            | fail)
          all_goals first | exact ⟨rfl, rfl, rfl⟩ | exact absurd trivial (by assumption) | exact absurd rfl (by assumption) | trace_state
      · skip
        refine MonoJ.normA ?_
        repeat' (first
          | (refine is_ucall ?_; first
            | refine st_callP (h := readyZ_spec _ _ _ m s1 s2 s3 s4 (hm.ext extA)) (k := ?_)
            | refine st_callP (h := awake_spec _ _ _) (k := ?_)
            | fail)
          | (refine is_umcall ?_; first
            | refine mj_callP (h := readyZ_spec _ _ _ m s1 s2 s3 s4 (hm.ext extA)) (k := ?_)
            | refine mj_callP (h := awake_spec _ _ _) (k := ?_)
            | fail)
          | ((fail_if_success (first | refine is_ucall ?_ | refine is_umcall ?_)); first | refine W1 ?_ | refine Wc ?_ | refine W2c ?_ ?_ | refine Wg ?_ | refine W2 ?_ ?_ | exact Wdead | refine Wlive (fun hb => ?_) | intro _ _ _ _ _ _ _ _ | refine We ?_ | refine Wx ?_ | refine Wt ?_ | refine Wm ?_ | refine W2m ?_ ?_ | refine Wl ?_)
          | fail)
        refine st_callP (h := hS1 _) (k := ?_)
        refine OpsJ.normA ?_
        repeat' (first
          | (refine is_ucall ?_; first
            | refine st_callP (h := readyZ_spec _ _ _ m s1 s2 s3 s4 (hm.ext extA)) (k := ?_)
            | refine st_callP (h := awake_spec _ _ _) (k := ?_)
            | fail)
          | (refine is_umcall ?_; first
            | refine mj_callP (h := readyZ_spec _ _ _ m s1 s2 s3 s4 (hm.ext extA)) (k := ?_)
            | refine mj_callP (h := awake_spec _ _ _) (k := ?_)
            | fail)
          | ((fail_if_success (first | refine is_ucall ?_ | refine is_umcall ?_)); first | refine W1 ?_ | refine Wc ?_ | refine W2c ?_ ?_ | refine Wg ?_ | refine W2 ?_ ?_ | exact Wdead | refine Wlive (fun hb => ?_) | intro _ _ _ _ _ _ _ _ | refine We ?_ | refine Wx ?_ | refine Wt ?_ | refine Wm ?_ | refine W2m ?_ ?_ | refine Wl ?_)
          | fail)
        refine st_callP (h := hS2 _) (k := ?_)
        refine OpsJ.normA ?_
        repeat' (first
          | (refine is_ucall ?_; first
            | refine st_callP (h := readyZ_spec _ _ _ m s1 s2 s3 s4 (hm.ext extA)) (k := ?_)
            | refine st_callP (h := awake_spec _ _ _) (k := ?_)
            | fail)
          | (refine is_umcall ?_; first
            | refine mj_callP (h := readyZ_spec _ _ _ m s1 s2 s3 s4 (hm.ext extA)) (k := ?_)
            | refine mj_callP (h := awake_spec _ _ _) (k := ?_)
            | fail)
          | ((fail_if_success (first | refine is_ucall ?_ | refine is_umcall ?_)); first | refine W1 ?_ | refine Wc ?_ | refine W2c ?_ ?_ | refine Wg ?_ | refine W2 ?_ ?_ | exact Wdead | refine Wlive (fun hb => ?_) | intro _ _ _ _ _ _ _ _ | refine We ?_ | refine Wx ?_ | refine Wt ?_ | refine Wm ?_ | refine W2m ?_ ?_ | refine Wl ?_)
          | fail)
        refine st_callP (h := hEa _) (k := ?_)
        refine OpsJ.normA ?_
        repeat' (first
          | (refine is_ucall ?_; first
            | refine st_callP (h := readyZ_spec _ _ _ m s1 s2 s3 s4 (hm.ext extA)) (k := ?_)
            | refine st_callP (h := awake_spec _ _ _) (k := ?_)
            | fail)
          | (refine is_umcall ?_; first
            | refine mj_callP (h := readyZ_spec _ _ _ m s1 s2 s3 s4 (hm.ext extA)) (k := ?_)
            | refine mj_callP (h := awake_spec _ _ _) (k := ?_)
            | fail)
          | ((fail_if_success (first | refine is_ucall ?_ | refine is_umcall ?_)); first | refine W1 ?_ | refine Wc ?_ | refine W2c ?_ ?_ | refine Wg ?_ | refine W2 ?_ ?_ | exact Wdead | refine Wlive (fun hb => ?_) | intro _ _ _ _ _ _ _ _ | refine We ?_ | refine Wx ?_ | refine Wt ?_ | refine Wm ?_ | refine W2m ?_ ?_ | refine Wl ?_)
          | fail)
        refine st_call rfl (Copper_w E _ _ m s1 s2 s3 s4 ?_ (by omega) (by omega)) ?_
        · exact (hI.ext x9).y
        rintro _ Ha _ ⟨⟨t1, t2, t3, t4, rfl, hmt, ea⟩, rfl⟩
        have hba := ea.get hb9
        refine OpsJ.normA ?_
        repeat' (first
          | (refine is_ucall ?_; first
            | refine st_callP (h := readyZ_spec _ _ _ m s1 s2 s3 s4 (hm.ext extA)) (k := ?_)
            | refine st_callP (h := awake_spec _ _ _) (k := ?_)
            | fail)
          | (refine is_umcall ?_; first
            | refine mj_callP (h := readyZ_spec _ _ _ m s1 s2 s3 s4 (hm.ext extA)) (k := ?_)
            | refine mj_callP (h := awake_spec _ _ _) (k := ?_)
            | fail)
          | ((fail_if_success (first | refine is_ucall ?_ | refine is_umcall ?_)); first | refine W1 ?_ | refine Wc ?_ | refine W2c ?_ ?_ | refine Wg ?_ | refine W2 ?_ ?_ | exact Wdead | refine Wlive (fun hb => ?_) | intro _ _ _ _ _ _ _ _ | refine We ?_ | refine Wx ?_ | refine Wt ?_ | refine Wm ?_ | refine W2m ?_ ?_ | refine Wl ?_)
          | fail)
        refine st_call rfl (list_w E _ _ xv _ (hx0.ext ea) hxl) ?_
        rintro lv Hb _ ⟨⟨hlv, eb⟩, rfl⟩
        have hbb := eb.get hba
        have xb := ea.trans eb
        refine OpsJ.normA ?_
        repeat' (first
          | (refine is_ucall ?_; first
            | refine st_callP (h := readyZ_spec _ _ _ m s1 s2 s3 s4 (hm.ext extA)) (k := ?_)
            | refine st_callP (h := awake_spec _ _ _) (k := ?_)
            | fail)
          | (refine is_umcall ?_; first
            | refine mj_callP (h := readyZ_spec _ _ _ m s1 s2 s3 s4 (hm.ext extA)) (k := ?_)
            | refine mj_callP (h := awake_spec _ _ _) (k := ?_)
            | fail)
          | ((fail_if_success (first | refine is_ucall ?_ | refine is_umcall ?_)); first | refine W1 ?_ | refine Wc ?_ | refine W2c ?_ ?_ | refine Wg ?_ | refine W2 ?_ ?_ | exact Wdead | refine Wlive (fun hb => ?_) | intro _ _ _ _ _ _ _ _ | refine We ?_ | refine Wx ?_ | refine Wt ?_ | refine Wm ?_ | refine W2m ?_ ?_ | refine Wl ?_)
          | fail)
        refine st_callP (h := ProveCoal_spec E _ _ m t1 t2 t3 t4 lv (leastL m) a (hmt.ext eb) hlv hxl) (k := ?_)
        rw [q2]
        clear hmt hlv ea eb hba
        refine OpsJ.normA ?_
        repeat' (first
          | (refine is_ucall ?_; first
            | refine st_callP (h := readyZ_spec _ _ _ m s1 s2 s3 s4 (hm.ext extA)) (k := ?_)
            | refine st_callP (h := awake_spec _ _ _) (k := ?_)
            | fail)
          | (refine is_umcall ?_; first
            | refine mj_callP (h := readyZ_spec _ _ _ m s1 s2 s3 s4 (hm.ext extA)) (k := ?_)
            | refine mj_callP (h := awake_spec _ _ _) (k := ?_)
            | fail)
          | ((fail_if_success (first | refine is_ucall ?_ | refine is_umcall ?_)); first | refine W1 ?_ | refine Wc ?_ | refine W2c ?_ ?_ | refine Wg ?_ | refine W2 ?_ ?_ | exact Wdead | refine Wlive (fun hb => ?_) | intro _ _ _ _ _ _ _ _ | refine We ?_ | refine Wx ?_ | refine Wt ?_ | refine Wm ?_ | refine W2m ?_ ?_ | refine Wl ?_)
          | fail)
        refine st_call rfl (Copper_w E _ _ m s1 s2 s3 s4 ?_ (by omega) (by omega)) ?_
        · exact (hI.ext (x9.trans xb)).y
        rintro _ Hc _ ⟨⟨t1, t2, t3, t4, rfl, hmt, ec⟩, rfl⟩
        have hbc := ec.get hbb
        have xc := xb.trans ec
        refine OpsJ.normA ?_
        repeat' (first
          | (refine is_ucall ?_; first
            | refine st_callP (h := readyZ_spec _ _ _ m s1 s2 s3 s4 (hm.ext extA)) (k := ?_)
            | refine st_callP (h := awake_spec _ _ _) (k := ?_)
            | fail)
          | (refine is_umcall ?_; first
            | refine mj_callP (h := readyZ_spec _ _ _ m s1 s2 s3 s4 (hm.ext extA)) (k := ?_)
            | refine mj_callP (h := awake_spec _ _ _) (k := ?_)
            | fail)
          | ((fail_if_success (first | refine is_ucall ?_ | refine is_umcall ?_)); first | refine W1 ?_ | refine Wc ?_ | refine W2c ?_ ?_ | refine Wg ?_ | refine W2 ?_ ?_ | exact Wdead | refine Wlive (fun hb => ?_) | intro _ _ _ _ _ _ _ _ | refine We ?_ | refine Wx ?_ | refine Wt ?_ | refine Wm ?_ | refine W2m ?_ ?_ | refine Wl ?_)
          | fail)
        refine st_call rfl (list_w E _ _ uv _ (hru.ext xc) hll5) ?_
        rintro lv Hd _ ⟨⟨hlv, ed⟩, rfl⟩
        have xd := xc.trans ed
        have xz := x9.trans xd
        refine OpsJ.normA ?_
        repeat' (first
          | (refine is_ucall ?_; first
            | refine st_callP (h := readyZ_spec _ _ _ m s1 s2 s3 s4 (hm.ext extA)) (k := ?_)
            | refine st_callP (h := awake_spec _ _ _) (k := ?_)
            | fail)
          | (refine is_umcall ?_; first
            | refine mj_callP (h := readyZ_spec _ _ _ m s1 s2 s3 s4 (hm.ext extA)) (k := ?_)
            | refine mj_callP (h := awake_spec _ _ _) (k := ?_)
            | fail)
          | ((fail_if_success (first | refine is_ucall ?_ | refine is_umcall ?_)); first | refine W1 ?_ | refine Wc ?_ | refine W2c ?_ ?_ | refine Wg ?_ | refine W2 ?_ ?_ | exact Wdead | refine Wlive (fun hb => ?_) | intro _ _ _ _ _ _ _ _ | refine We ?_ | refine Wx ?_ | refine Wt ?_ | refine Wm ?_ | refine W2m ?_ ?_ | refine Wl ?_)
          | fail)
        refine st_callP (h := ProveCoal_spec E _ _ m t1 t2 t3 t4 lv (coalN m (C - 1)) 99 (hmt.ext ed) hlv hll5) (k := ?_)
        rw [q3]
        clear hmt hlv ed ec xc
        rcases q4 with rfl | ⟨rfl, q5⟩ | ⟨rfl, q5, q6⟩
        · skip
          refine OpsJ.normA ?_
          repeat' (first
            | (refine is_ucall ?_; first
              | refine st_callP (h := readyZ_spec _ _ _ m s1 s2 s3 s4 (hm.ext extA)) (k := ?_)
              | refine st_callP (h := awake_spec _ _ _) (k := ?_)
              | fail)
            | (refine is_umcall ?_; first
              | refine mj_callP (h := readyZ_spec _ _ _ m s1 s2 s3 s4 (hm.ext extA)) (k := ?_)
              | refine mj_callP (h := awake_spec _ _ _) (k := ?_)
              | fail)
            | ((fail_if_success (first | refine is_ucall ?_ | refine is_umcall ?_)); first | refine W1 ?_ | refine Wc ?_ | refine W2c ?_ ?_ | refine Wg ?_ | refine W2 ?_ ?_ | exact Wdead | refine Wlive (fun hb => ?_) | intro _ _ _ _ _ _ _ _ | refine We ?_ | refine Wx ?_ | refine Wt ?_ | refine Wm ?_ | refine W2m ?_ ?_ | refine Wl ?_)
            | fail)
          all_goals first | exact ⟨rfl, rfl, rfl⟩ | exact absurd trivial (by assumption) | exact absurd rfl (by assumption) | trace_state
        · skip
          refine OpsJ.normA ?_
          repeat' (first
            | (refine is_ucall ?_; first
              | refine st_callP (h := readyZ_spec _ _ _ m s1 s2 s3 s4 (hm.ext extA)) (k := ?_)
              | refine st_callP (h := awake_spec _ _ _) (k := ?_)
              | fail)
            | (refine is_umcall ?_; first
              | refine mj_callP (h := readyZ_spec _ _ _ m s1 s2 s3 s4 (hm.ext extA)) (k := ?_)
              | refine mj_callP (h := awake_spec _ _ _) (k := ?_)
              | fail)
            | ((fail_if_success (first | refine is_ucall ?_ | refine is_umcall ?_)); first | refine W1 ?_ | refine Wc ?_ | refine W2c ?_ ?_ | refine Wg ?_ | refine W2 ?_ ?_ | exact Wdead | refine Wlive (fun hb => ?_) | intro _ _ _ _ _ _ _ _ | refine We ?_ | refine Wx ?_ | refine Wt ?_ | refine Wm ?_ | refine W2m ?_ ?_ | refine Wl ?_)
            | fail)
          all_goals first | exact ⟨rfl, rfl, rfl⟩ | exact absurd trivial (by assumption) | exact absurd rfl (by assumption) | trace_state
        · subst q5
          refine OpsJ.normA ?_
          repeat' (first
            | (refine is_ucall ?_; first
              | refine st_callP (h := readyZ_spec _ _ _ m s1 s2 s3 s4 (hm.ext extA)) (k := ?_)
              | refine st_callP (h := awake_spec _ _ _) (k := ?_)
              | fail)
            | (refine is_umcall ?_; first
              | refine mj_callP (h := readyZ_spec _ _ _ m s1 s2 s3 s4 (hm.ext extA)) (k := ?_)
              | refine mj_callP (h := awake_spec _ _ _) (k := ?_)
              | fail)
            | ((fail_if_success (first | refine is_ucall ?_ | refine is_umcall ?_)); first | refine W1 ?_ | refine Wc ?_ | refine W2c ?_ ?_ | refine Wg ?_ | refine W2 ?_ ?_ | exact Wdead | refine Wlive (fun hb => ?_) | intro _ _ _ _ _ _ _ _ | refine We ?_ | refine Wx ?_ | refine Wt ?_ | refine Wm ?_ | refine W2m ?_ ?_ | refine Wl ?_)
            | fail)
          all_goals try exact absurd trivial (by assumption)
          refine st_callP (h := hBf _ _ xd) (k := ?_)
          rw [q6]
          refine OpsJ.normA ?_
          repeat' (first
            | (refine is_ucall ?_; first
              | refine st_callP (h := readyZ_spec _ _ _ m s1 s2 s3 s4 (hm.ext extA)) (k := ?_)
              | refine st_callP (h := awake_spec _ _ _) (k := ?_)
              | fail)
            | (refine is_umcall ?_; first
              | refine mj_callP (h := readyZ_spec _ _ _ m s1 s2 s3 s4 (hm.ext extA)) (k := ?_)
              | refine mj_callP (h := awake_spec _ _ _) (k := ?_)
              | fail)
            | ((fail_if_success (first | refine is_ucall ?_ | refine is_umcall ?_)); first | refine W1 ?_ | refine Wc ?_ | refine W2c ?_ ?_ | refine Wg ?_ | refine W2 ?_ ?_ | exact Wdead | refine Wlive (fun hb => ?_) | intro _ _ _ _ _ _ _ _ | refine We ?_ | refine Wx ?_ | refine Wt ?_ | refine Wm ?_ | refine W2m ?_ ?_ | refine Wl ?_)
            | fail)
          all_goals first | exact ⟨rfl, rfl, rfl⟩ | exact absurd trivial (by assumption) | exact absurd rfl (by assumption) | trace_state
end
end Go.Proofs.Ytjbiidlmpaibkaa
