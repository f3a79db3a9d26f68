import Derived.Test.YtjbiidlmpaibkaaInw
namespace Go.Proofs.Ytjbiidlmpaibkaa
open Go Go.Abs Go.Proofs
set_option maxHeartbeats 1600000
attribute [local irreducible] CallJ OpsJ WPJ CallV MonoJ SpecJ

/-! ### What is so in all truths -/
abbrev padT (t : Int × List Int) : Int × List Int := (t.1, pad5 t.2)
theorem truR_mem {m : CopM} (hG : Good m) {k : Nat} {t : Int × List Int} (h : t ∈ truR m k) : padT t ∈ truthsL m ∧ t.2.length = hrs m ∧ TOk t.1 (pad5 t.2) := by
  obtain ⟨n, hn, rfl⟩ := List.mem_map.1 h
  obtain ⟨_, hT⟩ := List.mem_filter.1 hn
  have hm := nth_mem hG n
  obtain ⟨hn5, hnl⟩ := hrs_le hG.w
  have hll := hG.ll
  have h4 : (nthL m n).length = m.loss.length := digits_len _ _
  exact ⟨List.mem_filter.2 ⟨hm, hT⟩, by show (nthL m n).length = _; omega, hG.valid.tok _ hm⟩
theorem truR_sur {m : CopM} (hG : Good m) {t : Int × List Int} (h : t ∈ truthsL m) : ∃ s ∈ truR m (manyS m).toNat, padT s = t := by
  obtain ⟨h1, h2⟩ := List.mem_filter.1 h
  obtain ⟨n, hn, rfl⟩ := nth_sur hG h1
  exact ⟨_, List.mem_map.2 ⟨n, List.mem_filter.2 ⟨List.mem_range.2 hn, h2⟩, rfl⟩, rfl⟩
theorem truR_all {m : CopM} (hG : Good m) (p : Int × List Int → Bool) : (truR m (manyS m).toNat).all (fun t => p (padT t)) = (truthsL m).all p := by
  rw [Bool.eq_iff_iff, List.all_eq_true, List.all_eq_true]
  exact ⟨fun h t ht => by obtain ⟨s, hs, rfl⟩ := truR_sur hG ht; exact h s hs, fun h t ht => h _ (truR_mem hG ht).1⟩
theorem truR_any {m : CopM} (hG : Good m) (p : Int × List Int → Bool) : (truR m (manyS m).toNat).any (fun t => p (padT t)) = (truthsL m).any p := by
  rw [Bool.eq_iff_iff, List.any_eq_true, List.any_eq_true]
  exact ⟨fun ⟨t, ht, hp⟩ => ⟨_, (truR_mem hG ht).1, hp⟩, fun ⟨t, ht, hp⟩ => by obtain ⟨s, hs, rfl⟩ := truR_sur hG ht; exact ⟨s, hs, hp⟩⟩
theorem truR_nil {m : CopM} (hG : Good m) : hasS m = decide (0 < (truR m (manyS m).toNat).length) := by
  rw [Bool.eq_iff_iff, decide_eq_true_eq]
  unfold hasS
  constructor
  · intro h
    cases hl : truthsL m with
    | nil => rw [hl] at h; cases h
    | cons t l =>
      obtain ⟨s, hs, _⟩ := truR_sur hG (t := t) (by rw [hl]; simp)
      exact List.length_pos_of_mem hs
  · intro h
    obtain ⟨s, hs⟩ := List.exists_mem_of_length_pos h
    have := (truR_mem hG hs).1
    cases hl : truthsL m with
    | nil => rw [hl] at this; cases this
    | cons t l => rfl
/-- how many, as a verdict -/
theorem verdict_count (l : List (Int × List Int)) (p : Int × List Int → Bool) : verdictS l p = if l.countP p = l.length then 1 else if l.countP p = 0 then 2 else 3 := by
  unfold verdictS
  have h1 : l.all p = decide (l.countP p = l.length) := by
    rw [Bool.eq_iff_iff, decide_eq_true_eq, List.all_eq_true, List.countP_eq_length]
  have h2 : l.any p = !decide (l.countP p = 0) := by
    rw [Bool.eq_iff_iff]
    simp [List.any_eq_true, List.countP_eq_zero]
  rw [h1, h2]
  by_cases a : l.countP p = l.length
  · simp [a]
  · by_cases b : l.countP p = 0 <;> simp [a, b]
theorem truR_verdict {m : CopM} (hG : Good m) (p : Int × List Int → Bool) : verdictS (truR m (manyS m).toNat) (fun t => p (padT t)) = verdictS (truthsL m) p := by
  unfold verdictS; rw [truR_all hG, truR_any hG]
section
variable {γ : Type} (E : Env γ) (g : γ) (H : AHeap)
theorem Kept_spec (m : CopM) (s1 s2 s3 s4 tl cs ws : Value) (h : Int) (ls cl wl : List Int) (hok : (ccells m s1 s2 s3 s4).all cellOk = true) (hW : WOk (withCW m cl wl)) (hT : TOk h (pad5 ls)) (hll : ls.length = hrs m) (j : Nat) (hj : j < hrs m)
    (hr1 : RdS H tl 1 (encI ls)) (hr2 : RdS H cs 1 (encI cl)) (hr3 : RdS H ws 1 (encI wl)) : CallJ Try.prog E 97 [cv m s1 s2 s3 s4, .agg ⟨[.int .i64 h, tl]⟩, cs, ws, .int .i64 j] (fun v H' g' => v = .bool (keepQ (withCW m cl wl) j (padT (h, ls))) ∧ H' = H ∧ g' = g) H g := by
  have hokt : [Value.int .i64 h, tl].all cellOk = true := by
    obtain ⟨a, b, c, rfl⟩ := RdS.shape hr1; rfl
  have hcall := fun (g' : Unit) (H' : AHeap) => Hot_spec trivE g' H' m s1 s2 s3 s4 tl cs ws h ls cl wl hok hW hT hll j hj
  have hwl : wl.length = hrs m := hW.wl
  have hel : (encI wl)[(j : Int).toNat]? = some [.int .i64 (wl.getD j 0)] := by simp [List.getD, show j < wl.length by omega]
  have hres : keepQ (withCW m cl wl) j (padT (h, ls)) = decide (wl.getD j 0 ≤ hotS (withCW m cl wl) h (pad5 ls) j) := rfl
  rw [hres]
  generalize hotS (withCW m cl wl) h (pad5 ls) j = x at *
  generalize wl.getD j 0 = w at *
  refine CallJ.tidy ?_
  unfold cv
  refine CallJ.enter Try.func97 rfl (by simp only [Try.ntmps97, List.length_cons, List.length_nil, Nat.zero_add, Nat.reduceAdd, Nat.reduceSub, List.replicate_succ, List.replicate_zero, List.cons_append, List.nil_append]; rfl) ?_
  repeat' (first
    | ((fail_if_success (first | refine is_ucall ?_ | refine is_umcall ?_)); first | refine W1 ?_ | refine Wc ?_ | refine W2c ?_ ?_ | refine Wg ?_ | refine W2 ?_ ?_ | exact Wdead | refine Wlive (fun hb => ?_) | intro _ _ _ _ _ _ _ _ | refine We ?_ | refine Wx ?_ | refine Wt ?_ | refine Wm ?_ | refine W2m ?_ ?_ | refine Wl ?_)
    | fail)
  refine WPJ.draw 11 mixed (by kernel_rfl) (by kernel_rfl) (by kernel_rfl) (by decide) ?_
  refine MonoJ.normA ?_
  repeat' (first
    | ((fail_if_success (first | refine is_ucall ?_ | refine is_umcall ?_)); first | refine W1 ?_ | refine Wc ?_ | refine W2c ?_ ?_ | refine Wg ?_ | refine W2 ?_ ?_ | exact Wdead | refine Wlive (fun hb => ?_) | intro _ _ _ _ _ _ _ _ | refine We ?_ | refine Wx ?_ | refine Wt ?_ | refine Wm ?_ | refine W2m ?_ ?_ | refine Wl ?_)
    | fail)
  refine mj_callP (h := hcall _ _ ?_ ?_ ?_) (k := ?_)
  · exact hr1.ext extA
  · exact hr2.ext extA
  · exact hr3.ext extA
  clear hcall
  refine MonoJ.normA ?_
  repeat' (first
    | ((fail_if_success (first | refine is_ucall ?_ | refine is_umcall ?_)); first | refine W1 ?_ | refine Wc ?_ | refine W2c ?_ ?_ | refine Wg ?_ | refine W2 ?_ ?_ | exact Wdead | refine Wlive (fun hb => ?_) | intro _ _ _ _ _ _ _ _ | refine We ?_ | refine Wx ?_ | refine Wt ?_ | refine Wm ?_ | refine W2m ?_ ?_ | refine Wl ?_)
    | fail)
  exact ⟨rfl, rfl, rfl⟩
theorem Verdict_spec (y n : Int) : CallJ Try.prog E 98 [.int .i64 y, .int .i64 n] (fun v H' g' => v = .int .i64 (if y = n then 1 else if y = 0 then 2 else 3) ∧ H' = H ∧ g' = g) H g := by
  refine CallJ.tidy ?_
  refine CallJ.enter Try.func98 rfl (by simp only [Try.ntmps98, List.length_cons, List.length_nil, Nat.zero_add, Nat.reduceAdd, Nat.reduceSub, List.replicate_succ, List.replicate_zero, List.cons_append, List.nil_append]; rfl) ?_
  by_cases h1 : y = n
  · rw [if_pos h1]
    repeat' (first
      | ((fail_if_success (first | refine is_ucall ?_ | refine is_umcall ?_)); first | refine W1 ?_ | refine Wc ?_ | refine W2c ?_ ?_ | refine Wg ?_ | refine W2 ?_ ?_ | exact Wdead | refine Wlive (fun hb => ?_) | intro _ _ _ _ _ _ _ _ | refine We ?_ | refine Wx ?_ | refine Wt ?_ | refine Wm ?_ | refine W2m ?_ ?_ | refine Wl ?_)
      | fail)
    exact ⟨rfl, rfl, rfl⟩
  · rw [if_neg h1]
    by_cases h2 : y = 0
    · rw [if_pos h2]
      repeat' (first
        | ((fail_if_success (first | refine is_ucall ?_ | refine is_umcall ?_)); first | refine W1 ?_ | refine Wc ?_ | refine W2c ?_ ?_ | refine Wg ?_ | refine W2 ?_ ?_ | exact Wdead | refine Wlive (fun hb => ?_) | intro _ _ _ _ _ _ _ _ | refine We ?_ | refine Wx ?_ | refine Wt ?_ | refine Wm ?_ | refine W2m ?_ ?_ | refine Wl ?_)
        | fail)
      exact ⟨rfl, rfl, rfl⟩
    · rw [if_neg h2]
      repeat' (first
        | ((fail_if_success (first | refine is_ucall ?_ | refine is_umcall ?_)); first | refine W1 ?_ | refine Wc ?_ | refine W2c ?_ ?_ | refine Wg ?_ | refine W2 ?_ ?_ | exact Wdead | refine Wlive (fun hb => ?_) | intro _ _ _ _ _ _ _ _ | refine We ?_ | refine Wx ?_ | refine Wt ?_ | refine Wm ?_ | refine W2m ?_ ?_ | refine Wl ?_)
        | fail)
      exact ⟨rfl, rfl, rfl⟩
theorem KeepsR_spec (m : CopM) (s1 s2 s3 s4 lv : Value) (ts : List (Int × List Int)) (hm : CopY H m s1 s2 s3 s4) (hG : Good m) (hl : TrL H lv ts) (hts : ∀ t ∈ ts, t.2.length = hrs m ∧ TOk t.1 (pad5 t.2)) (hn : ts.length ≤ 3000) (j : Nat) (hj : j < hrs m) :
    CallJ Try.prog E 37 [cv m s1 s2 s3 s4, lv, .int .i64 j] (fun v H' g' => v = .int .i64 (verdictS ts fun t => keepQ m j (padT t)) ∧ H' = H ∧ g' = g) H g := by
  have hok := hm.cells
  refine CallJ.tidy ?_
  unfold cv
  have hr1 := hm.coal
  have hr2 := hm.want
  obtain ⟨tv, hr, htl, hrow⟩ := hl
  have hvc : verdictS ts (fun t => keepQ m j (padT t)) = if ((ts.countP fun t => keepQ m j (padT t) : Nat) : Int) = (ts.length : Int) then 1 else if ((ts.countP fun t => keepQ m j (padT t) : Nat) : Int) = 0 then 2 else 3 := by
    rw [verdict_count]
    generalize ts.countP (fun t => keepQ m j (padT t)) = a
    generalize ts.length = b
    by_cases h1 : a = b
    · subst h1; rw [if_pos rfl, if_pos rfl]
    · have h1' : ¬ ((a : Nat) : Int) = (b : Int) := by omega
      rw [if_neg h1, if_neg h1']
      by_cases h2 : a = 0
      · subst h2; rw [if_pos rfl]; rfl
      · have h2' : ¬ ((a : Nat) : Int) = 0 := by omega
        rw [if_neg h2, if_neg h2']
  rw [hvc]
  clear hvc
  refine CallJ.enter Try.func37 rfl (by simp only [Try.ntmps37, List.length_cons, List.length_nil, Nat.zero_add, Nat.reduceAdd, Nat.reduceSub, List.replicate_succ, List.replicate_zero, List.cons_append, List.nil_append]; rfl) ?_
  repeat' (first
    | ((fail_if_success (first | refine is_ucall ?_ | refine is_umcall ?_)); first | refine W1 ?_ | refine Wc ?_ | refine W2c ?_ ?_ | refine Wg ?_ | refine W2 ?_ ?_ | exact Wdead | refine Wlive (fun hb => ?_) | intro _ _ _ _ _ _ _ _ | refine We ?_ | refine Wx ?_ | refine Wt ?_ | refine Wm ?_ | refine W2m ?_ ?_ | refine Wl ?_)
    | fail)
  refine WPJ.loopT ts.length [9, 10, 11, 12, 15, 16, 17, 18, 19, 20, 21, 22, 23, 24, 25, 26, 27, 13, 14] (fun i (_ : Unit) => [(8, .int .i64 i), (7, .int .i64 ((ts.take i).countP fun t => keepQ m j (padT t) : Nat))])
    (fun i _ H1 g1 => g1 = g ∧ H1 = H ++ [.row (ccells m s1 s2 s3 s4) 1 true]) 0 () (Nat.zero_le _) (by intro p hp; simp at hp; rcases hp with rfl | rfl <;> rfl) ⟨rfl, rfl⟩ ?_
  rintro i _ H1 g1 hi ⟨rfl, rfl⟩ hl0
  simp only [updT, maskT, List.set_cons_zero, List.set_cons_succ]
  have hcb := List.countP_le_length (p := fun t => keepQ m j (padT t)) (l := ts.take i)
  rw [List.length_take] at hcb
  rcases Nat.lt_or_ge i ts.length with hlt | hge
  · obtain ⟨r1, r2⟩ := hrow i (by omega) hlt
    obtain ⟨t1, t2⟩ := hts _ (List.getElem_mem hlt)
    have hel : (tv.map encV)[(i : Int).toNat]? = some [.int .i64 ts[i].1, tv[i].2] := by simp [show i < tv.length by omega, encV, r1]
    have hct : (ts.take (i + 1)).countP (fun t => keepQ m j (padT t)) = (ts.take i).countP (fun t => keepQ m j (padT t)) + if keepQ m j (padT ts[i]) then 1 else 0 := by
      rw [List.take_succ_eq_append_getElem hlt, List.countP_append]
      cases hk : keepQ m j (padT ts[i]) <;> simp [hk]
    have hcall := fun (g' : Unit) (H' : AHeap) => Kept_spec trivE g' H' m s1 s2 s3 s4 tv[i].2 s1 s2 ts[i].1 ts[i].2 m.coal m.want hok hG.w t2 t1 j hj
    rw [hct]
    generalize ts[i] = t at *
    generalize tv[i].2 = tl at *
    clear hrow r1 hts
    repeat' (first
      | ((fail_if_success (first | refine is_ucall ?_ | refine is_umcall ?_)); first | refine W1 ?_ | refine Wc ?_ | refine W2c ?_ ?_ | refine Wg ?_ | refine W2 ?_ ?_ | exact Wdead | refine Wlive (fun hb => ?_) | intro _ _ _ _ _ _ _ _ | refine We ?_ | refine Wx ?_ | refine Wt ?_ | refine Wm ?_ | refine W2m ?_ ?_ | refine Wl ?_)
      | fail)
    refine WPJ.draw 11 mixed (by kernel_rfl) (by kernel_rfl) (by kernel_rfl) (by decide) ?_
    refine MonoJ.normA ?_
    repeat' (first
      | ((fail_if_success (first | refine is_ucall ?_ | refine is_umcall ?_)); first | refine W1 ?_ | refine Wc ?_ | refine W2c ?_ ?_ | refine Wg ?_ | refine W2 ?_ ?_ | exact Wdead | refine Wlive (fun hb => ?_) | intro _ _ _ _ _ _ _ _ | refine We ?_ | refine Wx ?_ | refine Wt ?_ | refine Wm ?_ | refine W2m ?_ ?_ | refine Wl ?_)
      | fail)
    refine mj_callP (h := hcall _ _ ?_ ?_ ?_) (k := ?_)
    · exact r2.ext extA
    · exact hr1.ext extA
    · exact hr2.ext extA
    rw [withCW_self]
    clear hcall
    cases hk : keepQ m j (padT (t.1, t.2)) with
    | true =>
      have hk2 : keepQ m j (padT t) = true := hk
      first | rw [hk2, if_pos rfl] | rw [if_pos rfl]
      refine MonoJ.normA ?_
      repeat' (first
        | ((fail_if_success (first | refine is_ucall ?_ | refine is_umcall ?_)); first | refine W1 ?_ | refine Wc ?_ | refine W2c ?_ ?_ | refine Wg ?_ | refine W2 ?_ ?_ | exact Wdead | refine Wlive (fun hb => ?_) | intro _ _ _ _ _ _ _ _ | refine We ?_ | refine Wx ?_ | refine Wt ?_ | refine Wm ?_ | refine W2m ?_ ?_ | refine Wl ?_)
        | fail)
      exact ⟨(), hlt, (by repeat' (first | exact Weak.nil | refine Weak.wild ?_ | refine Weak.same ?_ | refine Weak.intEq (by first | omega | (simp; done) | (push_cast; omega)) ?_)), rfl, rfl⟩
    | false =>
      have hk2 : keepQ m j (padT t) = false := hk
      first | rw [hk2, if_neg (by simp)] | rw [if_neg (by simp)]
      refine MonoJ.normA ?_
      repeat' (first
        | ((fail_if_success (first | refine is_ucall ?_ | refine is_umcall ?_)); first | refine W1 ?_ | refine Wc ?_ | refine W2c ?_ ?_ | refine Wg ?_ | refine W2 ?_ ?_ | exact Wdead | refine Wlive (fun hb => ?_) | intro _ _ _ _ _ _ _ _ | refine We ?_ | refine Wx ?_ | refine Wt ?_ | refine Wm ?_ | refine W2m ?_ ?_ | refine Wl ?_)
        | fail)
      exact ⟨(), hlt, (by repeat' (first | exact Weak.nil | refine Weak.wild ?_ | refine Weak.same ?_ | refine Weak.intEq (by first | omega | (simp; done) | (push_cast; omega)) ?_)), rfl, rfl⟩
  · obtain rfl : i = ts.length := by omega
    rw [List.take_length, ← htl]
    generalize ts.countP (fun t => keepQ m j (padT t)) = y at *
    repeat' (first
      | ((fail_if_success (first | refine is_ucall ?_ | refine is_umcall ?_)); first | refine W1 ?_ | refine Wc ?_ | refine W2c ?_ ?_ | refine Wg ?_ | refine W2 ?_ ?_ | exact Wdead | refine Wlive (fun hb => ?_) | intro _ _ _ _ _ _ _ _ | refine We ?_ | refine Wx ?_ | refine Wt ?_ | refine Wm ?_ | refine W2m ?_ ?_ | refine Wl ?_)
      | fail)
    refine OpsJ.normA ?_
    refine st_callP (h := Verdict_spec _ _ _ (y : Int) (tv.length : Int)) (k := ?_)
    refine OpsJ.normA ?_
    repeat' (first
      | ((fail_if_success (first | refine is_ucall ?_ | refine is_umcall ?_)); first | refine W1 ?_ | refine Wc ?_ | refine W2c ?_ ?_ | refine Wg ?_ | refine W2 ?_ ?_ | exact Wdead | refine Wlive (fun hb => ?_) | intro _ _ _ _ _ _ _ _ | refine We ?_ | refine Wx ?_ | refine Wt ?_ | refine Wm ?_ | refine W2m ?_ ?_ | refine Wl ?_)
      | fail)
    exact ⟨rfl, rfl, rfl⟩
end
end Go.Proofs.Ytjbiidlmpaibkaa
