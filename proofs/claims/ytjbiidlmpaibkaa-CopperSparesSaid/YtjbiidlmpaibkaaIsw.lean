import Derived.Test.YtjbiidlmpaibkaaIpw
namespace Go.Proofs.Ytjbiidlmpaibkaa
open Go Go.Abs Go.Proofs
set_option maxHeartbeats 4000000
set_option maxRecDepth 20000
attribute [local irreducible] CallJ OpsJ WPJ CallV MonoJ SpecJ
theorem kept_all {q : CopM} (hW : WOk q) (t : Int × List Int) : keptT q t = (List.range (hrs q)).all fun j => keepQ q j t := by
  have hn5 := (hrs_le hW).1
  unfold keptT areKeptS
  rw [Bool.eq_iff_iff, List.all_eq_true, List.all_eq_true]
  refine ⟨fun h j hj => ?_, fun h j hj => ?_⟩
  · have := h j hj
    have hj' := List.mem_range.1 hj
    rw [arr5_getD hj' (by omega)] at this
    exact this
  · have hj' := List.mem_range.1 hj
    rw [arr5_getD hj' (by omega)]
    exact h j hj
section
variable {γ : Type} (E : Env γ) (g : γ) (H : AHeap)
theorem Whole_spec (m : CopM) (s1 s2 s3 s4 tl cs ws : Value) (h : Int) (ls cl wl : List Int) (hok : (ccells m s1 s2 s3 s4).all cellOk = true) (hW : WOk (withCW m cl wl)) (hT : TOk h (pad5 ls)) (hll : ls.length = hrs m)
    (hr1 : RdS H tl 1 (encI ls)) (hr2 : RdS H cs 1 (encI cl)) (hr3 : RdS H ws 1 (encI wl)) : CallJ Try.prog E 106 [cv m s1 s2 s3 s4, .agg ⟨[.int .i64 h, tl]⟩, cs, ws] (fun v H' g' => v = .bool ((List.range (hrs m)).all fun j => keepQ (withCW m cl wl) j (padT (h, ls))) ∧ H' = H ∧ g' = g) H g := by
  have hokt : [Value.int .i64 h, tl].all cellOk = true := by
    obtain ⟨a, b, c, rfl⟩ := RdS.shape hr1; rfl
  refine CallJ.tidy ?_
  unfold cv
  obtain ⟨hn5, hnl⟩ := hrs_le hW
  have hnl2 : ((hrs m : Nat) : Int) = m.last + 1 := hnl
  have hl0 : 0 ≤ m.last := hW.l0
  have hl4 : m.last ≤ 4 := hW.l4
  have hcall : ∀ (H' : AHeap) (j : Nat), Ext H H' → j < hrs m → CallJ Try.prog E 97 [cv m s1 s2 s3 s4, .agg ⟨[.int .i64 h, tl]⟩, cs, ws, .int .i64 j] (fun v H2 g' => v = .bool (keepQ (withCW m cl wl) j (padT (h, ls))) ∧ H2 = H' ∧ g' = g) H' g := fun H' j he hj => Kept_spec E g H' m s1 s2 s3 s4 tl cs ws h ls cl wl hok hW hT hll j hj (hr1.ext he) (hr2.ext he) (hr3.ext he)
  refine CallJ.enter Try.func106 rfl (by simp only [Try.ntmps106, List.length_cons, List.length_nil, Nat.zero_add, Nat.reduceAdd, Nat.reduceSub, List.replicate_succ, List.replicate_zero, List.cons_append, List.nil_append]; rfl) ?_
  repeat' (first
    | ((fail_if_success (first | refine is_ucall ?_ | refine is_umcall ?_)); first | refine W1 ?_ | refine Wc ?_ | refine W2c ?_ ?_ | refine Wg ?_ | refine W2 ?_ ?_ | exact Wdead | refine Wlive (fun hb => ?_) | intro _ _ _ _ _ _ _ _ | refine We ?_ | refine Wx ?_ | refine Wt ?_ | refine Wm ?_ | refine W2m ?_ ?_ | refine Wl ?_)
    | fail)
  refine WPJ.loopT (hrs m) [10, 11, 12, 13, 16, 17, 18, 19, 20, 21, 22, 14, 15] (fun j (_ : Unit) => [(9, .int .i64 j)])
    (fun j _ H1 g1 => g1 = g ∧ H1 = H ++ [.row (ccells m s1 s2 s3 s4) 1 true, .row [.int .i64 h, tl] 1 true] ∧ ∀ i < j, keepQ (withCW m cl wl) i (padT (h, ls)) = true) 0 () (Nat.zero_le _) (by intro p hp; simp at hp; rcases hp with rfl; rfl) ⟨rfl, rfl, fun i h => by omega⟩ ?_
  rintro j _ H1 g1 hj ⟨rfl, rfl, hx⟩ hl1
  simp only [updT, maskT, List.set_cons_zero, List.set_cons_succ]
  rcases Nat.lt_or_ge j (hrs m) with hlt | hge
  · have hK := hcall (H ++ [.row (ccells m s1 s2 s3 s4) 1 true, .row [.int .i64 h, tl] 1 true]) j ⟨_, rfl⟩ hlt
    clear hcall
    repeat' (first
      | ((fail_if_success (first | refine is_ucall ?_ | refine is_umcall ?_)); first | refine W1 ?_ | refine Wc ?_ | refine W2c ?_ ?_ | refine Wg ?_ | refine W2 ?_ ?_ | exact Wdead | refine Wlive (fun hb => ?_) | intro _ _ _ _ _ _ _ _ | refine We ?_ | refine Wx ?_ | refine Wt ?_ | refine Wm ?_ | refine W2m ?_ ?_ | refine Wl ?_)
      | fail)
    refine st_callP (h := hK) (k := ?_)
    clear hK
    cases hk : keepQ (withCW m cl wl) j (padT (h, ls)) with
    | true =>
      have hx2 : ∀ i < j + 1, keepQ (withCW m cl wl) i (padT (h, ls)) = true := fun i hi => by
        rcases Nat.lt_or_ge i j with h | h
        · exact hx i h
        · obtain rfl : i = j := by omega
          exact hk
      refine OpsJ.normA ?_
      repeat' (first
        | ((fail_if_success (first | refine is_ucall ?_ | refine is_umcall ?_)); first | refine W1 ?_ | refine Wc ?_ | refine W2c ?_ ?_ | refine Wg ?_ | refine W2 ?_ ?_ | exact Wdead | refine Wlive (fun hb => ?_) | intro _ _ _ _ _ _ _ _ | refine We ?_ | refine Wx ?_ | refine Wt ?_ | refine Wm ?_ | refine W2m ?_ ?_ | refine Wl ?_)
        | fail)
      exact ⟨(), hlt, (by repeat' (first | exact Weak.nil | refine Weak.wild ?_ | refine Weak.same ?_ | refine Weak.intEq (by first | omega | (simp; done) | (push_cast; omega)) ?_)), rfl, rfl, hx2⟩
    | false =>
      have hF : ((List.range (hrs m)).all fun j => keepQ (withCW m cl wl) j (padT (h, ls))) = false := List.all_eq_false.2 ⟨j, List.mem_range.2 hlt, by rw [hk]; simp⟩
      rw [hF]
      refine OpsJ.normA ?_
      repeat' (first
        | ((fail_if_success (first | refine is_ucall ?_ | refine is_umcall ?_)); first | refine W1 ?_ | refine Wc ?_ | refine W2c ?_ ?_ | refine Wg ?_ | refine W2 ?_ ?_ | exact Wdead | refine Wlive (fun hb => ?_) | intro _ _ _ _ _ _ _ _ | refine We ?_ | refine Wx ?_ | refine Wt ?_ | refine Wm ?_ | refine W2m ?_ ?_ | refine Wl ?_)
        | fail)
      exact ⟨rfl, rfl, rfl⟩
  · obtain rfl : j = hrs m := by omega
    have hT2 : ((List.range (hrs m)).all fun j => keepQ (withCW m cl wl) j (padT (h, ls))) = true := List.all_eq_true.2 fun i hi => hx i (List.mem_range.1 hi)
    rw [hT2]
    repeat' (first
      | ((fail_if_success (first | refine is_ucall ?_ | refine is_umcall ?_)); first | refine W1 ?_ | refine Wc ?_ | refine W2c ?_ ?_ | refine Wg ?_ | refine W2 ?_ ?_ | exact Wdead | refine Wlive (fun hb => ?_) | intro _ _ _ _ _ _ _ _ | refine We ?_ | refine Wx ?_ | refine Wt ?_ | refine Wm ?_ | refine W2m ?_ ?_ | refine Wl ?_)
      | fail)
    exact ⟨rfl, rfl, rfl⟩
theorem Sum_spec (ws ms : Value) (wl ml : List Int) (hr1 : RdS H ws 1 (encI wl)) (hr2 : RdS H ms 1 (encI ml)) (hl : ml.length = wl.length) (hn : wl.length ≤ 1000) (hb : ∀ x ∈ wl, 0 ≤ x ∧ x ≤ 20) (hc : ∀ x ∈ ml, 0 ≤ x ∧ x ≤ 20) :
    CallJ Try.prog E 45 [ws, ms] (fun v H' g' => v = slV H.length (addL wl.length wl ml) ∧ H' = H ++ slH enc1 1 (addL wl.length wl ml) ∧ g' = g) H g := by
  refine CallJ.tidy ?_
  refine CallJ.enter Try.func45 rfl (by simp only [Try.ntmps45, List.length_cons, List.length_nil, Nat.zero_add, Nat.reduceAdd, Nat.reduceSub, List.replicate_succ, List.replicate_zero, List.cons_append, List.nil_append]; rfl) ?_
  repeat' (first
    | ((fail_if_success (first | refine is_ucall ?_ | refine is_umcall ?_)); first | refine W1 ?_ | refine Wc ?_ | refine W2c ?_ ?_ | refine Wg ?_ | refine W2 ?_ ?_ | exact Wdead | refine Wlive (fun hb => ?_) | intro _ _ _ _ _ _ _ _ | refine We ?_ | refine Wx ?_ | refine Wt ?_ | refine Wm ?_ | refine W2m ?_ ?_ | refine Wl ?_)
    | fail)
  refine WPJ.loopT wl.length [7, 8, 9, 10, 13, 14, 15, 16, 17, 18, 19, 20, 21, 22, 23, 24, 11, 12] (fun j (v : Value) => [(6, .int .i64 j), (5, v)])
    (fun j v H1 g1 => g1 = g ∧ Ext H H1 ∧ AppG enc1 1 H1 H.length v (addL j wl ml)) 0 (.slice none 0 0) (Nat.zero_le _)
    (by intro p hp; simp at hp; rcases hp with rfl | rfl <;> rfl) ⟨rfl, Ext.refl _, AppG.nil⟩ ?_
  rintro j v H1 g1 hj ⟨rfl, he, hA⟩ hl0
  simp only [updT, maskT, List.set_cons_zero, List.set_cons_succ]
  rcases Nat.lt_or_ge j wl.length with hlt | hge
  · have hlt2 : j < ml.length := by omega
    have hel : (encI wl)[(j : Int).toNat]? = some [.int .i64 wl[j]] := by simp [hlt]
    have hel2 : (encI ml)[(j : Int).toNat]? = some [.int .i64 ml[j]] := by simp [hlt2]
    have hstep : addL (j + 1) wl ml = addL j wl ml ++ [wl[j] + ml[j]] := by
      unfold addL; rw [List.range_succ, List.map_append]; simp [List.getD, hlt, hlt2]
    have b1 := hb _ (List.getElem_mem hlt)
    have b2 := hc _ (List.getElem_mem hlt2)
    have hal : (addL j wl ml).length = j := by simp [addL]
    generalize wl[j] = x at *
    generalize ml[j] = y at *
    repeat' (first
      | ((fail_if_success (first | refine is_ucall ?_ | refine is_umcall ?_)); first | refine W1 ?_ | refine Wc ?_ | refine W2c ?_ ?_ | refine Wg ?_ | refine W2 ?_ ?_ | exact Wdead | refine Wlive (fun hb => ?_) | intro _ _ _ _ _ _ _ _ | refine We ?_ | refine Wx ?_ | refine Wt ?_ | refine Wm ?_ | refine W2m ?_ ?_ | refine Wl ?_)
      | fail)
    refine WPJ.draw 11 mixed (by kernel_rfl) (by kernel_rfl) (by kernel_rfl) (by decide) ?_
    refine MonoJ.normA ?_
    repeat' (first
      | ((fail_if_success (first | refine is_ucall ?_ | refine is_umcall ?_)); first | refine W1 ?_ | refine Wc ?_ | refine W2c ?_ ?_ | refine Wg ?_ | refine W2 ?_ ?_ | exact Wdead | refine Wlive (fun hb => ?_) | intro _ _ _ _ _ _ _ _ | refine We ?_ | refine Wx ?_ | refine Wt ?_ | refine Wm ?_ | refine W2m ?_ ?_ | refine Wl ?_)
      | fail)
    refine st_appG (enc := enc1) (a := x + y) (hA.app _) rfl (fun _ => rfl) rfl rfl getA (by simp) rfl rfl (by simp; omega) (by omega) (by decide) ?_
    intro v2 H2 hA2 hE hK hL
    obtain ⟨i2, k2, rfl⟩ := hA2.slice
    refine OpsJ.normA ?_
    repeat' (first
      | ((fail_if_success (first | refine is_ucall ?_ | refine is_umcall ?_)); first | refine W1 ?_ | refine Wc ?_ | refine W2c ?_ ?_ | refine Wg ?_ | refine W2 ?_ ?_ | exact Wdead | refine Wlive (fun hb => ?_) | intro _ _ _ _ _ _ _ _ | refine We ?_ | refine Wx ?_ | refine Wt ?_ | refine Wm ?_ | refine W2m ?_ ?_ | refine Wl ?_)
      | fail)
    exact ⟨.slice (some ⟨i2, 0, none⟩) k2 k2, hlt, (by repeat' (first | exact Weak.nil | refine Weak.wild ?_ | refine Weak.same ?_ | refine Weak.intEq (by first | omega | (simp; done) | (push_cast; omega)) ?_)), rfl, hE H extA (Nat.le_refl _), by rw [hstep]; exact hA2⟩
  · obtain rfl : j = wl.length := by omega
    repeat' (first
      | ((fail_if_success (first | refine is_ucall ?_ | refine is_umcall ?_)); first | refine W1 ?_ | refine Wc ?_ | refine W2c ?_ ?_ | refine Wg ?_ | refine W2 ?_ ?_ | exact Wdead | refine Wlive (fun hb => ?_) | intro _ _ _ _ _ _ _ _ | refine We ?_ | refine Wx ?_ | refine Wt ?_ | refine Wm ?_ | refine W2m ?_ ?_ | refine Wl ?_)
      | fail)
    exact hA.tidy (Nat.le_refl _) he (fun _ => rfl) ⟨rfl, rfl, rfl⟩
theorem Single_spec (m : CopM) (s1 s2 s3 s4 : Value) (hm : CopY H m s1 s2 s3 s4) (hW : WOk m) (k : Nat) (n : Int) (hk : k < hrs m) :
    CallJ Try.prog E 65 [cv m s1 s2 s3 s4, .int .i64 k, .int .i64 n] (fun v H' g' => v = .slice (some ⟨H.length, 0, none⟩) (hrs m) (hrs m) ∧ H' = H ++ [.row (encE (oneL (hrs m) k n)) 1 true] ∧ g' = g) H g := by
  have hok := hm.cells
  refine CallJ.tidy ?_
  unfold cv
  have hl0 := hW.l0
  have hl4 := hW.l4
  obtain ⟨hn5, hnl⟩ := hrs_le hW
  have hrl : (List.replicate (m.last + 1).toNat (Value.int .i64 (Int.ofNat 0))).length = hrs m := by simp [hrs]
  have hone : (List.replicate (m.last + 1).toNat (Value.int .i64 (Int.ofNat 0))).set k (.int .i64 n) = encE (oneL (hrs m) k n) := by
    unfold oneL encE
    rw [List.map_set, List.map_replicate]; rfl
  refine CallJ.enter Try.func65 rfl (by simp only [Try.ntmps65, List.length_cons, List.length_nil, Nat.zero_add, Nat.reduceAdd, Nat.reduceSub, List.replicate_succ, List.replicate_zero, List.cons_append, List.nil_append]; rfl) ?_
  repeat' (first
    | ((fail_if_success (first | refine is_ucall ?_ | refine is_umcall ?_)); first | refine W1 ?_ | refine Wc ?_ | refine W2c ?_ ?_ | refine Wg ?_ | refine W2 ?_ ?_ | exact Wdead | refine Wlive (fun hb => ?_) | intro _ _ _ _ _ _ _ _ | refine We ?_ | refine Wx ?_ | refine Wt ?_ | refine Wm ?_ | refine W2m ?_ ?_ | refine Wl ?_)
    | fail)
  rw [Nat.mul_one, hone]
  refine Tidy.two (i := H.length + 1) (cells := encE (oneL (hrs m) k n)) (es := 1) (v0 := .slice (some ⟨H.length, 0, none⟩) (m.last + 1).toNat (m.last + 1).toNat) extA getA (by omega) (encE_flat _) (.slice (j := 0) rfl) ⟨rfl, rfl, rfl⟩
theorem Wholes_spec (m : CopM) (s1 s2 s3 s4 lv cs ws : Value) (ts : List (Int × List Int)) (cl wl : List Int) (hm : CopY H m s1 s2 s3 s4) (hW : WOk (withCW m cl wl)) (hl : TrL H lv ts) (hts : ∀ t ∈ ts, t.2.length = hrs m ∧ TOk t.1 (pad5 t.2)) (hn : ts.length ≤ 3000)
    (hr1 : RdS H cs 1 (encI cl)) (hr2 : RdS H ws 1 (encI wl)) :
    CallJ Try.prog E 44 [cv m s1 s2 s3 s4, lv, cs, ws] (fun v H' g' => v = .int .i64 (verdictS ts fun t => keptT (withCW m cl wl) (padT t)) ∧ H' = H ∧ g' = g) H g := by
  have hok := hm.cells
  obtain ⟨tv, hr, htl, hrow⟩ := hl
  have hvc : verdictS ts (fun t => keptT (withCW m cl wl) (padT t)) = if ((ts.countP fun t => keptT (withCW m cl wl) (padT t) : Nat) : Int) = (ts.length : Int) then 1 else if ((ts.countP fun t => keptT (withCW m cl wl) (padT t) : Nat) : Int) = 0 then 2 else 3 := by
    rw [verdict_count]
    generalize ts.countP (fun t => keptT (withCW m cl wl) (padT t)) = a
    generalize ts.length = b
    by_cases h1 : a = b
    · subst h1; rw [if_pos rfl, if_pos rfl]
    · have h1' : ¬ ((a : Nat) : Int) = (b : Int) := by omega
      rw [if_neg h1, if_neg h1']
      by_cases h2 : a = 0
      · subst h2; rw [if_pos rfl]; rfl
      · have h2' : ¬ ((a : Nat) : Int) = 0 := by omega
        rw [if_neg h2, if_neg h2']
  have hwhole : ∀ (g' : Unit) (H' : AHeap) (i : Nat) (h1 : i < tv.length) (h2 : i < ts.length), Ext H H' → CallJ Try.prog trivE 106 [cv m s1 s2 s3 s4, .agg ⟨[.int .i64 ts[i].1, tv[i].2]⟩, cs, ws] (fun v H2 g2 => v = .bool (keptT (withCW m cl wl) (padT ts[i])) ∧ H2 = H' ∧ g2 = g') H' g' := fun g' H' i h1 h2 he => by
    obtain ⟨r1, r2⟩ := hrow i h1 h2
    obtain ⟨t1, t2⟩ := hts _ (List.getElem_mem h2)
    rw [kept_all hW]
    exact Whole_spec trivE g' H' m s1 s2 s3 s4 tv[i].2 cs ws ts[i].1 ts[i].2 cl wl hok hW t2 t1 (r2.ext he) (hr1.ext he) (hr2.ext he)
  rw [hvc]
  clear hvc
  refine CallJ.tidy ?_
  unfold cv
  refine CallJ.enter Try.func44 rfl (by simp only [Try.ntmps44, List.length_cons, List.length_nil, Nat.zero_add, Nat.reduceAdd, Nat.reduceSub, List.replicate_succ, List.replicate_zero, List.cons_append, List.nil_append]; rfl) ?_
  repeat' (first
    | ((fail_if_success (first | refine is_ucall ?_ | refine is_umcall ?_)); first | refine W1 ?_ | refine Wc ?_ | refine W2c ?_ ?_ | refine Wg ?_ | refine W2 ?_ ?_ | exact Wdead | refine Wlive (fun hb => ?_) | intro _ _ _ _ _ _ _ _ | refine We ?_ | refine Wx ?_ | refine Wt ?_ | refine Wm ?_ | refine W2m ?_ ?_ | refine Wl ?_)
    | fail)
  refine WPJ.loopT ts.length [11, 12, 13, 14, 17, 18, 19, 20, 21, 22, 23, 24, 25, 26, 15, 16] (fun i (_ : Unit) => [(10, .int .i64 i), (9, .int .i64 ((ts.take i).countP fun t => keptT (withCW m cl wl) (padT t) : Nat))])
    (fun i _ H1 g1 => g1 = g ∧ H1 = H ++ [.row (ccells m s1 s2 s3 s4) 1 true]) 0 () (Nat.zero_le _) (by intro p hp; simp at hp; rcases hp with rfl | rfl <;> rfl) ⟨rfl, rfl⟩ ?_
  rintro i _ H1 g1 hi ⟨rfl, rfl⟩ hl0
  simp only [updT, maskT, List.set_cons_zero, List.set_cons_succ]
  have hcb := List.countP_le_length (p := fun t => keptT (withCW m cl wl) (padT t)) (l := ts.take i)
  rw [List.length_take] at hcb
  rcases Nat.lt_or_ge i ts.length with hlt | hge
  · obtain ⟨r1, r2⟩ := hrow i (by omega) hlt
    have hel : (tv.map encV)[(i : Int).toNat]? = some [.int .i64 ts[i].1, tv[i].2] := by simp [show i < tv.length by omega, encV, r1]
    have hct : (ts.take (i + 1)).countP (fun t => keptT (withCW m cl wl) (padT t)) = (ts.take i).countP (fun t => keptT (withCW m cl wl) (padT t)) + if keptT (withCW m cl wl) (padT ts[i]) then 1 else 0 := by
      rw [List.take_succ_eq_append_getElem hlt, List.countP_append]
      cases hk : keptT (withCW m cl wl) (padT ts[i]) <;> simp [hk]
    have hcall := hwhole () (H ++ [.row (ccells m s1 s2 s3 s4) 1 true]) i (by omega) hlt ⟨_, rfl⟩
    rw [hct]
    clear hwhole
    generalize ts[i] = t at *
    generalize tv[i].2 = tl at *
    clear hrow r1 hts
    repeat' (first
      | ((fail_if_success (first | refine is_ucall ?_ | refine is_umcall ?_)); first | refine W1 ?_ | refine Wc ?_ | refine W2c ?_ ?_ | refine Wg ?_ | refine W2 ?_ ?_ | exact Wdead | refine Wlive (fun hb => ?_) | intro _ _ _ _ _ _ _ _ | refine We ?_ | refine Wx ?_ | refine Wt ?_ | refine Wm ?_ | refine W2m ?_ ?_ | refine Wl ?_)
      | fail)
    refine WPJ.draw 8 mixed (by kernel_rfl) (by kernel_rfl) (by kernel_rfl) (by decide) ?_
    refine MonoJ.normA ?_
    repeat' (first
      | ((fail_if_success (first | refine is_ucall ?_ | refine is_umcall ?_)); first | refine W1 ?_ | refine Wc ?_ | refine W2c ?_ ?_ | refine Wg ?_ | refine W2 ?_ ?_ | exact Wdead | refine Wlive (fun hb => ?_) | intro _ _ _ _ _ _ _ _ | refine We ?_ | refine Wx ?_ | refine Wt ?_ | refine Wm ?_ | refine W2m ?_ ?_ | refine Wl ?_)
      | fail)
    refine mj_callP (h := hcall) (k := ?_)
    clear hcall
    cases hk : keptT (withCW m cl wl) (padT t) with
    | true =>
      first | rw [hk, if_pos rfl] | rw [if_pos rfl] | skip
      refine MonoJ.normA ?_
      repeat' (first
        | ((fail_if_success (first | refine is_ucall ?_ | refine is_umcall ?_)); first | refine W1 ?_ | refine Wc ?_ | refine W2c ?_ ?_ | refine Wg ?_ | refine W2 ?_ ?_ | exact Wdead | refine Wlive (fun hb => ?_) | intro _ _ _ _ _ _ _ _ | refine We ?_ | refine Wx ?_ | refine Wt ?_ | refine Wm ?_ | refine W2m ?_ ?_ | refine Wl ?_)
        | fail)
      exact ⟨(), hlt, (by repeat' (first | exact Weak.nil | refine Weak.wild ?_ | refine Weak.same ?_ | refine Weak.intEq (by first | omega | (simp; done) | (push_cast; omega)) ?_)), rfl, rfl⟩
    | false =>
      first | rw [hk, if_neg (by simp)] | rw [if_neg (by simp)] | skip
      refine MonoJ.normA ?_
      repeat' (first
        | ((fail_if_success (first | refine is_ucall ?_ | refine is_umcall ?_)); first | refine W1 ?_ | refine Wc ?_ | refine W2c ?_ ?_ | refine Wg ?_ | refine W2 ?_ ?_ | exact Wdead | refine Wlive (fun hb => ?_) | intro _ _ _ _ _ _ _ _ | refine We ?_ | refine Wx ?_ | refine Wt ?_ | refine Wm ?_ | refine W2m ?_ ?_ | refine Wl ?_)
        | fail)
      exact ⟨(), hlt, (by repeat' (first | exact Weak.nil | refine Weak.wild ?_ | refine Weak.same ?_ | refine Weak.intEq (by first | omega | (simp; done) | (push_cast; omega)) ?_)), rfl, rfl⟩
  · obtain rfl : i = ts.length := by omega
    rw [List.take_length, ← htl]
    generalize ts.countP (fun t => keptT (withCW m cl wl) (padT t)) = y at *
    repeat' (first
      | ((fail_if_success (first | refine is_ucall ?_ | refine is_umcall ?_)); first | refine W1 ?_ | refine Wc ?_ | refine W2c ?_ ?_ | refine Wg ?_ | refine W2 ?_ ?_ | exact Wdead | refine Wlive (fun hb => ?_) | intro _ _ _ _ _ _ _ _ | refine We ?_ | refine Wx ?_ | refine Wt ?_ | refine Wm ?_ | refine W2m ?_ ?_ | refine Wl ?_)
      | fail)
    refine OpsJ.normA ?_
    refine st_callP (h := Verdict_spec _ _ _ (y : Int) (tv.length : Int)) (k := ?_)
    refine OpsJ.normA ?_
    repeat' (first
      | ((fail_if_success (first | refine is_ucall ?_ | refine is_umcall ?_)); first | refine W1 ?_ | refine Wc ?_ | refine W2c ?_ ?_ | refine Wg ?_ | refine W2 ?_ ?_ | exact Wdead | refine Wlive (fun hb => ?_) | intro _ _ _ _ _ _ _ _ | refine We ?_ | refine Wx ?_ | refine Wt ?_ | refine Wm ?_ | refine W2m ?_ ?_ | refine Wl ?_)
      | fail)
    exact ⟨rfl, rfl, rfl⟩
end
end Go.Proofs.Ytjbiidlmpaibkaa
