import Derived.Test.YtehobnpoeodhkaaTv
namespace Go.Proofs.Ytehobnpoeodhkaa
open Go Go.Abs Go.Proofs
set_option maxHeartbeats 1600000
attribute [local irreducible] CallJ OpsJ WPJ CallV MonoJ SpecJ

section
variable {γ : Type} (E : Env γ) (g : γ) (H : AHeap)
theorem clipsOf_y (m : HouseM) (s1 s2 s3 : Value) (t : Int) (hm : HouseY H m s1 s2 s3) :
   CallJ Try.prog E 131 [hv m s1 s2 s3, .int .i64 t] (fun v H' g' => v = .int .i64 (clipsOfS m t m.clips.length) ∧ H' = H ∧ g' = g) H g := by
  have hok : [Value.int .i64 m.hour, .int .i64 m.grace, s1, s2, s3].all cellOk = true := by have := hm.ok; simp [cellOk] at this ⊢; exact this
  have hr := hm.clips
  have hn3 := hm.n3
  refine CallJ.tidy ?_
  unfold hv
  refine CallJ.enter Try.func131 rfl (by simp only [Try.ntmps131, List.length_cons, List.length_nil, Nat.zero_add, Nat.reduceAdd, Nat.reduceSub, List.replicate_succ, List.replicate_zero, List.cons_append, List.nil_append]; rfl) ?_
  repeat' (first
    | refine W1 ?_ | refine Wc ?_ | refine W2c ?_ ?_ | refine Wg ?_ | refine W2 ?_ ?_ | exact Wdead | refine Wlive (fun hb => ?_) | intro _ _ _ _ _ _ _ _ | refine We ?_ | refine Wx ?_ | refine Wt ?_ | refine Wm ?_ | refine W2m ?_ ?_ | refine Wl ?_
    | fail)
  refine WPJ.loopN m.clips.length (fun j (s : Int) => [wild, .int .i64 t, wild, wild, wild, .int .i64 s, wild, wild, wild, s3, .int .i64 m.clips.length, .int .i64 j, wild, wild, wild, wild, wild, wild, wild, wild, wild, wild, wild])
    (fun j s H1 g1 => g1 = g ∧ Ext H H1 ∧ s = clipsOfS m t j) 0 0 (Nat.zero_le _) (by repeat' (first | exact Weak.nil | refine Weak.wild ?_ | refine Weak.same ?_ | refine Weak.intEq (by first | omega | (simp; done) | (push_cast; omega)) ?_)) ⟨rfl, extA, rfl⟩ ?_
  rintro j s H1 g1 hj ⟨rfl, he, hs⟩ hl
  rcases Nat.lt_or_ge j m.clips.length with hlt | hge
  · have hel : (m.clips.map encC)[j]? = some (encC m.clips[j]) := by simp [hlt]
    have hsb := clipsOfS_bd m t j
    rw [← hs] at hsb
    have hsucc := clipsOfS_succ m t hlt
    repeat' (first
      | refine W1 ?_ | refine Wc ?_ | refine W2c ?_ ?_ | refine Wg ?_ | refine W2 ?_ ?_ | exact Wdead | refine Wlive (fun hb => ?_) | intro _ _ _ _ _ _ _ _ | refine We ?_ | refine Wx ?_ | refine Wt ?_ | refine Wm ?_ | refine W2m ?_ ?_ | refine Wl ?_
      | fail)
    · rw [if_pos hb] at hsucc
      exact ⟨s + 1, hlt, (by repeat' (first | exact Weak.nil | refine Weak.wild ?_ | refine Weak.same ?_ | refine Weak.intEq (by first | omega | (simp; done) | (push_cast; omega)) ?_)), rfl, extA, by omega⟩
    · rw [if_neg hb] at hsucc
      exact ⟨s, hlt, (by repeat' (first | exact Weak.nil | refine Weak.wild ?_ | refine Weak.same ?_ | refine Weak.intEq (by first | omega | (simp; done) | (push_cast; omega)) ?_)), rfl, extA, by omega⟩
  · skip
    repeat' (first
      | refine W1 ?_ | refine Wc ?_ | refine W2c ?_ ?_ | refine Wg ?_ | refine W2 ?_ ?_ | exact Wdead | refine Wlive (fun hb => ?_) | intro _ _ _ _ _ _ _ _ | refine We ?_ | refine Wx ?_ | refine Wt ?_ | refine Wm ?_ | refine W2m ?_ ?_ | refine Wl ?_
      | fail)
    obtain rfl : j = m.clips.length := by omega
    exact ⟨by first | (rw [← hs]; done) | (rw [← hs]; rfl), rfl, rfl⟩

theorem hasTicket_y (m : HouseM) (s1 s2 s3 : Value) (t : Int) (hm : HouseY H m s1 s2 s3) : CallJ Try.prog E 100 [hv m s1 s2 s3, .int .i64 t] (fun v H' g' => v = .bool (decide (0 ≤ t) && decide (t < m.tickets.length)) ∧ H' = H ∧ g' = g) H g := by
  have hok := hm.cells
  have hr := hm.tickets
  refine CallJ.tidy ?_
  unfold hv
  refine CallJ.enter Try.func100 rfl (by simp only [Try.ntmps100, List.length_cons, List.length_nil, Nat.zero_add, Nat.reduceAdd, Nat.reduceSub, List.replicate_succ, List.replicate_zero, List.cons_append, List.nil_append]; rfl) ?_
  repeat' (first
    | (refine is_ucall ?_; first
      | refine st_callP (h := has_spec _ _ _ _ _ _) (k := ?_)
      | fail)
    | (refine is_umcall ?_; first
      | refine mj_callP (h := has_spec _ _ _ _ _ _) (k := ?_)
      | fail)
    | refine W1 ?_ | refine Wc ?_ | refine W2c ?_ ?_ | refine Wg ?_ | refine W2 ?_ ?_ | exact Wdead | refine Wlive (fun hb => ?_) | intro _ _ _ _ _ _ _ _ | refine We ?_ | refine Wx ?_ | refine Wt ?_ | refine Wm ?_ | refine W2m ?_ ?_ | refine Wl ?_
    | fail)
  all_goals (refine ⟨?_, rfl, rfl⟩; show Value.bool _ = _; congr 1; all_goals first | rfl | (rw [Bool.eq_iff_iff]; simp only [Bool.and_eq_true, Bool.or_eq_true, decide_eq_true_eq, Bool.not_eq_true', beq_iff_eq, Bool.true_eq_false, Bool.false_eq_true, iff_true, true_iff, iff_false, false_iff, decide_eq_false_iff_not]; omega))

theorem isLong_y (m : HouseM) (s1 s2 s3 : Value) (hm : HouseY H m s1 s2 s3) : CallJ Try.prog E 84 [hv m s1 s2 s3] (fun v H' g' => v = .bool (isLongS m) ∧ H' = H ∧ g' = g) H g := by
  have hok := hm.cells
  have hr1 := hm.clocks
  have hr2 := hm.tickets
  have hr3 := hm.clips
  refine CallJ.tidy ?_
  unfold hv isLongS
  refine CallJ.enter Try.func84 rfl (by simp only [Try.ntmps84, List.length_cons, List.length_nil, Nat.zero_add, Nat.reduceAdd, Nat.reduceSub, List.replicate_succ, List.replicate_zero, List.cons_append, List.nil_append]; rfl) ?_
  repeat' (first
    | (refine is_ucall ?_; first
      | refine st_callP (h := has_spec _ _ _ _ _ _) (k := ?_)
      | fail)
    | (refine is_umcall ?_; first
      | refine mj_callP (h := has_spec _ _ _ _ _ _) (k := ?_)
      | fail)
    | refine W1 ?_ | refine Wc ?_ | refine W2c ?_ ?_ | refine Wg ?_ | refine W2 ?_ ?_ | exact Wdead | refine Wlive (fun hb => ?_) | intro _ _ _ _ _ _ _ _ | refine We ?_ | refine Wx ?_ | refine Wt ?_ | refine Wm ?_ | refine W2m ?_ ?_ | refine Wl ?_
    | fail)
  all_goals (refine ⟨?_, rfl, rfl⟩; show Value.bool _ = _; congr 1; all_goals first | rfl | (rw [Bool.eq_iff_iff]; simp only [Bool.and_eq_true, Bool.or_eq_true, decide_eq_true_eq, Bool.not_eq_true', beq_iff_eq, Bool.true_eq_false, Bool.false_eq_true, iff_true, true_iff, iff_false, false_iff, decide_eq_false_iff_not]; omega))
theorem isClip_y (m : HouseM) (s1 s2 s3 : Value) (c : ClipM) (hm : HouseY H m s1 s2 s3) : CallJ Try.prog E 125 [hv m s1 s2 s3, .agg ⟨encC c⟩] (fun v H' g' => v = .bool (isClipS m c) ∧ H' = H ∧ g' = g) H g := by
  have hok := hm.cells
  have hr := hm.clocks
  refine CallJ.tidy ?_
  unfold hv encC isClipS
  refine CallJ.enter Try.func125 rfl (by simp only [Try.ntmps125, List.length_cons, List.length_nil, Nat.zero_add, Nat.reduceAdd, Nat.reduceSub, List.replicate_succ, List.replicate_zero, List.cons_append, List.nil_append]; rfl) ?_
  repeat' (first
    | (refine is_ucall ?_; first
      | refine st_callP (h := has_spec _ _ _ _ _ _) (k := ?_)
      | refine st_callP (h := isTub_spec _ _ _ _) (k := ?_)
      | refine st_callP (h := hasTicket_y _ _ _ m s1 s2 s3 _ (hm.ext extA)) (k := ?_)
      | refine st_callP (h := clipsOf_y _ _ _ m s1 s2 s3 _ (hm.ext extA)) (k := ?_)
      | fail)
    | (refine is_umcall ?_; first
      | refine mj_callP (h := has_spec _ _ _ _ _ _) (k := ?_)
      | refine mj_callP (h := isTub_spec _ _ _ _) (k := ?_)
      | refine mj_callP (h := hasTicket_y _ _ _ m s1 s2 s3 _ (hm.ext extA)) (k := ?_)
      | refine mj_callP (h := clipsOf_y _ _ _ m s1 s2 s3 _ (hm.ext extA)) (k := ?_)
      | fail)
    | refine W1 ?_ | refine Wc ?_ | refine W2c ?_ ?_ | refine Wg ?_ | refine W2 ?_ ?_ | exact Wdead | refine Wlive (fun hb => ?_) | intro _ _ _ _ _ _ _ _ | refine We ?_ | refine Wx ?_ | refine Wt ?_ | refine Wm ?_ | refine W2m ?_ ?_ | refine Wl ?_
    | fail)
  all_goals (refine ⟨?_, rfl, rfl⟩; show Value.bool _ = _; congr 1; all_goals first | rfl | (rw [Bool.eq_iff_iff]; simp only [Bool.and_eq_true, Bool.or_eq_true, decide_eq_true_eq, Bool.not_eq_true', beq_iff_eq, Bool.true_eq_false, Bool.false_eq_true, iff_true, true_iff, iff_false, false_iff, decide_eq_false_iff_not]; omega))
theorem sizes_y (m : HouseM) (s1 s2 s3 : Value) (hm : HouseY H m s1 s2 s3) (hc : ∀ r ∈ m.clocks, isClockS r = true) (hn : m.clocks.length ≤ 4) :
    CallJ Try.prog E 86 [hv m s1 s2 s3] (fun v H' g' => v = .int .i64 (prodS m.clocks) ∧ H' = H ∧ g' = g) H g := by
  have hok := hm.cells
  have hr := hm.clocks
  have hn3 := hm.n1
  refine CallJ.tidy ?_
  unfold hv
  refine CallJ.enter Try.func86 rfl (by simp only [Try.ntmps86, List.length_cons, List.length_nil, Nat.zero_add, Nat.reduceAdd, Nat.reduceSub, List.replicate_succ, List.replicate_zero, List.cons_append, List.nil_append]; rfl) ?_
  repeat' (first
    | refine W1 ?_ | refine Wc ?_ | refine W2c ?_ ?_ | refine Wg ?_ | refine W2 ?_ ?_ | exact Wdead | refine Wlive (fun hb => ?_) | intro _ _ _ _ _ _ _ _ | refine We ?_ | refine Wx ?_ | refine Wt ?_ | refine Wm ?_ | refine W2m ?_ ?_ | refine Wl ?_
    | fail)
  refine WPJ.loopN m.clocks.length (fun j (s : Int) => [wild, wild, wild, .int .i64 s, wild, wild, wild, s1, .int .i64 m.clocks.length, .int .i64 j, wild, wild, wild, wild, wild, wild, wild, wild, wild, wild, wild, wild, wild])
    (fun j s H1 g1 => g1 = g ∧ Ext H H1 ∧ s = prodS (m.clocks.take j)) 0 1 (Nat.zero_le _) (by repeat' (first | exact Weak.nil | refine Weak.wild ?_ | refine Weak.same ?_ | refine Weak.intEq (by first | omega | (simp; done) | (push_cast; omega)) ?_)) ⟨rfl, extA, rfl⟩ ?_
  rintro j s H1 g1 hj ⟨rfl, he, hs⟩ hl
  rcases Nat.lt_or_ge j m.clocks.length with hlt | hge
  · have hel : (m.clocks.map encR)[j]? = some (encR m.clocks[j]) := by simp [hlt]
    have hsucc : prodS (m.clocks.take (j + 1)) = s * (m.clocks[j].2 - m.clocks[j].1 + 1) := by rw [List.take_succ_eq_append_getElem hlt, prodS_snoc, hs]
    have hb1 := prodS_bd (m.clocks.take (j + 1)) fun r hr => hc r (List.mem_of_mem_take hr)
    have hb2 := hc m.clocks[j] (List.getElem_mem hlt)
    simp only [isClockS, Bool.and_eq_true, decide_eq_true_eq] at hb2
    have hb3 := p61 (m.clocks.take (j + 1)).length (by simp; omega)
    rw [hsucc] at hb1
    repeat' (first
      | refine W1 ?_ | refine Wc ?_ | refine W2c ?_ ?_ | refine Wg ?_ | refine W2 ?_ ?_ | exact Wdead | refine Wlive (fun hb => ?_) | intro _ _ _ _ _ _ _ _ | refine We ?_ | refine Wx ?_ | refine Wt ?_ | refine Wm ?_ | refine W2m ?_ ?_ | refine Wl ?_
      | fail)
    exact ⟨_, hlt, (by repeat' (first | exact Weak.nil | refine Weak.wild ?_ | refine Weak.same ?_ | refine Weak.intEq (by first | omega | (simp; done) | (push_cast; omega)) ?_)), rfl, extA, hsucc.symm⟩
  · skip
    repeat' (first
      | refine W1 ?_ | refine Wc ?_ | refine W2c ?_ ?_ | refine Wg ?_ | refine W2 ?_ ?_ | exact Wdead | refine Wlive (fun hb => ?_) | intro _ _ _ _ _ _ _ _ | refine We ?_ | refine Wx ?_ | refine Wt ?_ | refine Wm ?_ | refine W2m ?_ ?_ | refine Wl ?_
      | fail)
    obtain rfl : j = m.clocks.length := by omega
    rw [List.take_length] at hs
    exact ⟨by first | (rw [← hs]; done) | (rw [← hs]; rfl), rfl, rfl⟩

theorem isClip_V_y (m : HouseM) (s1 s2 s3 : Value) (c : ClipM) (hm : HouseY H m s1 s2 s3) : CallV Try.prog E (.func (.func 125) ⟨[hv m s1 s2 s3]⟩ ⟨[]⟩) [.agg ⟨encC c⟩] (fun v H' g' => v = .bool (isClipS m c) ∧ H' = H ∧ g' = g) H g := CallV.of_func EntC.ent (isClip_y E g H m s1 s2 s3 c hm)

theorem isValid_y (m : HouseM) (s1 s2 s3 : Value) (hm : HouseY H m s1 s2 s3) : CallJ Try.prog E 85 [hv m s1 s2 s3] (fun v H' g' => v = .bool (isValidS m) ∧ H' = H ∧ g' = g) H g := by
  have hok := hm.cells
  refine CallJ.tidy ?_
  unfold hv isValidS
  refine CallJ.enter Try.func85 rfl (by simp only [Try.ntmps85, List.length_cons, List.length_nil, Nat.zero_add, Nat.reduceAdd, Nat.reduceSub, List.replicate_succ, List.replicate_zero, List.cons_append, List.nil_append]; rfl) ?_
  repeat' (first
    | (refine is_ucall ?_; first
      | refine st_callP (h := has_spec _ _ _ _ _ _) (k := ?_)
      | refine st_callP (h := eachR_spec _ _ _ s1 _ m.clocks isClockS hm.n1 (hm.clocks.ext extA) (fun _ _ _ _ => isClock_V _ _ _ _)) (k := ?_)
      | refine st_callP (h := eachT_spec _ _ _ s2 _ m.tickets isTicketS hm.n2 (hm.tickets.ext extA) (fun _ _ _ _ => isTicket_V _ _ _ _)) (k := ?_)
      | refine st_callP (h := eachC_spec _ _ _ s3 _ m.clips (isClipS m) hm.n3 (hm.clips.ext extA) (fun _ _ he _ => isClip_V_y _ _ _ m s1 s2 s3 _ (hm.ext (Ext.trans extA he)))) (k := ?_)
      | fail)
    | (refine is_umcall ?_; first
      | refine mj_callP (h := has_spec _ _ _ _ _ _) (k := ?_)
      | refine mj_callP (h := eachR_spec _ _ _ s1 _ m.clocks isClockS hm.n1 (hm.clocks.ext extA) (fun _ _ _ _ => isClock_V _ _ _ _)) (k := ?_)
      | refine mj_callP (h := eachT_spec _ _ _ s2 _ m.tickets isTicketS hm.n2 (hm.tickets.ext extA) (fun _ _ _ _ => isTicket_V _ _ _ _)) (k := ?_)
      | refine mj_callP (h := eachC_spec _ _ _ s3 _ m.clips (isClipS m) hm.n3 (hm.clips.ext extA) (fun _ _ he _ => isClip_V_y _ _ _ m s1 s2 s3 _ (hm.ext (Ext.trans extA he)))) (k := ?_)
      | fail)
    | refine W1 ?_ | refine Wc ?_ | refine W2c ?_ ?_ | refine Wg ?_ | refine W2 ?_ ?_ | exact Wdead | refine Wlive (fun hb => ?_) | intro _ _ _ _ _ _ _ _ | refine We ?_ | refine Wx ?_ | refine Wt ?_ | refine Wm ?_ | refine W2m ?_ ?_ | refine Wl ?_
    | fail)
  all_goals (refine ⟨?_, rfl, rfl⟩; show Value.bool _ = _; congr 1; simp [*])
  all_goals (intros; omega)
theorem CheckHouse_y (m : HouseM) (s1 s2 s3 : Value) (hm : HouseY H m s1 s2 s3) : CallJ Try.prog E 30 [hv m s1 s2 s3] (fun v H' g' => v = .int .i64 (checkS m) ∧ H' = H ∧ g' = g) H g := by
  have hok := hm.cells
  refine CallJ.tidy ?_
  unfold hv
  refine CallJ.enter Try.func30 rfl (by simp only [Try.ntmps30, List.length_cons, List.length_nil, Nat.zero_add, Nat.reduceAdd, Nat.reduceSub, List.replicate_succ, List.replicate_zero, List.cons_append, List.nil_append]; rfl) ?_
  repeat' (first
    | (refine is_ucall ?_; first
      | refine st_callP (h := isLong_y _ _ _ m s1 s2 s3 (hm.ext extA)) (k := ?_)
      | refine st_callP (h := isValid_y _ _ _ m s1 s2 s3 (hm.ext extA)) (k := ?_)
      | refine st_callP (h := sizes_y _ _ _ m s1 s2 s3 (hm.ext extA) (isValidS.clocks (by assumption)) (isLongS.clocks (by assumption))) (k := ?_)
      | fail)
    | (refine is_umcall ?_; first
      | refine mj_callP (h := isLong_y _ _ _ m s1 s2 s3 (hm.ext extA)) (k := ?_)
      | refine mj_callP (h := isValid_y _ _ _ m s1 s2 s3 (hm.ext extA)) (k := ?_)
      | refine mj_callP (h := sizes_y _ _ _ m s1 s2 s3 (hm.ext extA) (isValidS.clocks (by assumption)) (isLongS.clocks (by assumption))) (k := ?_)
      | fail)
    | refine W1 ?_ | refine Wc ?_ | refine W2c ?_ ?_ | refine Wg ?_ | refine W2 ?_ ?_ | exact Wdead | refine Wlive (fun hb => ?_) | intro _ _ _ _ _ _ _ _ | refine We ?_ | refine Wx ?_ | refine Wt ?_ | refine Wm ?_ | refine W2m ?_ ?_ | refine Wl ?_
    | fail)
  all_goals (refine ⟨?_, rfl, rfl⟩; show Value.int _ _ = _; congr 1; simp only [checkS]; first | (simp [*]; done) | (simp [*]; omega))
end
end Go.Proofs.Ytehobnpoeodhkaa
