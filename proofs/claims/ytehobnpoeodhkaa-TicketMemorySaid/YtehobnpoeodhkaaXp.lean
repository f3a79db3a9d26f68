import Derived.Test.YtehobnpoeodhkaaV8
namespace Go.Proofs.Ytehobnpoeodhkaa
open Go Go.Abs Go.Proofs
set_option maxHeartbeats 1600000
attribute [local irreducible] CallJ OpsJ WPJ CallV MonoJ SpecJ

/-- a house that can be read, its rows ours or not -/
structure HouseY (H : AHeap) (m : HouseM) (s1 s2 s3 : Value) : Prop where
  clocks : RdS H s1 2 (m.clocks.map encR)
  tickets : RdS H s2 2 (m.tickets.map encR)
  clips : RdS H s3 3 (m.clips.map encC)
  ok : [s1, s2, s3].all cellOk = true
  n1 : m.clocks.length ≤ 1000000
  n2 : m.tickets.length ≤ 1000000
  n3 : m.clips.length ≤ 1000000
theorem HouseY.ext {H H' : AHeap} {m : HouseM} {s1 s2 s3 : Value} (h : HouseY H m s1 s2 s3) (he : Ext H H') : HouseY H' m s1 s2 s3 := ⟨h.clocks.ext he, h.tickets.ext he, h.clips.ext he, h.ok, h.n1, h.n2, h.n3⟩
theorem HouseY.cells {H : AHeap} {m : HouseM} {s1 s2 s3 : Value} (h : HouseY H m s1 s2 s3) : [Value.int .i64 m.hour, Value.int .i64 m.grace, s1, s2, s3].all cellOk = true := by have := h.ok; simp [cellOk] at this ⊢; exact this
theorem HouseIs.y {H : AHeap} {m : HouseM} {s1 s2 s3 : Value} (h : HouseIs H m s1 s2 s3) : HouseY H m s1 s2 s3 := ⟨h.clocks, h.tickets, h.clips, h.ok, h.n1, h.n2, h.n3⟩
section
variable {γ : Type} (E : Env γ) (g : γ) (H : AHeap)
theorem ranges_same (sv tv : Value) (a : List (Int × Int)) (ha : RdS H sv 2 (a.map encR)) (hb : RdS H tv 2 (a.map encR)) (hn : a.length ≤ 1000000) : CallJ Try.prog E 77 [sv, tv] (fun v H' g' => v = .bool true ∧ H' = H ∧ g' = g) H g := by
  refine CallJ.tidy ?_
  refine CallJ.enter Try.func77 rfl (by simp only [Try.ntmps77, List.length_cons, List.length_nil, Nat.zero_add, Nat.reduceAdd, Nat.reduceSub, List.replicate_succ, List.replicate_zero, List.cons_append, List.nil_append]; rfl) ?_
  repeat' (first
    | ((fail_if_success (first | refine is_ucall ?_ | refine is_umcall ?_)); first | refine W1 ?_ | refine Wc ?_ | refine W2c ?_ ?_ | refine Wg ?_ | refine W2 ?_ ?_ | exact Wdead | refine Wlive (fun hb => ?_) | intro _ _ _ _ _ _ _ _ | refine We ?_ | refine Wx ?_ | refine Wt ?_ | refine Wm ?_ | refine W2m ?_ ?_ | refine Wl ?_)
    | fail)
  · refine absurd trivial ?_; assumption
  refine WPJ.loopT a.length [11, 12, 13, 14, 17, 18, 19, 20, 21, 22, 23, 24, 25, 15, 16] (fun j (_ : Unit) => [(5, .int .i64 j)])
    (fun j _ H1 g1 => g1 = g ∧ H1 = H) 0 () (Nat.zero_le _) (by intro p hp; simp at hp; rcases hp with rfl; rfl) ⟨rfl, rfl⟩ ?_
  rintro j _ H1 g1 hj ⟨rfl, rfl⟩ hl0
  simp only [updT, maskT, List.set_cons_zero, List.set_cons_succ]
  rcases Nat.lt_or_ge j a.length with hlt | hge
  · have hea : (a.map encR)[(j : Int).toNat]? = some (encR a[j]) := by simp [hlt]
    generalize a[j] = r at *
    repeat' (first
      | ((fail_if_success (first | refine is_ucall ?_ | refine is_umcall ?_)); first | refine W1 ?_ | refine Wc ?_ | refine W2c ?_ ?_ | refine Wg ?_ | refine W2 ?_ ?_ | exact Wdead | refine Wlive (fun hb => ?_) | intro _ _ _ _ _ _ _ _ | refine We ?_ | refine Wx ?_ | refine Wt ?_ | refine Wm ?_ | refine W2m ?_ ?_ | refine Wl ?_)
      | fail)
    refine WPJ.draw 9 mixed (by kernel_rfl) (by kernel_rfl) (by kernel_rfl) (by decide) ?_
    refine MonoJ.normA ?_
    repeat' (first
      | ((fail_if_success (first | refine is_ucall ?_ | refine is_umcall ?_)); first | refine W1 ?_ | refine Wc ?_ | refine W2c ?_ ?_ | refine Wg ?_ | refine W2 ?_ ?_ | exact Wdead | refine Wlive (fun hb => ?_) | intro _ _ _ _ _ _ _ _ | refine We ?_ | refine Wx ?_ | refine Wt ?_ | refine Wm ?_ | refine W2m ?_ ?_ | refine Wl ?_)
      | fail)
    refine mj_neI (n := 2) (xs := [r.1, r.2]) (ys := [r.1, r.2]) rfl rfl rfl rfl ?_
    rw [decide_eq_true rfl]
    refine MonoJ.normA ?_
    repeat' (first
      | ((fail_if_success (first | refine is_ucall ?_ | refine is_umcall ?_)); first | refine W1 ?_ | refine Wc ?_ | refine W2c ?_ ?_ | refine Wg ?_ | refine W2 ?_ ?_ | exact Wdead | refine Wlive (fun hb => ?_) | intro _ _ _ _ _ _ _ _ | refine We ?_ | refine Wx ?_ | refine Wt ?_ | refine Wm ?_ | refine W2m ?_ ?_ | refine Wl ?_)
      | fail)
    exact ⟨(), hlt, (by repeat' (first | exact Weak.nil | refine Weak.wild ?_ | refine Weak.same ?_ | refine Weak.intEq (by first | omega | (simp; done) | (push_cast; omega)) ?_)), rfl, rfl⟩
  · skip
    repeat' (first
      | ((fail_if_success (first | refine is_ucall ?_ | refine is_umcall ?_)); first | refine W1 ?_ | refine Wc ?_ | refine W2c ?_ ?_ | refine Wg ?_ | refine W2 ?_ ?_ | exact Wdead | refine Wlive (fun hb => ?_) | intro _ _ _ _ _ _ _ _ | refine We ?_ | refine Wx ?_ | refine Wt ?_ | refine Wm ?_ | refine W2m ?_ ?_ | refine Wl ?_)
      | fail)
    exact ⟨rfl, rfl, rfl⟩
theorem equal_same (m : HouseM) (s1 s2 s3 t1 t2 t3 : Value) (hm : HouseY H m s1 s2 s3) (hn : HouseY H m t1 t2 t3) : CallJ Try.prog E 79 [hv m s1 s2 s3, hv m t1 t2 t3] (fun v H' g' => v = .bool true ∧ H' = H ∧ g' = g) H g := by
  have hok := hm.cells
  have hok2 := hn.cells
  have hr2 := hm.tickets
  have hr3 := hm.clips
  have hq2 := hn.tickets
  have hq3 := hn.clips
  have hn2 := hm.n2
  have hn3 := hm.n3
  refine CallJ.tidy ?_
  unfold hv
  refine CallJ.enter Try.func79 rfl (by simp only [Try.ntmps79, List.length_cons, List.length_nil, Nat.zero_add, Nat.reduceAdd, Nat.reduceSub, List.replicate_succ, List.replicate_zero, List.cons_append, List.nil_append]; rfl) ?_
  repeat' (first
    | (refine is_ucall ?_; first
      | refine st_callP (h := ranges_same _ _ _ _ _ _ (hm.clocks.ext extA) (hn.clocks.ext extA) hm.n1) (k := ?_)
      | fail)
    | (refine is_umcall ?_; first
      | refine mj_callP (h := ranges_same _ _ _ _ _ _ (hm.clocks.ext extA) (hn.clocks.ext extA) hm.n1) (k := ?_)
      | fail)
    | ((fail_if_success (first | refine is_ucall ?_ | refine is_umcall ?_)); first | refine W1 ?_ | refine Wc ?_ | refine W2c ?_ ?_ | refine Wg ?_ | refine W2 ?_ ?_ | exact Wdead | refine Wlive (fun hb => ?_) | intro _ _ _ _ _ _ _ _ | refine We ?_ | refine Wx ?_ | refine Wt ?_ | refine Wm ?_ | refine W2m ?_ ?_ | refine Wl ?_)
    | fail)
  any_goals (refine absurd trivial ?_; assumption)
  refine WPJ.loopT m.tickets.length [45, 46, 47, 48, 49, 52, 53, 54, 55, 56, 57, 58, 59, 60, 61, 62, 50, 51] (fun j (_ : Unit) => [(5, .int .i64 j)])
    (fun j _ H1 g1 => g1 = g ∧ Ext H H1 ∧ H1[H.length]? = some (.row (hcells m s1 s2 s3) 1 true) ∧ H1[H.length + 1]? = some (.row (hcells m t1 t2 t3) 1 true)) 0 () (Nat.zero_le _) (by intro p hp; simp at hp; rcases hp with rfl; rfl) ⟨rfl, extA, getA, getA⟩ ?_
  rintro j _ H1 g1 hj ⟨rfl, he, hb0, hb1⟩ hl0
  simp only [updT, maskT, List.set_cons_zero, List.set_cons_succ]
  rcases Nat.lt_or_ge j m.tickets.length with hlt | hge
  · have hea : (m.tickets.map encR)[(j : Int).toNat]? = some (encR m.tickets[j]) := by simp [hlt]
    generalize m.tickets[j] = r at *
    repeat' (first
      | (refine is_ucall ?_; first
        | refine st_callP (h := ranges_same _ _ _ _ _ _ (hm.clocks.ext extA) (hn.clocks.ext extA) hm.n1) (k := ?_)
        | fail)
      | (refine is_umcall ?_; first
        | refine mj_callP (h := ranges_same _ _ _ _ _ _ (hm.clocks.ext extA) (hn.clocks.ext extA) hm.n1) (k := ?_)
        | fail)
      | ((fail_if_success (first | refine is_ucall ?_ | refine is_umcall ?_)); first | refine W1 ?_ | refine Wc ?_ | refine W2c ?_ ?_ | refine Wg ?_ | refine W2 ?_ ?_ | exact Wdead | refine Wlive (fun hb => ?_) | intro _ _ _ _ _ _ _ _ | refine We ?_ | refine Wx ?_ | refine Wt ?_ | refine Wm ?_ | refine W2m ?_ ?_ | refine Wl ?_)
      | fail)
    refine WPJ.draw 11 mixed (by kernel_rfl) (by kernel_rfl) (by kernel_rfl) (by decide) ?_
    refine MonoJ.normA ?_
    repeat' (first
      | (refine is_ucall ?_; first
        | refine st_callP (h := ranges_same _ _ _ _ _ _ (hm.clocks.ext extA) (hn.clocks.ext extA) hm.n1) (k := ?_)
        | fail)
      | (refine is_umcall ?_; first
        | refine mj_callP (h := ranges_same _ _ _ _ _ _ (hm.clocks.ext extA) (hn.clocks.ext extA) hm.n1) (k := ?_)
        | fail)
      | ((fail_if_success (first | refine is_ucall ?_ | refine is_umcall ?_)); first | refine W1 ?_ | refine Wc ?_ | refine W2c ?_ ?_ | refine Wg ?_ | refine W2 ?_ ?_ | exact Wdead | refine Wlive (fun hb => ?_) | intro _ _ _ _ _ _ _ _ | refine We ?_ | refine Wx ?_ | refine Wt ?_ | refine Wm ?_ | refine W2m ?_ ?_ | refine Wl ?_)
      | fail)
    refine mj_neI (n := 2) (xs := [r.1, r.2]) (ys := [r.1, r.2]) rfl rfl rfl rfl ?_
    rw [decide_eq_true rfl]
    refine MonoJ.normA ?_
    repeat' (first
      | (refine is_ucall ?_; first
        | refine st_callP (h := ranges_same _ _ _ _ _ _ (hm.clocks.ext extA) (hn.clocks.ext extA) hm.n1) (k := ?_)
        | fail)
      | (refine is_umcall ?_; first
        | refine mj_callP (h := ranges_same _ _ _ _ _ _ (hm.clocks.ext extA) (hn.clocks.ext extA) hm.n1) (k := ?_)
        | fail)
      | ((fail_if_success (first | refine is_ucall ?_ | refine is_umcall ?_)); first | refine W1 ?_ | refine Wc ?_ | refine W2c ?_ ?_ | refine Wg ?_ | refine W2 ?_ ?_ | exact Wdead | refine Wlive (fun hb => ?_) | intro _ _ _ _ _ _ _ _ | refine We ?_ | refine Wx ?_ | refine Wt ?_ | refine Wm ?_ | refine W2m ?_ ?_ | refine Wl ?_)
      | fail)
    exact ⟨(), hlt, (by repeat' (first | exact Weak.nil | refine Weak.wild ?_ | refine Weak.same ?_ | refine Weak.intEq (by first | omega | (simp; done) | (push_cast; omega)) ?_)), rfl, extA, getA, getA⟩
  obtain rfl : j = m.tickets.length := by omega
  repeat' (first
    | (refine is_ucall ?_; first
      | refine st_callP (h := ranges_same _ _ _ _ _ _ (hm.clocks.ext extA) (hn.clocks.ext extA) hm.n1) (k := ?_)
      | fail)
    | (refine is_umcall ?_; first
      | refine mj_callP (h := ranges_same _ _ _ _ _ _ (hm.clocks.ext extA) (hn.clocks.ext extA) hm.n1) (k := ?_)
      | fail)
    | ((fail_if_success (first | refine is_ucall ?_ | refine is_umcall ?_)); first | refine W1 ?_ | refine Wc ?_ | refine W2c ?_ ?_ | refine Wg ?_ | refine W2 ?_ ?_ | exact Wdead | refine Wlive (fun hb => ?_) | intro _ _ _ _ _ _ _ _ | refine We ?_ | refine Wx ?_ | refine Wt ?_ | refine Wm ?_ | refine W2m ?_ ?_ | refine Wl ?_)
    | fail)
  refine WPJ.loopT m.clips.length [63, 64, 65, 66, 67, 70, 71, 72, 73, 74, 75, 76, 77, 78, 79, 80, 68, 69] (fun j (_ : Unit) => [(6, .int .i64 j)])
    (fun j _ H2 g2 => g2 = g1 ∧ Ext H H2 ∧ H2[H.length]? = some (.row (hcells m s1 s2 s3) 1 true) ∧ H2[H.length + 1]? = some (.row (hcells m t1 t2 t3) 1 true)) 0 () (Nat.zero_le _) (by intro p hp; simp at hp; rcases hp with rfl; rfl) ⟨rfl, extA, getA, getA⟩ ?_
  rintro j _ H2 g2 hj2 ⟨rfl, he2, hc0, hc1⟩ hl1
  simp only [updT, maskT, List.set_cons_zero, List.set_cons_succ]
  rcases Nat.lt_or_ge j m.clips.length with hlt | hge2
  · have hea : (m.clips.map encC)[(j : Int).toNat]? = some (encC m.clips[j]) := by simp [hlt]
    generalize m.clips[j] = r at *
    repeat' (first
      | (refine is_ucall ?_; first
        | refine st_callP (h := ranges_same _ _ _ _ _ _ (hm.clocks.ext extA) (hn.clocks.ext extA) hm.n1) (k := ?_)
        | fail)
      | (refine is_umcall ?_; first
        | refine mj_callP (h := ranges_same _ _ _ _ _ _ (hm.clocks.ext extA) (hn.clocks.ext extA) hm.n1) (k := ?_)
        | fail)
      | ((fail_if_success (first | refine is_ucall ?_ | refine is_umcall ?_)); first | refine W1 ?_ | refine Wc ?_ | refine W2c ?_ ?_ | refine Wg ?_ | refine W2 ?_ ?_ | exact Wdead | refine Wlive (fun hb => ?_) | intro _ _ _ _ _ _ _ _ | refine We ?_ | refine Wx ?_ | refine Wt ?_ | refine Wm ?_ | refine W2m ?_ ?_ | refine Wl ?_)
      | fail)
    refine WPJ.draw 11 mixed (by kernel_rfl) (by kernel_rfl) (by kernel_rfl) (by decide) ?_
    refine MonoJ.normA ?_
    repeat' (first
      | (refine is_ucall ?_; first
        | refine st_callP (h := ranges_same _ _ _ _ _ _ (hm.clocks.ext extA) (hn.clocks.ext extA) hm.n1) (k := ?_)
        | fail)
      | (refine is_umcall ?_; first
        | refine mj_callP (h := ranges_same _ _ _ _ _ _ (hm.clocks.ext extA) (hn.clocks.ext extA) hm.n1) (k := ?_)
        | fail)
      | ((fail_if_success (first | refine is_ucall ?_ | refine is_umcall ?_)); first | refine W1 ?_ | refine Wc ?_ | refine W2c ?_ ?_ | refine Wg ?_ | refine W2 ?_ ?_ | exact Wdead | refine Wlive (fun hb => ?_) | intro _ _ _ _ _ _ _ _ | refine We ?_ | refine Wx ?_ | refine Wt ?_ | refine Wm ?_ | refine W2m ?_ ?_ | refine Wl ?_)
      | fail)
    refine mj_neI (n := 3) (xs := [r.ticket, r.clock, r.minute]) (ys := [r.ticket, r.clock, r.minute]) rfl rfl rfl rfl ?_
    rw [decide_eq_true rfl]
    refine MonoJ.normA ?_
    repeat' (first
      | (refine is_ucall ?_; first
        | refine st_callP (h := ranges_same _ _ _ _ _ _ (hm.clocks.ext extA) (hn.clocks.ext extA) hm.n1) (k := ?_)
        | fail)
      | (refine is_umcall ?_; first
        | refine mj_callP (h := ranges_same _ _ _ _ _ _ (hm.clocks.ext extA) (hn.clocks.ext extA) hm.n1) (k := ?_)
        | fail)
      | ((fail_if_success (first | refine is_ucall ?_ | refine is_umcall ?_)); first | refine W1 ?_ | refine Wc ?_ | refine W2c ?_ ?_ | refine Wg ?_ | refine W2 ?_ ?_ | exact Wdead | refine Wlive (fun hb => ?_) | intro _ _ _ _ _ _ _ _ | refine We ?_ | refine Wx ?_ | refine Wt ?_ | refine Wm ?_ | refine W2m ?_ ?_ | refine Wl ?_)
      | fail)
    exact ⟨(), hlt, (by repeat' (first | exact Weak.nil | refine Weak.wild ?_ | refine Weak.same ?_ | refine Weak.intEq (by first | omega | (simp; done) | (push_cast; omega)) ?_)), rfl, extA, getA, getA⟩
  · skip
    repeat' (first
      | (refine is_ucall ?_; first
        | refine st_callP (h := ranges_same _ _ _ _ _ _ (hm.clocks.ext extA) (hn.clocks.ext extA) hm.n1) (k := ?_)
        | fail)
      | (refine is_umcall ?_; first
        | refine mj_callP (h := ranges_same _ _ _ _ _ _ (hm.clocks.ext extA) (hn.clocks.ext extA) hm.n1) (k := ?_)
        | fail)
      | ((fail_if_success (first | refine is_ucall ?_ | refine is_umcall ?_)); first | refine W1 ?_ | refine Wc ?_ | refine W2c ?_ ?_ | refine Wg ?_ | refine W2 ?_ ?_ | exact Wdead | refine Wlive (fun hb => ?_) | intro _ _ _ _ _ _ _ _ | refine We ?_ | refine Wx ?_ | refine Wt ?_ | refine Wm ?_ | refine W2m ?_ ?_ | refine Wl ?_)
      | fail)
    exact ⟨rfl, rfl, rfl⟩
end
end Go.Proofs.Ytehobnpoeodhkaa
