import Derived.Test.YtehobnpoeodhkaaR6
namespace Go.Proofs.Ytehobnpoeodhkaa
open Go Go.Abs Go.Proofs
set_option maxHeartbeats 1600000
attribute [local irreducible] CallJ OpsJ WPJ CallV MonoJ SpecJ

section
variable {γ : Type} (E : Env γ) (g : γ) (H : AHeap)
theorem Verdict_spec (y n : Int) : CallJ Try.prog E 99 [.int .i64 y, .int .i64 n] (fun v H' g' => v = .int .i64 (verdictR y n) ∧ H' = H ∧ g' = g) H g := by
  unfold verdictR
  refine CallJ.tidy ?_
  refine CallJ.enter Try.func99 rfl (by simp only [Try.ntmps99, List.length_cons, List.length_nil, Nat.zero_add, Nat.reduceAdd, Nat.reduceSub, List.replicate_succ, List.replicate_zero, List.cons_append, List.nil_append]; rfl) ?_
  repeat' (first
    | refine W1 ?_ | refine Wc ?_ | refine W2c ?_ ?_ | refine Wg ?_ | refine W2 ?_ ?_ | exact Wdead | refine Wlive (fun hb => ?_) | intro _ _ _ _ _ _ _ _ | refine We ?_ | refine Wx ?_ | refine Wt ?_ | refine Wm ?_ | refine W2m ?_ ?_ | refine Wl ?_
    | fail)
  all_goals refine ⟨?_, rfl, rfl⟩
  · rw [if_pos (by assumption)]
  · rw [if_neg (by assumption), if_pos (by assumption)]
  · rw [if_neg (by assumption), if_neg (by assumption)]
theorem IsPaid_spec (m : HouseM) (s1 s2 s3 lv : Value) (l : List Int) (hm : HouseIs H m s1 s2 s3) (hr : RdS H lv 1 (encI l)) (hG : Good m) (hE : isE m l = true) :
    CallJ Try.prog E 64 [hv m s1 s2 s3, lv] (fun v H' g' => v = .bool (paidR m l m.tickets.length) ∧ H' = H ∧ g' = g) H g := by
  have hok := hm.cells
  have hst := hm.tickets
  have hn2 := hG.n2
  refine CallJ.tidy ?_
  unfold hv
  refine CallJ.enter Try.func64 rfl (by simp only [Try.ntmps64, List.length_cons, List.length_nil, Nat.zero_add, Nat.reduceAdd, Nat.reduceSub, List.replicate_succ, List.replicate_zero, List.cons_append, List.nil_append]; rfl) ?_
  repeat' (first
    | (refine is_ucall ?_; first
      | refine st_callP (h := IsLong_spec _ _ _ m s1 s2 s3 lv l _ (hm.ext extA) (hr.ext extA) hG hE hlt) (k := ?_)
      | refine st_callP (h := DoClash_spec _ _ _ m s1 s2 s3 lv l _ _ (hm.ext extA) (hr.ext extA) hG hE hlt hltb) (k := ?_)
      | fail)
    | (refine is_umcall ?_; first
      | refine mj_callP (h := IsLong_spec _ _ _ m s1 s2 s3 lv l _ (hm.ext extA) (hr.ext extA) hG hE hlt) (k := ?_)
      | refine mj_callP (h := DoClash_spec _ _ _ m s1 s2 s3 lv l _ _ (hm.ext extA) (hr.ext extA) hG hE hlt hltb) (k := ?_)
      | fail)
    | refine W1 ?_ | refine Wc ?_ | refine W2c ?_ ?_ | refine Wg ?_ | refine W2 ?_ ?_ | exact Wdead | refine Wlive (fun hb => ?_) | intro _ _ _ _ _ _ _ _ | refine We ?_ | refine Wx ?_ | refine Wt ?_ | refine Wm ?_ | refine W2m ?_ ?_ | refine Wl ?_
    | fail)
  refine WPJ.loopT m.tickets.length [6, 7, 8, 9, 10, 11, 12, 13, 14, 15, 16, 17, 18, 19, 20, 21, 22, 23, 24, 25, 26, 27] (fun j (_ : Unit) => [(5, .int .i64 j)])
    (fun j _ H1 g1 => g1 = g ∧ H1 = H ++ [.row [.int .i64 m.hour, .int .i64 m.grace, s1, s2, s3] 1 true] ∧ paidR m l j = true) 0 () (Nat.zero_le _) (by intro p hp; simp at hp; rcases hp with rfl; rfl) ⟨rfl, rfl, rfl⟩ ?_
  rintro a _ H1 g1 hj ⟨rfl, rfl, hx⟩ hl0
  simp only [updT, maskT, List.set_cons_zero, List.set_cons_succ]
  rcases Nat.lt_or_ge a m.tickets.length with hlt | hge
  · have hstep : paidR m l (a + 1) = (paidR m l a && (!longR m l a && paidRowR m l a a)) := range_all_succ _ _
    have hfalse : (!longR m l a && paidRowR m l a a) = false → paidR m l m.tickets.length = false := fun h => List.all_eq_false.2 ⟨a, List.mem_range.2 hlt, by rw [h]; simp⟩
    repeat' (first
      | (refine is_ucall ?_; first
        | refine st_callP (h := IsLong_spec _ _ _ m s1 s2 s3 lv l _ (hm.ext extA) (hr.ext extA) hG hE hlt) (k := ?_)
        | refine st_callP (h := DoClash_spec _ _ _ m s1 s2 s3 lv l _ _ (hm.ext extA) (hr.ext extA) hG hE hlt hltb) (k := ?_)
        | fail)
      | (refine is_umcall ?_; first
        | refine mj_callP (h := IsLong_spec _ _ _ m s1 s2 s3 lv l _ (hm.ext extA) (hr.ext extA) hG hE hlt) (k := ?_)
        | refine mj_callP (h := DoClash_spec _ _ _ m s1 s2 s3 lv l _ _ (hm.ext extA) (hr.ext extA) hG hE hlt hltb) (k := ?_)
        | fail)
      | refine W1 ?_ | refine Wc ?_ | refine W2c ?_ ?_ | refine Wg ?_ | refine W2 ?_ ?_ | exact Wdead | refine Wlive (fun hb => ?_) | intro _ _ _ _ _ _ _ _ | refine We ?_ | refine Wx ?_ | refine Wt ?_ | refine Wm ?_ | refine W2m ?_ ?_ | refine Wl ?_
      | fail)
    · rw [hfalse (by simp [*])]
      exact ⟨rfl, rfl, rfl⟩
    · have hnl : longR m l a = false := by simp [*]
      refine WPJ.loopT a [18, 19, 20, 21, 22, 23, 24, 25, 26, 27] (fun j (_ : Unit) => [(6, .int .i64 j)])
        (fun j _ H1 g2 => g2 = g1 ∧ H1 = H ++ [.row [.int .i64 m.hour, .int .i64 m.grace, s1, s2, s3] 1 true] ∧ paidRowR m l a j = true) 0 () (Nat.zero_le _) (by intro p hp; simp at hp; rcases hp with rfl; rfl) ⟨rfl, rfl, rfl⟩ ?_
      rintro b _ H1 g2 hjb ⟨rfl, rfl, hy⟩ hl1
      simp only [updT, maskT, List.set_cons_zero, List.set_cons_succ]
      rcases Nat.lt_or_ge b a with hltc | hgec
      · have hltb : b < m.tickets.length := by omega
        have hstepb : paidRowR m l a (b + 1) = (paidRowR m l a b && !doClashR m l a b) := range_all_succ _ _
        have hfb : (!doClashR m l a b) = false → paidRowR m l a a = false := fun h => List.all_eq_false.2 ⟨b, List.mem_range.2 hltc, by rw [h]; simp⟩
        repeat' (first
          | (refine is_ucall ?_; first
            | refine st_callP (h := IsLong_spec _ _ _ m s1 s2 s3 lv l _ (hm.ext extA) (hr.ext extA) hG hE hlt) (k := ?_)
            | refine st_callP (h := DoClash_spec _ _ _ m s1 s2 s3 lv l _ _ (hm.ext extA) (hr.ext extA) hG hE hlt hltb) (k := ?_)
            | fail)
          | (refine is_umcall ?_; first
            | refine mj_callP (h := IsLong_spec _ _ _ m s1 s2 s3 lv l _ (hm.ext extA) (hr.ext extA) hG hE hlt) (k := ?_)
            | refine mj_callP (h := DoClash_spec _ _ _ m s1 s2 s3 lv l _ _ (hm.ext extA) (hr.ext extA) hG hE hlt hltb) (k := ?_)
            | fail)
          | refine W1 ?_ | refine Wc ?_ | refine W2c ?_ ?_ | refine Wg ?_ | refine W2 ?_ ?_ | exact Wdead | refine Wlive (fun hb => ?_) | intro _ _ _ _ _ _ _ _ | refine We ?_ | refine Wx ?_ | refine Wt ?_ | refine Wm ?_ | refine W2m ?_ ?_ | refine Wl ?_
          | fail)
        · rw [hfalse (by rw [hfb (by simp [*])]; simp)]
          exact ⟨rfl, rfl, rfl⟩
        · exact ⟨(), hltc, (by repeat' (first | exact Weak.nil | refine Weak.wild ?_ | refine Weak.same ?_ | refine Weak.intEq (by first | omega | (simp; done) | (push_cast; omega)) ?_)), rfl, rfl, by rw [hstepb, hy]; simp [*]⟩
      · obtain rfl : b = a := by omega
        repeat' (first
          | (refine is_ucall ?_; first
            | refine st_callP (h := IsLong_spec _ _ _ m s1 s2 s3 lv l _ (hm.ext extA) (hr.ext extA) hG hE hlt) (k := ?_)
            | refine st_callP (h := DoClash_spec _ _ _ m s1 s2 s3 lv l _ _ (hm.ext extA) (hr.ext extA) hG hE hlt hltb) (k := ?_)
            | fail)
          | (refine is_umcall ?_; first
            | refine mj_callP (h := IsLong_spec _ _ _ m s1 s2 s3 lv l _ (hm.ext extA) (hr.ext extA) hG hE hlt) (k := ?_)
            | refine mj_callP (h := DoClash_spec _ _ _ m s1 s2 s3 lv l _ _ (hm.ext extA) (hr.ext extA) hG hE hlt hltb) (k := ?_)
            | fail)
          | refine W1 ?_ | refine Wc ?_ | refine W2c ?_ ?_ | refine Wg ?_ | refine W2 ?_ ?_ | exact Wdead | refine Wlive (fun hb => ?_) | intro _ _ _ _ _ _ _ _ | refine We ?_ | refine Wx ?_ | refine Wt ?_ | refine Wm ?_ | refine W2m ?_ ?_ | refine Wl ?_
          | fail)
        exact ⟨(), hlt, (by repeat' (first | exact Weak.nil | refine Weak.wild ?_ | refine Weak.same ?_ | refine Weak.intEq (by first | omega | (simp; done) | (push_cast; omega)) ?_)), rfl, rfl, by rw [hstep, hx, hnl, hy]; rfl⟩
  · obtain rfl : a = m.tickets.length := by omega
    repeat' (first
      | (refine is_ucall ?_; first
        | refine st_callP (h := IsLong_spec _ _ _ m s1 s2 s3 lv l _ (hm.ext extA) (hr.ext extA) hG hE hlt) (k := ?_)
        | refine st_callP (h := DoClash_spec _ _ _ m s1 s2 s3 lv l _ _ (hm.ext extA) (hr.ext extA) hG hE hlt hltb) (k := ?_)
        | fail)
      | (refine is_umcall ?_; first
        | refine mj_callP (h := IsLong_spec _ _ _ m s1 s2 s3 lv l _ (hm.ext extA) (hr.ext extA) hG hE hlt) (k := ?_)
        | refine mj_callP (h := DoClash_spec _ _ _ m s1 s2 s3 lv l _ _ (hm.ext extA) (hr.ext extA) hG hE hlt hltb) (k := ?_)
        | fail)
      | refine W1 ?_ | refine Wc ?_ | refine W2c ?_ ?_ | refine Wg ?_ | refine W2 ?_ ?_ | exact Wdead | refine Wlive (fun hb => ?_) | intro _ _ _ _ _ _ _ _ | refine We ?_ | refine Wx ?_ | refine Wt ?_ | refine Wm ?_ | refine W2m ?_ ?_ | refine Wl ?_
      | fail)
    rw [hx]
    exact ⟨rfl, rfl, rfl⟩
end
def yesF (ls : List (List Int)) (p : List Int → Bool) (j : Nat) : Int := yesR (ls.take j) p
theorem yesF_step {ls : List (List Int)} {p : List Int → Bool} {j : Nat} (h : j < ls.length) : yesF ls p (j + 1) = if p ls[j] then yesF ls p j + 1 else yesF ls p j := by
  unfold yesF yesR
  rw [List.take_succ_eq_append_getElem h, List.countP_append]
  by_cases e : p ls[j] <;> simp [e]
theorem yesF_bd (ls : List (List Int)) (p : List Int → Bool) (j : Nat) : 0 ≤ yesF ls p j ∧ yesF ls p j ≤ j := by
  unfold yesF yesR
  have h1 : (ls.take j).countP p ≤ (ls.take j).length := List.countP_le_length
  rw [List.length_take] at h1
  omega
theorem yesF_all (ls : List (List Int)) (p : List Int → Bool) : yesF ls p ls.length = yesR ls p := by unfold yesF; rw [List.take_length]
section
variable {γ : Type} (E : Env γ) (g : γ) (H : AHeap)
theorem LongR_spec (m : HouseM) (s1 s2 s3 lv : Value) (ls : List (List Int)) (t : Nat) (hm : HouseIs H m s1 s2 s3) (hL : LL H lv ls) (hG : Good m) (hn : ls.length ≤ 1000000) (hE : ∀ l ∈ ls, isE m l = true) (ht : t < m.tickets.length) : CallJ Try.prog E 43 [hv m s1 s2 s3, lv, .int .i64 t] (fun v H' g' => v = .int .i64 (verdictR (yesR ls fun l => longR m l t) ls.length) ∧ H' = H ∧ g' = g) H g := by
  obtain ⟨vs, hvs, hvl, hin⟩ := hL
  have hok := hm.cells
  refine CallJ.tidy ?_
  unfold hv
  refine CallJ.enter Try.func43 rfl (by simp only [Try.ntmps43, List.length_cons, List.length_nil, Nat.zero_add, Nat.reduceAdd, Nat.reduceSub, List.replicate_succ, List.replicate_zero, List.cons_append, List.nil_append]; rfl) ?_
  repeat' (first
    | (refine is_ucall ?_; first
      | refine st_callP (h := Verdict_spec _ _ _ _ _) (k := ?_)
      | refine st_callP (h := IsLong_spec _ _ _ m s1 s2 s3 x _ _ (hm.ext extA) (hrx.ext extA) hG hEl ht) (k := ?_)
      | fail)
    | (refine is_umcall ?_; first
      | refine mj_callP (h := Verdict_spec _ _ _ _ _) (k := ?_)
      | refine mj_callP (h := IsLong_spec _ _ _ m s1 s2 s3 x _ _ (hm.ext extA) (hrx.ext extA) hG hEl ht) (k := ?_)
      | fail)
    | refine W1 ?_ | refine Wc ?_ | refine W2c ?_ ?_ | refine Wg ?_ | refine W2 ?_ ?_ | exact Wdead | refine Wlive (fun hb => ?_) | intro _ _ _ _ _ _ _ _ | refine We ?_ | refine Wx ?_ | refine Wt ?_ | refine Wm ?_ | refine W2m ?_ ?_ | refine Wl ?_
    | fail)
  refine WPJ.loopT ls.length [9, 10, 11, 12, 13, 14, 15, 16, 17, 18, 19, 20, 21, 22, 23] (fun j (y : Int) => [(8, .int .i64 j), (7, .int .i64 y)])
    (fun j y H1 g1 => g1 = g ∧ H1 = H ++ [.row [.int .i64 m.hour, .int .i64 m.grace, s1, s2, s3] 1 true] ∧ y = yesF ls (fun l => longR m l t) j) 0 0 (Nat.zero_le _)
    (by intro p hp; simp at hp; rcases hp with rfl | rfl <;> rfl) ⟨rfl, rfl, rfl⟩ ?_
  rintro j y H1 g1 hj ⟨rfl, rfl, hy⟩ hl0
  have hvs1 := hvs.ext (H' := H ++ [.row [.int .i64 m.hour, .int .i64 m.grace, s1, s2, s3] 1 true]) extA
  have hlv : (vs.map fun x => [x]).length = ls.length := by simp [hvl]
  simp only [updT, maskT, List.set_cons_zero, List.set_cons_succ]
  rcases Nat.lt_or_ge j ls.length with hlt | hge
  · obtain ⟨x, hel, hrx⟩ := LL.at_ hvl hin hlt
    have hEl := hE _ (List.getElem_mem hlt)
    have hstep := yesF_step (p := fun l => longR m l t) hlt
    have hbd := yesF_bd ls (fun l => longR m l t) j
    rw [← hy] at hstep hbd
    repeat' (first
      | (refine is_ucall ?_; first
        | refine st_callP (h := Verdict_spec _ _ _ _ _) (k := ?_)
        | refine st_callP (h := IsLong_spec _ _ _ m s1 s2 s3 x _ _ (hm.ext extA) (hrx.ext extA) hG hEl ht) (k := ?_)
        | fail)
      | (refine is_umcall ?_; first
        | refine mj_callP (h := Verdict_spec _ _ _ _ _) (k := ?_)
        | refine mj_callP (h := IsLong_spec _ _ _ m s1 s2 s3 x _ _ (hm.ext extA) (hrx.ext extA) hG hEl ht) (k := ?_)
        | fail)
      | refine W1 ?_ | refine Wc ?_ | refine W2c ?_ ?_ | refine Wg ?_ | refine W2 ?_ ?_ | exact Wdead | refine Wlive (fun hb => ?_) | intro _ _ _ _ _ _ _ _ | refine We ?_ | refine Wx ?_ | refine Wt ?_ | refine Wm ?_ | refine W2m ?_ ?_ | refine Wl ?_
      | fail)
    refine WPJ.draw 7 mixed (by kernel_rfl) (by kernel_rfl) (by kernel_rfl) (by decide) ?_
    refine MonoJ.normA ?_
    repeat' (first
      | (refine is_ucall ?_; first
        | refine st_callP (h := Verdict_spec _ _ _ _ _) (k := ?_)
        | refine st_callP (h := IsLong_spec _ _ _ m s1 s2 s3 x _ _ (hm.ext extA) (hrx.ext extA) hG hEl ht) (k := ?_)
        | fail)
      | (refine is_umcall ?_; first
        | refine mj_callP (h := Verdict_spec _ _ _ _ _) (k := ?_)
        | refine mj_callP (h := IsLong_spec _ _ _ m s1 s2 s3 x _ _ (hm.ext extA) (hrx.ext extA) hG hEl ht) (k := ?_)
        | fail)
      | refine W1 ?_ | refine Wc ?_ | refine W2c ?_ ?_ | refine Wg ?_ | refine W2 ?_ ?_ | exact Wdead | refine Wlive (fun hb => ?_) | intro _ _ _ _ _ _ _ _ | refine We ?_ | refine Wx ?_ | refine Wt ?_ | refine Wm ?_ | refine W2m ?_ ?_ | refine Wl ?_
      | fail)
    · exact ⟨_, hlt, (by repeat' (first | exact Weak.nil | refine Weak.wild ?_ | refine Weak.same ?_ | refine Weak.intEq (by first | omega | (simp; done) | (push_cast; omega)) ?_)), rfl, rfl, by rw [hstep]; simp [*]⟩
    · exact ⟨_, hlt, (by repeat' (first | exact Weak.nil | refine Weak.wild ?_ | refine Weak.same ?_ | refine Weak.intEq (by first | omega | (simp; done) | (push_cast; omega)) ?_)), rfl, rfl, by rw [hstep]; simp [*]⟩
  · obtain rfl : j = ls.length := by omega
    rw [yesF_all] at hy
    repeat' (first
      | (refine is_ucall ?_; first
        | refine st_callP (h := Verdict_spec _ _ _ _ _) (k := ?_)
        | refine st_callP (h := IsLong_spec _ _ _ m s1 s2 s3 x _ _ (hm.ext extA) (hrx.ext extA) hG hEl ht) (k := ?_)
        | fail)
      | (refine is_umcall ?_; first
        | refine mj_callP (h := Verdict_spec _ _ _ _ _) (k := ?_)
        | refine mj_callP (h := IsLong_spec _ _ _ m s1 s2 s3 x _ _ (hm.ext extA) (hrx.ext extA) hG hEl ht) (k := ?_)
        | fail)
      | refine W1 ?_ | refine Wc ?_ | refine W2c ?_ ?_ | refine Wg ?_ | refine W2 ?_ ?_ | exact Wdead | refine Wlive (fun hb => ?_) | intro _ _ _ _ _ _ _ _ | refine We ?_ | refine Wx ?_ | refine Wt ?_ | refine Wm ?_ | refine W2m ?_ ?_ | refine Wl ?_
      | fail)
    rw [hvl, hy]
    exact ⟨rfl, rfl, rfl⟩
theorem ClashR_spec (m : HouseM) (s1 s2 s3 lv : Value) (ls : List (List Int)) (t u : Nat) (hm : HouseIs H m s1 s2 s3) (hL : LL H lv ls) (hG : Good m) (hn : ls.length ≤ 1000000) (hE : ∀ l ∈ ls, isE m l = true) (ht : t < m.tickets.length) (hu : u < m.tickets.length) : CallJ Try.prog E 46 [hv m s1 s2 s3, lv, .int .i64 t, .int .i64 u] (fun v H' g' => v = .int .i64 (verdictR (yesR ls fun l => doClashR m l t u) ls.length) ∧ H' = H ∧ g' = g) H g := by
  obtain ⟨vs, hvs, hvl, hin⟩ := hL
  have hok := hm.cells
  refine CallJ.tidy ?_
  unfold hv
  refine CallJ.enter Try.func46 rfl (by simp only [Try.ntmps46, List.length_cons, List.length_nil, Nat.zero_add, Nat.reduceAdd, Nat.reduceSub, List.replicate_succ, List.replicate_zero, List.cons_append, List.nil_append]; rfl) ?_
  repeat' (first
    | (refine is_ucall ?_; first
      | refine st_callP (h := Verdict_spec _ _ _ _ _) (k := ?_)
      | refine st_callP (h := DoClash_spec _ _ _ m s1 s2 s3 x _ _ _ (hm.ext extA) (hrx.ext extA) hG hEl ht hu) (k := ?_)
      | fail)
    | (refine is_umcall ?_; first
      | refine mj_callP (h := Verdict_spec _ _ _ _ _) (k := ?_)
      | refine mj_callP (h := DoClash_spec _ _ _ m s1 s2 s3 x _ _ _ (hm.ext extA) (hrx.ext extA) hG hEl ht hu) (k := ?_)
      | fail)
    | refine W1 ?_ | refine Wc ?_ | refine W2c ?_ ?_ | refine Wg ?_ | refine W2 ?_ ?_ | exact Wdead | refine Wlive (fun hb => ?_) | intro _ _ _ _ _ _ _ _ | refine We ?_ | refine Wx ?_ | refine Wt ?_ | refine Wm ?_ | refine W2m ?_ ?_ | refine Wl ?_
    | fail)
  refine WPJ.loopT ls.length [11, 12, 13, 14, 15, 16, 17, 18, 19, 20, 21, 22, 23, 24, 25, 26] (fun j (y : Int) => [(10, .int .i64 j), (9, .int .i64 y)])
    (fun j y H1 g1 => g1 = g ∧ H1 = H ++ [.row [.int .i64 m.hour, .int .i64 m.grace, s1, s2, s3] 1 true] ∧ y = yesF ls (fun l => doClashR m l t u) j) 0 0 (Nat.zero_le _)
    (by intro p hp; simp at hp; rcases hp with rfl | rfl <;> rfl) ⟨rfl, rfl, rfl⟩ ?_
  rintro j y H1 g1 hj ⟨rfl, rfl, hy⟩ hl0
  have hvs1 := hvs.ext (H' := H ++ [.row [.int .i64 m.hour, .int .i64 m.grace, s1, s2, s3] 1 true]) extA
  have hlv : (vs.map fun x => [x]).length = ls.length := by simp [hvl]
  simp only [updT, maskT, List.set_cons_zero, List.set_cons_succ]
  rcases Nat.lt_or_ge j ls.length with hlt | hge
  · obtain ⟨x, hel, hrx⟩ := LL.at_ hvl hin hlt
    have hEl := hE _ (List.getElem_mem hlt)
    have hstep := yesF_step (p := fun l => doClashR m l t u) hlt
    have hbd := yesF_bd ls (fun l => doClashR m l t u) j
    rw [← hy] at hstep hbd
    repeat' (first
      | (refine is_ucall ?_; first
        | refine st_callP (h := Verdict_spec _ _ _ _ _) (k := ?_)
        | refine st_callP (h := DoClash_spec _ _ _ m s1 s2 s3 x _ _ _ (hm.ext extA) (hrx.ext extA) hG hEl ht hu) (k := ?_)
        | fail)
      | (refine is_umcall ?_; first
        | refine mj_callP (h := Verdict_spec _ _ _ _ _) (k := ?_)
        | refine mj_callP (h := DoClash_spec _ _ _ m s1 s2 s3 x _ _ _ (hm.ext extA) (hrx.ext extA) hG hEl ht hu) (k := ?_)
        | fail)
      | refine W1 ?_ | refine Wc ?_ | refine W2c ?_ ?_ | refine Wg ?_ | refine W2 ?_ ?_ | exact Wdead | refine Wlive (fun hb => ?_) | intro _ _ _ _ _ _ _ _ | refine We ?_ | refine Wx ?_ | refine Wt ?_ | refine Wm ?_ | refine W2m ?_ ?_ | refine Wl ?_
      | fail)
    refine WPJ.draw 8 mixed (by kernel_rfl) (by kernel_rfl) (by kernel_rfl) (by decide) ?_
    refine MonoJ.normA ?_
    repeat' (first
      | (refine is_ucall ?_; first
        | refine st_callP (h := Verdict_spec _ _ _ _ _) (k := ?_)
        | refine st_callP (h := DoClash_spec _ _ _ m s1 s2 s3 x _ _ _ (hm.ext extA) (hrx.ext extA) hG hEl ht hu) (k := ?_)
        | fail)
      | (refine is_umcall ?_; first
        | refine mj_callP (h := Verdict_spec _ _ _ _ _) (k := ?_)
        | refine mj_callP (h := DoClash_spec _ _ _ m s1 s2 s3 x _ _ _ (hm.ext extA) (hrx.ext extA) hG hEl ht hu) (k := ?_)
        | fail)
      | refine W1 ?_ | refine Wc ?_ | refine W2c ?_ ?_ | refine Wg ?_ | refine W2 ?_ ?_ | exact Wdead | refine Wlive (fun hb => ?_) | intro _ _ _ _ _ _ _ _ | refine We ?_ | refine Wx ?_ | refine Wt ?_ | refine Wm ?_ | refine W2m ?_ ?_ | refine Wl ?_
      | fail)
    · exact ⟨_, hlt, (by repeat' (first | exact Weak.nil | refine Weak.wild ?_ | refine Weak.same ?_ | refine Weak.intEq (by first | omega | (simp; done) | (push_cast; omega)) ?_)), rfl, rfl, by rw [hstep]; simp [*]⟩
    · exact ⟨_, hlt, (by repeat' (first | exact Weak.nil | refine Weak.wild ?_ | refine Weak.same ?_ | refine Weak.intEq (by first | omega | (simp; done) | (push_cast; omega)) ?_)), rfl, rfl, by rw [hstep]; simp [*]⟩
  · obtain rfl : j = ls.length := by omega
    rw [yesF_all] at hy
    repeat' (first
      | (refine is_ucall ?_; first
        | refine st_callP (h := Verdict_spec _ _ _ _ _) (k := ?_)
        | refine st_callP (h := DoClash_spec _ _ _ m s1 s2 s3 x _ _ _ (hm.ext extA) (hrx.ext extA) hG hEl ht hu) (k := ?_)
        | fail)
      | (refine is_umcall ?_; first
        | refine mj_callP (h := Verdict_spec _ _ _ _ _) (k := ?_)
        | refine mj_callP (h := DoClash_spec _ _ _ m s1 s2 s3 x _ _ _ (hm.ext extA) (hrx.ext extA) hG hEl ht hu) (k := ?_)
        | fail)
      | refine W1 ?_ | refine Wc ?_ | refine W2c ?_ ?_ | refine Wg ?_ | refine W2 ?_ ?_ | exact Wdead | refine Wlive (fun hb => ?_) | intro _ _ _ _ _ _ _ _ | refine We ?_ | refine Wx ?_ | refine Wt ?_ | refine Wm ?_ | refine W2m ?_ ?_ | refine Wl ?_
      | fail)
    rw [hvl, hy]
    exact ⟨rfl, rfl, rfl⟩
theorem PaidR_spec (m : HouseM) (s1 s2 s3 lv : Value) (ls : List (List Int)) (hm : HouseIs H m s1 s2 s3) (hL : LL H lv ls) (hG : Good m) (hn : ls.length ≤ 1000000) (hE : ∀ l ∈ ls, isE m l = true) : CallJ Try.prog E 42 [hv m s1 s2 s3, lv] (fun v H' g' => v = .int .i64 (verdictR (yesR ls fun l => paidR m l m.tickets.length) ls.length) ∧ H' = H ∧ g' = g) H g := by
  obtain ⟨vs, hvs, hvl, hin⟩ := hL
  have hok := hm.cells
  refine CallJ.tidy ?_
  unfold hv
  refine CallJ.enter Try.func42 rfl (by simp only [Try.ntmps42, List.length_cons, List.length_nil, Nat.zero_add, Nat.reduceAdd, Nat.reduceSub, List.replicate_succ, List.replicate_zero, List.cons_append, List.nil_append]; rfl) ?_
  repeat' (first
    | (refine is_ucall ?_; first
      | refine st_callP (h := Verdict_spec _ _ _ _ _) (k := ?_)
      | refine st_callP (h := IsPaid_spec _ _ _ m s1 s2 s3 x _ (hm.ext extA) (hrx.ext extA) hG hEl) (k := ?_)
      | fail)
    | (refine is_umcall ?_; first
      | refine mj_callP (h := Verdict_spec _ _ _ _ _) (k := ?_)
      | refine mj_callP (h := IsPaid_spec _ _ _ m s1 s2 s3 x _ (hm.ext extA) (hrx.ext extA) hG hEl) (k := ?_)
      | fail)
    | refine W1 ?_ | refine Wc ?_ | refine W2c ?_ ?_ | refine Wg ?_ | refine W2 ?_ ?_ | exact Wdead | refine Wlive (fun hb => ?_) | intro _ _ _ _ _ _ _ _ | refine We ?_ | refine Wx ?_ | refine Wt ?_ | refine Wm ?_ | refine W2m ?_ ?_ | refine Wl ?_
    | fail)
  refine WPJ.loopT ls.length [7, 8, 9, 10, 11, 12, 13, 14, 15, 16, 17, 18, 19, 20] (fun j (y : Int) => [(6, .int .i64 j), (5, .int .i64 y)])
    (fun j y H1 g1 => g1 = g ∧ H1 = H ++ [.row [.int .i64 m.hour, .int .i64 m.grace, s1, s2, s3] 1 true] ∧ y = yesF ls (fun l => paidR m l m.tickets.length) j) 0 0 (Nat.zero_le _)
    (by intro p hp; simp at hp; rcases hp with rfl | rfl <;> rfl) ⟨rfl, rfl, rfl⟩ ?_
  rintro j y H1 g1 hj ⟨rfl, rfl, hy⟩ hl0
  have hvs1 := hvs.ext (H' := H ++ [.row [.int .i64 m.hour, .int .i64 m.grace, s1, s2, s3] 1 true]) extA
  have hlv : (vs.map fun x => [x]).length = ls.length := by simp [hvl]
  simp only [updT, maskT, List.set_cons_zero, List.set_cons_succ]
  rcases Nat.lt_or_ge j ls.length with hlt | hge
  · obtain ⟨x, hel, hrx⟩ := LL.at_ hvl hin hlt
    have hEl := hE _ (List.getElem_mem hlt)
    have hstep := yesF_step (p := fun l => paidR m l m.tickets.length) hlt
    have hbd := yesF_bd ls (fun l => paidR m l m.tickets.length) j
    rw [← hy] at hstep hbd
    repeat' (first
      | (refine is_ucall ?_; first
        | refine st_callP (h := Verdict_spec _ _ _ _ _) (k := ?_)
        | refine st_callP (h := IsPaid_spec _ _ _ m s1 s2 s3 x _ (hm.ext extA) (hrx.ext extA) hG hEl) (k := ?_)
        | fail)
      | (refine is_umcall ?_; first
        | refine mj_callP (h := Verdict_spec _ _ _ _ _) (k := ?_)
        | refine mj_callP (h := IsPaid_spec _ _ _ m s1 s2 s3 x _ (hm.ext extA) (hrx.ext extA) hG hEl) (k := ?_)
        | fail)
      | refine W1 ?_ | refine Wc ?_ | refine W2c ?_ ?_ | refine Wg ?_ | refine W2 ?_ ?_ | exact Wdead | refine Wlive (fun hb => ?_) | intro _ _ _ _ _ _ _ _ | refine We ?_ | refine Wx ?_ | refine Wt ?_ | refine Wm ?_ | refine W2m ?_ ?_ | refine Wl ?_
      | fail)
    refine WPJ.draw 6 mixed (by kernel_rfl) (by kernel_rfl) (by kernel_rfl) (by decide) ?_
    refine MonoJ.normA ?_
    repeat' (first
      | (refine is_ucall ?_; first
        | refine st_callP (h := Verdict_spec _ _ _ _ _) (k := ?_)
        | refine st_callP (h := IsPaid_spec _ _ _ m s1 s2 s3 x _ (hm.ext extA) (hrx.ext extA) hG hEl) (k := ?_)
        | fail)
      | (refine is_umcall ?_; first
        | refine mj_callP (h := Verdict_spec _ _ _ _ _) (k := ?_)
        | refine mj_callP (h := IsPaid_spec _ _ _ m s1 s2 s3 x _ (hm.ext extA) (hrx.ext extA) hG hEl) (k := ?_)
        | fail)
      | refine W1 ?_ | refine Wc ?_ | refine W2c ?_ ?_ | refine Wg ?_ | refine W2 ?_ ?_ | exact Wdead | refine Wlive (fun hb => ?_) | intro _ _ _ _ _ _ _ _ | refine We ?_ | refine Wx ?_ | refine Wt ?_ | refine Wm ?_ | refine W2m ?_ ?_ | refine Wl ?_
      | fail)
    · exact ⟨_, hlt, (by repeat' (first | exact Weak.nil | refine Weak.wild ?_ | refine Weak.same ?_ | refine Weak.intEq (by first | omega | (simp; done) | (push_cast; omega)) ?_)), rfl, rfl, by rw [hstep]; simp [*]⟩
    · exact ⟨_, hlt, (by repeat' (first | exact Weak.nil | refine Weak.wild ?_ | refine Weak.same ?_ | refine Weak.intEq (by first | omega | (simp; done) | (push_cast; omega)) ?_)), rfl, rfl, by rw [hstep]; simp [*]⟩
  · obtain rfl : j = ls.length := by omega
    rw [yesF_all] at hy
    repeat' (first
      | (refine is_ucall ?_; first
        | refine st_callP (h := Verdict_spec _ _ _ _ _) (k := ?_)
        | refine st_callP (h := IsPaid_spec _ _ _ m s1 s2 s3 x _ (hm.ext extA) (hrx.ext extA) hG hEl) (k := ?_)
        | fail)
      | (refine is_umcall ?_; first
        | refine mj_callP (h := Verdict_spec _ _ _ _ _) (k := ?_)
        | refine mj_callP (h := IsPaid_spec _ _ _ m s1 s2 s3 x _ (hm.ext extA) (hrx.ext extA) hG hEl) (k := ?_)
        | fail)
      | refine W1 ?_ | refine Wc ?_ | refine W2c ?_ ?_ | refine Wg ?_ | refine W2 ?_ ?_ | exact Wdead | refine Wlive (fun hb => ?_) | intro _ _ _ _ _ _ _ _ | refine We ?_ | refine Wx ?_ | refine Wt ?_ | refine Wm ?_ | refine W2m ?_ ?_ | refine Wl ?_
      | fail)
    rw [hvl, hy]
    exact ⟨rfl, rfl, rfl⟩
end
end Go.Proofs.Ytehobnpoeodhkaa
