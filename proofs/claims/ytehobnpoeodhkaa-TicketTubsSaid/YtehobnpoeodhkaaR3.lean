import Derived.Test.YtehobnpoeodhkaaR2
namespace Go.Proofs.Ytehobnpoeodhkaa
open Go Go.Abs Go.Proofs
set_option maxHeartbeats 1600000
attribute [local irreducible] CallJ OpsJ WPJ CallV MonoJ SpecJ

/-- a piece of such a list of lists -/
theorem LL.at_ {H : AHeap} {vs : List Value} {ls : List (List Int)} (hvl : vs.length = ls.length) (hin : ∀ (k : Nat) (x : Value) (l : List Int), vs[k]? = some x → ls[k]? = some l → RdS H x 1 (encI l)) {j : Nat} (h : j < ls.length) : ∃ x, (vs.map fun x => [x])[(j : Int).toNat]? = some [x] ∧ RdS H x 1 (encI ls[j]) := by
  have h1 : j < vs.length := by omega
  exact ⟨vs[j], by simp [h1], hin j _ _ (List.getElem?_eq_getElem h1) (List.getElem?_eq_getElem h)⟩
def boundsF (l : List Int) (j : Nat) : Int × Int := boundsR (l.take j)
theorem boundsF_step {l : List Int} {j : Nat} (h : j < l.length) : boundsF l (j + 1) = (min (boundsF l j).1 l[j], max (boundsF l j).2 l[j]) := by
  unfold boundsF boundsR
  rw [List.take_succ_eq_append_getElem h]
  simp only [List.foldl_append, List.foldl_cons, List.foldl_nil]
theorem boundsF_all (l : List Int) : boundsF l l.length = boundsR l := by unfold boundsF; rw [List.take_length]
theorem boundsF_bd {l : List Int} (hb : ∀ x ∈ l, -1000000 ≤ x ∧ x ≤ 1000000) (j : Nat) : (-1000000 ≤ (boundsF l j).1 ∧ (boundsF l j).1 ≤ 1099511627776) ∧ (-1099511627776 ≤ (boundsF l j).2 ∧ (boundsF l j).2 ≤ 1000000) := by
  unfold boundsF boundsR
  have h1 := fmin_le (l.take j) 1099511627776
  have h2 := fmin_mem (l.take j) 1099511627776
  have h3 := fmax_le (l.take j) (-1099511627776)
  have h4 := fmax_mem (l.take j) (-1099511627776)
  refine ⟨⟨?_, h1.1⟩, h3.1, ?_⟩
  · rcases h2 with h2 | h2
    · show -1000000 ≤ List.foldl min _ _
      rw [h2]; decide
    · exact (hb _ (List.mem_of_mem_take h2)).1
  · rcases h4 with h4 | h4
    · show List.foldl max _ _ ≤ 1000000
      rw [h4]; decide
    · exact (hb _ (List.mem_of_mem_take h4)).2
section
variable {γ : Type} (E : Env γ) (g : γ) (H : AHeap)
theorem Empty_spec : CallJ Try.prog E 93 [] (fun v H' g' => v = .agg ⟨encR (1099511627776, -1099511627776)⟩ ∧ H' = H ∧ g' = g) H g := by
  refine CallJ.tidy ?_
  refine CallJ.enter Try.func93 rfl (by simp only [Try.ntmps93, List.length_nil, Nat.reduceSub, List.replicate_succ, List.replicate_zero, List.nil_append]; rfl) ?_
  repeat' (first
    | refine W1 ?_ | refine Wc ?_ | refine W2c ?_ ?_ | refine Wg ?_ | refine W2 ?_ ?_ | exact Wdead | refine Wlive (fun hb => ?_) | intro _ _ _ _ _ _ _ _ | refine We ?_ | refine Wx ?_ | refine Wt ?_ | refine Wm ?_ | refine W2m ?_ ?_ | refine Wl ?_
    | fail)
  exact ⟨rfl, rfl, rfl⟩
theorem Wider_spec (r : Int × Int) (n : Int) : CallJ Try.prog E 94 [.agg ⟨encR r⟩, .int .i64 n] (fun v H' g' => v = .agg ⟨encR (min r.1 n, max r.2 n)⟩ ∧ H' = H ∧ g' = g) H g := by
  refine CallJ.tidy ?_
  unfold encR
  refine CallJ.enter Try.func94 rfl (by simp only [Try.ntmps94, List.length_cons, List.length_nil, Nat.zero_add, Nat.reduceAdd, Nat.reduceSub, List.replicate_succ, List.replicate_zero, List.cons_append, List.nil_append]; rfl) ?_
  repeat' (first
    | refine W1 ?_ | refine Wc ?_ | refine W2c ?_ ?_ | refine Wg ?_ | refine W2 ?_ ?_ | exact Wdead | refine Wlive (fun hb => ?_) | intro _ _ _ _ _ _ _ _ | refine We ?_ | refine Wx ?_ | refine Wt ?_ | refine Wm ?_ | refine W2m ?_ ?_ | refine Wl ?_
    | fail)
  rw [← min_if, ← max_if]
  exact ⟨rfl, rfl, rfl⟩
theorem ClockR_spec (lv : Value) (ls : List (List Int)) (c : Nat) (hL : LL H lv ls) (hn : ls.length ≤ 1000000) (hc : ∀ l ∈ ls, c < l.length) : CallJ Try.prog E 38 [lv, .int .i64 c] (fun v H' g' => v = .agg ⟨encR (boundsR (ls.map fun l => l.getD c 0))⟩ ∧ H' = H ∧ g' = g) H g := by
  obtain ⟨vs, hvs, hvl, hin⟩ := hL
  refine CallJ.tidy ?_
  refine CallJ.enter Try.func38 rfl (by simp only [Try.ntmps38, List.length_cons, List.length_nil, Nat.zero_add, Nat.reduceAdd, Nat.reduceSub, List.replicate_succ, List.replicate_zero, List.cons_append, List.nil_append]; rfl) ?_
  repeat' (first
    | (refine is_ucall ?_; first
      | refine st_callP (h := Empty_spec _ _ _) (k := ?_)
      | refine st_callP (h := Wider_spec _ _ _ r _) (k := ?_)
      | fail)
    | (refine is_umcall ?_; first
      | refine mj_callP (h := Empty_spec _ _ _) (k := ?_)
      | refine mj_callP (h := Wider_spec _ _ _ r _) (k := ?_)
      | fail)
    | refine W1 ?_ | refine Wc ?_ | refine W2c ?_ ?_ | refine Wg ?_ | refine W2 ?_ ?_ | exact Wdead | refine Wlive (fun hb => ?_) | intro _ _ _ _ _ _ _ _ | refine We ?_ | refine Wx ?_ | refine Wt ?_ | refine Wm ?_ | refine W2m ?_ ?_ | refine Wl ?_
    | fail)
  refine WPJ.loopT ls.length [8, 9, 10, 11, 12, 13, 14, 15, 16, 17, 18, 19, 20, 21, 22] (fun j (_ : Unit) => [(6, .int .i64 j)])
    (fun j _ H1 g1 => g1 = g ∧ Ext H H1 ∧ H1[H.length]? = some (.row [.int .i64 0, .int .i64 0] 1 true) ∧ H1[H.length + 1]? = some (.row (encR (boundsF (ls.map fun l => l.getD c 0) j)) 1 true)) 0 () (Nat.zero_le _)
    (by intro p hp; simp at hp; rcases hp with rfl; rfl) ⟨rfl, extA, getA, getA⟩ ?_
  rintro j _ H1 g1 hj ⟨rfl, he, hb0, hb1⟩ hl0
  have hvs1 := hvs.ext he
  have hlv : (vs.map fun x => [x]).length = ls.length := by simp [hvl]
  simp only [updT, maskT, List.set_cons_zero, List.set_cons_succ]
  rcases Nat.lt_or_ge j ls.length with hlt | hge
  · obtain ⟨x, hel, hrx⟩ := LL.at_ hvl hin hlt
    have hrx1 := hrx.ext he
    have hcl := hc _ (List.getElem_mem hlt)
    have hel2 : (encI ls[j])[(c : Int).toNat]? = some [.int .i64 (ls[j].getD c 0)] := by simp [hcl]
    have hstep := boundsF_step (l := ls.map fun l => l.getD c 0) (j := j) (by simpa using hlt)
    have hje : (ls.map fun l => l.getD c 0)[j]'(by simpa using hlt) = ls[j].getD c 0 := by simp
    rw [hje] at hstep
    generalize boundsF (ls.map fun l => l.getD c 0) j = r at *
    generalize ls[j].getD c 0 = q at *
    repeat' (first
      | (refine is_ucall ?_; first
        | refine st_callP (h := Empty_spec _ _ _) (k := ?_)
        | refine st_callP (h := Wider_spec _ _ _ r _) (k := ?_)
        | fail)
      | (refine is_umcall ?_; first
        | refine mj_callP (h := Empty_spec _ _ _) (k := ?_)
        | refine mj_callP (h := Wider_spec _ _ _ r _) (k := ?_)
        | fail)
      | refine W1 ?_ | refine Wc ?_ | refine W2c ?_ ?_ | refine Wg ?_ | refine W2 ?_ ?_ | exact Wdead | refine Wlive (fun hb => ?_) | intro _ _ _ _ _ _ _ _ | refine We ?_ | refine Wx ?_ | refine Wt ?_ | refine Wm ?_ | refine W2m ?_ ?_ | refine Wl ?_
      | fail)
    refine WPJ.draw 9 mixed (by kernel_rfl) (by kernel_rfl) (by kernel_rfl) (by decide) ?_
    refine MonoJ.normA ?_
    repeat' (first
      | (refine is_ucall ?_; first
        | refine st_callP (h := Empty_spec _ _ _) (k := ?_)
        | refine st_callP (h := Wider_spec _ _ _ r _) (k := ?_)
        | fail)
      | (refine is_umcall ?_; first
        | refine mj_callP (h := Empty_spec _ _ _) (k := ?_)
        | refine mj_callP (h := Wider_spec _ _ _ r _) (k := ?_)
        | fail)
      | refine W1 ?_ | refine Wc ?_ | refine W2c ?_ ?_ | refine Wg ?_ | refine W2 ?_ ?_ | exact Wdead | refine Wlive (fun hb => ?_) | intro _ _ _ _ _ _ _ _ | refine We ?_ | refine Wx ?_ | refine Wt ?_ | refine Wm ?_ | refine W2m ?_ ?_ | refine Wl ?_
      | fail)
    exact ⟨(), hlt, (by repeat' (first | exact Weak.nil | refine Weak.wild ?_ | refine Weak.same ?_ | refine Weak.intEq (by first | omega | (simp; done) | (push_cast; omega)) ?_)), rfl, extA, getA, by rw [hstep]; exact get_set hb1⟩
  · obtain rfl : j = ls.length := by omega
    have hall := boundsF_all (ls.map fun l => l.getD c 0)
    rw [List.length_map] at hall
    rw [hall] at hb1
    repeat' (first
      | (refine is_ucall ?_; first
        | refine st_callP (h := Empty_spec _ _ _) (k := ?_)
        | refine st_callP (h := Wider_spec _ _ _ r _) (k := ?_)
        | fail)
      | (refine is_umcall ?_; first
        | refine mj_callP (h := Empty_spec _ _ _) (k := ?_)
        | refine mj_callP (h := Wider_spec _ _ _ r _) (k := ?_)
        | fail)
      | refine W1 ?_ | refine Wc ?_ | refine W2c ?_ ?_ | refine Wg ?_ | refine W2 ?_ ?_ | exact Wdead | refine Wlive (fun hb => ?_) | intro _ _ _ _ _ _ _ _ | refine We ?_ | refine Wx ?_ | refine Wt ?_ | refine Wm ?_ | refine W2m ?_ ?_ | refine Wl ?_
      | fail)
    exact ⟨rfl, rfl, rfl⟩
theorem HoursOf_spec (m : HouseM) (s1 s2 s3 lv : Value) (ls : List (List Int)) (t : Int) (hm : HouseIs H m s1 s2 s3) (hL : LL H lv ls) (hG : Good m) (hn : ls.length ≤ 1000000) (hE : ∀ l ∈ ls, isE m l = true) : CallJ Try.prog E 39 [hv m s1 s2 s3, lv, .int .i64 t] (fun v H' g' => v = .agg ⟨encR (boundsR (ls.map fun l => hoursR m l t))⟩ ∧ H' = H ∧ g' = g) H g := by
  obtain ⟨vs, hvs, hvl, hin⟩ := hL
  have hok := hm.cells
  refine CallJ.tidy ?_
  unfold hv
  refine CallJ.enter Try.func39 rfl (by simp only [Try.ntmps39, List.length_cons, List.length_nil, Nat.zero_add, Nat.reduceAdd, Nat.reduceSub, List.replicate_succ, List.replicate_zero, List.cons_append, List.nil_append]; rfl) ?_
  repeat' (first
    | (refine is_ucall ?_; first
      | refine st_callP (h := Empty_spec _ _ _) (k := ?_)
      | refine st_callP (h := Wider_spec _ _ _ r _) (k := ?_)
      | refine st_callP (h := HoursR_spec _ _ _ m s1 s2 s3 x _ _ (hm.ext extA) (hrx.ext extA) hG hEl) (k := ?_)
      | fail)
    | (refine is_umcall ?_; first
      | refine mj_callP (h := Empty_spec _ _ _) (k := ?_)
      | refine mj_callP (h := Wider_spec _ _ _ r _) (k := ?_)
      | refine mj_callP (h := HoursR_spec _ _ _ m s1 s2 s3 x _ _ (hm.ext extA) (hrx.ext extA) hG hEl) (k := ?_)
      | fail)
    | refine W1 ?_ | refine Wc ?_ | refine W2c ?_ ?_ | refine Wg ?_ | refine W2 ?_ ?_ | exact Wdead | refine Wlive (fun hb => ?_) | intro _ _ _ _ _ _ _ _ | refine We ?_ | refine Wx ?_ | refine Wt ?_ | refine Wm ?_ | refine W2m ?_ ?_ | refine Wl ?_
    | fail)
  refine WPJ.loopT ls.length [10, 11, 12, 13, 14, 15, 16, 17, 18, 19, 20, 21, 22, 23, 24] (fun j (_ : Unit) => [(8, .int .i64 j)])
    (fun j _ H1 g1 => g1 = g ∧ Ext H H1 ∧ H1[H.length]? = some (.row [.int .i64 m.hour, .int .i64 m.grace, s1, s2, s3] 1 true) ∧ H1[H.length + 1]? = some (.row [.int .i64 0, .int .i64 0] 1 true) ∧ H1[H.length + 2]? = some (.row (encR (boundsF (ls.map fun l => hoursR m l t) j)) 1 true)) 0 () (Nat.zero_le _)
    (by intro p hp; simp at hp; rcases hp with rfl; rfl) ⟨rfl, extA, getA, getA, getA⟩ ?_
  rintro j _ H1 g1 hj ⟨rfl, he, hbm, hb0, hb1⟩ hl0
  have hvs1 := hvs.ext he
  have hlv : (vs.map fun x => [x]).length = ls.length := by simp [hvl]
  simp only [updT, maskT, List.set_cons_zero, List.set_cons_succ]
  rcases Nat.lt_or_ge j ls.length with hlt | hge
  · obtain ⟨x, hel, hrx⟩ := LL.at_ hvl hin hlt
    have hrx1 := hrx.ext he
    have hEl := hE _ (List.getElem_mem hlt)
    have hstep := boundsF_step (l := ls.map fun l => hoursR m l t) (j := j) (by simpa using hlt)
    have hje : (ls.map fun l => hoursR m l t)[j]'(by simpa using hlt) = hoursR m ls[j] t := by simp
    rw [hje] at hstep
    generalize boundsF (ls.map fun l => hoursR m l t) j = r at *
    repeat' (first
      | (refine is_ucall ?_; first
        | refine st_callP (h := Empty_spec _ _ _) (k := ?_)
        | refine st_callP (h := Wider_spec _ _ _ r _) (k := ?_)
        | refine st_callP (h := HoursR_spec _ _ _ m s1 s2 s3 x _ _ (hm.ext extA) (hrx.ext extA) hG hEl) (k := ?_)
        | fail)
      | (refine is_umcall ?_; first
        | refine mj_callP (h := Empty_spec _ _ _) (k := ?_)
        | refine mj_callP (h := Wider_spec _ _ _ r _) (k := ?_)
        | refine mj_callP (h := HoursR_spec _ _ _ m s1 s2 s3 x _ _ (hm.ext extA) (hrx.ext extA) hG hEl) (k := ?_)
        | fail)
      | refine W1 ?_ | refine Wc ?_ | refine W2c ?_ ?_ | refine Wg ?_ | refine W2 ?_ ?_ | exact Wdead | refine Wlive (fun hb => ?_) | intro _ _ _ _ _ _ _ _ | refine We ?_ | refine Wx ?_ | refine Wt ?_ | refine Wm ?_ | refine W2m ?_ ?_ | refine Wl ?_
      | fail)
    refine WPJ.draw 9 mixed (by kernel_rfl) (by kernel_rfl) (by kernel_rfl) (by decide) ?_
    refine MonoJ.normA ?_
    repeat' (first
      | (refine is_ucall ?_; first
        | refine st_callP (h := Empty_spec _ _ _) (k := ?_)
        | refine st_callP (h := Wider_spec _ _ _ r _) (k := ?_)
        | refine st_callP (h := HoursR_spec _ _ _ m s1 s2 s3 x _ _ (hm.ext extA) (hrx.ext extA) hG hEl) (k := ?_)
        | fail)
      | (refine is_umcall ?_; first
        | refine mj_callP (h := Empty_spec _ _ _) (k := ?_)
        | refine mj_callP (h := Wider_spec _ _ _ r _) (k := ?_)
        | refine mj_callP (h := HoursR_spec _ _ _ m s1 s2 s3 x _ _ (hm.ext extA) (hrx.ext extA) hG hEl) (k := ?_)
        | fail)
      | refine W1 ?_ | refine Wc ?_ | refine W2c ?_ ?_ | refine Wg ?_ | refine W2 ?_ ?_ | exact Wdead | refine Wlive (fun hb => ?_) | intro _ _ _ _ _ _ _ _ | refine We ?_ | refine Wx ?_ | refine Wt ?_ | refine Wm ?_ | refine W2m ?_ ?_ | refine Wl ?_
      | fail)
    exact ⟨(), hlt, (by repeat' (first | exact Weak.nil | refine Weak.wild ?_ | refine Weak.same ?_ | refine Weak.intEq (by first | omega | (simp; done) | (push_cast; omega)) ?_)), rfl, extA, getA, getA, by rw [hstep]; exact get_set hb1⟩
  · obtain rfl : j = ls.length := by omega
    have hall := boundsF_all (ls.map fun l => hoursR m l t)
    rw [List.length_map] at hall
    rw [hall] at hb1
    repeat' (first
      | (refine is_ucall ?_; first
        | refine st_callP (h := Empty_spec _ _ _) (k := ?_)
        | refine st_callP (h := Wider_spec _ _ _ r _) (k := ?_)
        | refine st_callP (h := HoursR_spec _ _ _ m s1 s2 s3 x _ _ (hm.ext extA) (hrx.ext extA) hG hEl) (k := ?_)
        | fail)
      | (refine is_umcall ?_; first
        | refine mj_callP (h := Empty_spec _ _ _) (k := ?_)
        | refine mj_callP (h := Wider_spec _ _ _ r _) (k := ?_)
        | refine mj_callP (h := HoursR_spec _ _ _ m s1 s2 s3 x _ _ (hm.ext extA) (hrx.ext extA) hG hEl) (k := ?_)
        | fail)
      | refine W1 ?_ | refine Wc ?_ | refine W2c ?_ ?_ | refine Wg ?_ | refine W2 ?_ ?_ | exact Wdead | refine Wlive (fun hb => ?_) | intro _ _ _ _ _ _ _ _ | refine We ?_ | refine Wx ?_ | refine Wt ?_ | refine Wm ?_ | refine W2m ?_ ?_ | refine Wl ?_
      | fail)
    exact ⟨rfl, rfl, rfl⟩
end
end Go.Proofs.Ytehobnpoeodhkaa
