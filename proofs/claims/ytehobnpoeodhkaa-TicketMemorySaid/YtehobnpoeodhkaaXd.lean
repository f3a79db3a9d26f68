import Derived.Test.YtehobnpoeodhkaaXc
import Derived.Test.YtehobnpoeodhkaaXp
import Derived.Test.YtehobnpoeodhkaaV9
namespace Go.Proofs.Ytehobnpoeodhkaa
open Go Go.Abs Go.Proofs
set_option maxHeartbeats 1600000
attribute [local irreducible] CallJ OpsJ WPJ CallV MonoJ SpecJ

section
variable {γ : Type} (E : Env γ) (g : γ) (H : AHeap)
theorem House_own (m : HouseM) (s1 s2 s3 : Value) (hm : HouseY H m s1 s2 s3) (hb1 : m.clocks.length ≤ 1000) (hb2 : m.tickets.length ≤ 1000) (hb3 : m.clips.length ≤ 1000) : CallJ Try.prog E 26 [hv m s1 s2 s3] (fun v H' g' => v = houseV H.length m ∧ H' = H ++ houseL m ∧ g' = g) H g := by
  have hok := hm.cells
  have hr1 := hm.clocks
  have hr2 := hm.tickets
  have hr3 := hm.clips
  refine CallJ.tidy ?_
  unfold hv
  refine CallJ.enter Try.func26 rfl (by simp only [Try.ntmps26, List.length_cons, List.length_nil, Nat.zero_add, Nat.reduceAdd, Nat.reduceSub, List.replicate_succ, List.replicate_zero, List.cons_append, List.nil_append]; rfl) ?_
  repeat' (first
    | (refine is_ucall ?_; first
      | refine st_callP (h := to_spec _ _ _ r) (k := ?_)
      | fail)
    | (refine is_umcall ?_; first
      | refine mj_callP (h := to_spec _ _ _ r) (k := ?_)
      | fail)
    | ((fail_if_success (first | refine is_ucall ?_ | refine is_umcall ?_)); first | refine W1 ?_ | refine Wc ?_ | refine W2c ?_ ?_ | refine Wg ?_ | refine W2 ?_ ?_ | exact Wdead | refine Wlive (fun hb => ?_) | intro _ _ _ _ _ _ _ _ | refine We ?_ | refine Wx ?_ | refine Wt ?_ | refine Wm ?_ | refine W2m ?_ ?_ | refine Wl ?_)
    | fail)
  refine WPJ.loopT m.clocks.length [13, 14, 15, 16, 17, 20, 21, 22, 23, 24, 25, 26, 27, 28, 29, 30, 18, 19] (fun j (v : Value) => [(4, .int .i64 j)])
    (fun j v H1 g1 => g1 = g ∧ Ext H H1 ∧ H1[H.length]? = some (.row (hcells m s1 s2 s3) 1 true) ∧ H1[H.length + 2]? = some (.row [.int .i64 m.hour, .int .i64 m.grace, v, .slice none 0 0, .slice none 0 0] 1 true) ∧ H1[H.length + 1]? = some (.row [.int .i64 0, .int .i64 0, .slice none 0 0, .slice none 0 0, .slice none 0 0] 1 true) ∧ AppG encR 2 H1 (H.length + 3) v (m.clocks.take j) ∧ H.length + 3 ≤ H1.length) 0 (.slice none 0 0) (Nat.zero_le _)
    (by intro p hp; simp at hp; rcases hp with rfl; rfl) ⟨rfl, extA, getA, getA, getA, by rw [List.take_zero]; exact AppG.nil, by simp⟩ ?_
  rintro j v1 H1 g1 hj ⟨rfl, he, hb0, hb2', hb1', hA, hlen⟩ hl0
  simp only [updT, maskT, List.set_cons_zero, List.set_cons_succ]
  rcases Nat.lt_or_ge j m.clocks.length with hlt | hge
  · have hel : (m.clocks.map encR)[(j : Int).toNat]? = some (encR m.clocks[j]) := by simp [hlt]
    have htk := List.take_succ_eq_append_getElem hlt
    have htl : (m.clocks.take j).length ≤ 1000000 := by simp; omega
    generalize m.clocks[j] = r at *
    repeat' (first
      | (refine is_ucall ?_; first
        | refine st_callP (h := to_spec _ _ _ r) (k := ?_)
        | fail)
      | (refine is_umcall ?_; first
        | refine mj_callP (h := to_spec _ _ _ r) (k := ?_)
        | fail)
      | ((fail_if_success (first | refine is_ucall ?_ | refine is_umcall ?_)); first | refine W1 ?_ | refine Wc ?_ | refine W2c ?_ ?_ | refine Wg ?_ | refine W2 ?_ ?_ | exact Wdead | refine Wlive (fun hb => ?_) | intro _ _ _ _ _ _ _ _ | refine We ?_ | refine Wx ?_ | refine Wt ?_ | refine Wm ?_ | refine W2m ?_ ?_ | refine Wl ?_)
      | fail)
    refine WPJ.draw 9 mixed (by kernel_rfl) (by kernel_rfl) (by kernel_rfl) (by decide) ?_
    refine MonoJ.normA ?_
    repeat' (first
      | (refine is_ucall ?_; first
        | refine st_callP (h := to_spec _ _ _ r) (k := ?_)
        | fail)
      | (refine is_umcall ?_; first
        | refine mj_callP (h := to_spec _ _ _ r) (k := ?_)
        | fail)
      | ((fail_if_success (first | refine is_ucall ?_ | refine is_umcall ?_)); first | refine W1 ?_ | refine Wc ?_ | refine W2c ?_ ?_ | refine Wg ?_ | refine W2 ?_ ?_ | exact Wdead | refine Wlive (fun hb => ?_) | intro _ _ _ _ _ _ _ _ | refine We ?_ | refine Wx ?_ | refine Wt ?_ | refine Wm ?_ | refine W2m ?_ ?_ | refine Wl ?_)
      | fail)
    refine st_appG (a := r) (hA.app _) rfl encR_len rfl rfl getA (by simp) rfl rfl (by simp; omega) htl (by decide) ?_
    intro v2 H2 hA2 hE hK hL
    obtain ⟨i2, k2, rfl⟩ := hA2.slice
    have e0 := hK (H.length) _ (by omega) (get_old hb0)
    have e1 := hK (H.length + 1) _ (by omega) (get_old hb1')
    have e2 := hK (H.length + 2) _ (by omega) (get_old hb2')
    simp only [List.length_append, List.length_cons, List.length_nil] at hL
    refine OpsJ.normA ?_
    repeat' (first
      | (refine is_ucall ?_; first
        | refine st_callP (h := to_spec _ _ _ r) (k := ?_)
        | fail)
      | (refine is_umcall ?_; first
        | refine mj_callP (h := to_spec _ _ _ r) (k := ?_)
        | fail)
      | ((fail_if_success (first | refine is_ucall ?_ | refine is_umcall ?_)); first | refine W1 ?_ | refine Wc ?_ | refine W2c ?_ ?_ | refine Wg ?_ | refine W2 ?_ ?_ | exact Wdead | refine Wlive (fun hb => ?_) | intro _ _ _ _ _ _ _ _ | refine We ?_ | refine Wx ?_ | refine Wt ?_ | refine Wm ?_ | refine W2m ?_ ?_ | refine Wl ?_)
      | fail)
    exact ⟨_, hlt, (by repeat' (first | exact Weak.nil | refine Weak.wild ?_ | refine Weak.same ?_ | refine Weak.intEq (by first | omega | (simp; done) | (push_cast; omega)) ?_)), rfl, Ext.set (hE H extA (by omega)) (by omega) _, getA, getA, getA, by rw [htk]; refine hA2.set ?_; omega, by rw [List.length_set]; omega⟩
  obtain rfl : j = m.clocks.length := by omega
  rw [List.take_length] at hA
  have hB1 := hA.bnd
  obtain ⟨a2, ha2⟩ : ∃ a2, a2 = H1.length := ⟨_, rfl⟩
  rw [← ha2] at hB1
  have hcv1 := hA.cell
  clear hA
  repeat' (first
    | (refine is_ucall ?_; first
      | refine st_callP (h := to_spec _ _ _ r) (k := ?_)
      | fail)
    | (refine is_umcall ?_; first
      | refine mj_callP (h := to_spec _ _ _ r) (k := ?_)
      | fail)
    | ((fail_if_success (first | refine is_ucall ?_ | refine is_umcall ?_)); first | refine W1 ?_ | refine Wc ?_ | refine W2c ?_ ?_ | refine Wg ?_ | refine W2 ?_ ?_ | exact Wdead | refine Wlive (fun hb => ?_) | intro _ _ _ _ _ _ _ _ | refine We ?_ | refine Wx ?_ | refine Wt ?_ | refine Wm ?_ | refine W2m ?_ ?_ | refine Wl ?_)
    | fail)
  refine WPJ.loopT m.tickets.length [31, 32, 33, 34, 35, 38, 39, 40, 41, 42, 43, 44, 45, 46, 47, 48, 49, 50, 51, 52, 53, 54, 55, 36, 37] (fun j (v : Value) => [(5, .int .i64 j)])
    (fun j v H2 g2 => g2 = g1 ∧ Ext H H2 ∧ H2[H.length]? = some (.row (hcells m s1 s2 s3) 1 true) ∧ H2[H.length + 2]? = some (.row [.int .i64 m.hour, .int .i64 m.grace, v1, v, .slice none 0 0] 1 true) ∧ H2[H.length + 1]? = some (.row [.int .i64 0, .int .i64 0, .slice none 0 0, .slice none 0 0, .slice none 0 0] 1 true) ∧ AppB encR 2 H2 (H.length + 3) a2 v1 m.clocks ∧ AppG encR 2 H2 a2 v (m.tickets.take j) ∧ a2 ≤ H2.length) 0 (.slice none 0 0) (Nat.zero_le _)
    (by intro p hp; simp at hp; rcases hp with rfl; rfl) ⟨rfl, extA, getA, getA, getA, hB1.keep (fun i o _ _ h => by first | exact h | exact get_old h), by rw [List.take_zero]; exact AppG.nil, by first | omega | (simp; omega)⟩ ?_
  clear hl0 hB1 hb0 hb2' hb1' he
  rintro j v2 H2 g2 hj2 ⟨rfl, he, hb0, hb2', hb1', hB1, hA, hlen2⟩ hl0
  simp only [updT, maskT, List.set_cons_zero, List.set_cons_succ]
  rcases Nat.lt_or_ge j m.tickets.length with hlt | hge2
  · have hel : (m.tickets.map encR)[(j : Int).toNat]? = some (encR m.tickets[j]) := by simp [hlt]
    have htk := List.take_succ_eq_append_getElem hlt
    have htl : (m.tickets.take j).length ≤ 1000000 := by simp; omega
    generalize m.tickets[j] = r at *
    repeat' (first
      | (refine is_ucall ?_; first
        | refine st_callP (h := to_spec _ _ _ r) (k := ?_)
        | fail)
      | (refine is_umcall ?_; first
        | refine mj_callP (h := to_spec _ _ _ r) (k := ?_)
        | fail)
      | ((fail_if_success (first | refine is_ucall ?_ | refine is_umcall ?_)); first | refine W1 ?_ | refine Wc ?_ | refine W2c ?_ ?_ | refine Wg ?_ | refine W2 ?_ ?_ | exact Wdead | refine Wlive (fun hb => ?_) | intro _ _ _ _ _ _ _ _ | refine We ?_ | refine Wx ?_ | refine Wt ?_ | refine Wm ?_ | refine W2m ?_ ?_ | refine Wl ?_)
      | fail)
    refine WPJ.draw 16 mixed (by kernel_rfl) (by kernel_rfl) (by kernel_rfl) (by decide) ?_
    refine MonoJ.normA ?_
    repeat' (first
      | (refine is_ucall ?_; first
        | refine st_callP (h := to_spec _ _ _ r) (k := ?_)
        | fail)
      | (refine is_umcall ?_; first
        | refine mj_callP (h := to_spec _ _ _ r) (k := ?_)
        | fail)
      | ((fail_if_success (first | refine is_ucall ?_ | refine is_umcall ?_)); first | refine W1 ?_ | refine Wc ?_ | refine W2c ?_ ?_ | refine Wg ?_ | refine W2 ?_ ?_ | exact Wdead | refine Wlive (fun hb => ?_) | intro _ _ _ _ _ _ _ _ | refine We ?_ | refine Wx ?_ | refine Wt ?_ | refine Wm ?_ | refine W2m ?_ ?_ | refine Wl ?_)
      | fail)
    refine st_appG (a := r) (hA.app _) rfl encR_len rfl rfl getA (by simp) rfl rfl (by simp; omega) htl (by decide) ?_
    intro v3 H3 hA3 hE hK hL
    obtain ⟨i3, k3, rfl⟩ := hA3.slice
    have e0 := hK (H.length) _ (by omega) (get_old hb0)
    have e1 := hK (H.length + 1) _ (by omega) (get_old hb1')
    have e2 := hK (H.length + 2) _ (by omega) (get_old hb2')
    simp only [List.length_append, List.length_cons, List.length_nil] at hL
    refine OpsJ.normA ?_
    repeat' (first
      | (refine is_ucall ?_; first
        | refine st_callP (h := to_spec _ _ _ r) (k := ?_)
        | fail)
      | (refine is_umcall ?_; first
        | refine mj_callP (h := to_spec _ _ _ r) (k := ?_)
        | fail)
      | ((fail_if_success (first | refine is_ucall ?_ | refine is_umcall ?_)); first | refine W1 ?_ | refine Wc ?_ | refine W2c ?_ ?_ | refine Wg ?_ | refine W2 ?_ ?_ | exact Wdead | refine Wlive (fun hb => ?_) | intro _ _ _ _ _ _ _ _ | refine We ?_ | refine Wx ?_ | refine Wt ?_ | refine Wm ?_ | refine W2m ?_ ?_ | refine Wl ?_)
      | fail)
    exact ⟨_, hlt, (by repeat' (first | exact Weak.nil | refine Weak.wild ?_ | refine Weak.same ?_ | refine Weak.intEq (by first | omega | (simp; done) | (push_cast; omega)) ?_)), rfl, Ext.set (hE H extA (by omega)) (by omega) _, getA, getA, getA, hB1.keep (fun i o h1 h2 h => get_setne (by omega) (hK i o h2 (get_old h))), by rw [htk]; refine hA3.set ?_; omega, by rw [List.length_set]; omega⟩
  obtain rfl : j = m.tickets.length := by omega
  rw [List.take_length] at hA
  have hB2 := hA.bnd
  obtain ⟨a3, ha3⟩ : ∃ a3, a3 = H2.length := ⟨_, rfl⟩
  rw [← ha3] at hB2
  have hcv2 := hA.cell
  clear hA
  repeat' (first
    | (refine is_ucall ?_; first
      | refine st_callP (h := to_spec _ _ _ r) (k := ?_)
      | fail)
    | (refine is_umcall ?_; first
      | refine mj_callP (h := to_spec _ _ _ r) (k := ?_)
      | fail)
    | ((fail_if_success (first | refine is_ucall ?_ | refine is_umcall ?_)); first | refine W1 ?_ | refine Wc ?_ | refine W2c ?_ ?_ | refine Wg ?_ | refine W2 ?_ ?_ | exact Wdead | refine Wlive (fun hb => ?_) | intro _ _ _ _ _ _ _ _ | refine We ?_ | refine Wx ?_ | refine Wt ?_ | refine Wm ?_ | refine W2m ?_ ?_ | refine Wl ?_)
    | fail)
  refine WPJ.loopT m.clips.length [56, 57, 58, 59, 60, 63, 64, 65, 66, 67, 7, 68, 69, 70, 71, 72, 73, 74, 75, 76, 77, 78, 79, 61, 62] (fun j (v : Value) => [(6, .int .i64 j)])
    (fun j v H3 g3 => g3 = g2 ∧ Ext H H3 ∧ H3[H.length]? = some (.row (hcells m s1 s2 s3) 1 true) ∧ H3[H.length + 2]? = some (.row [.int .i64 m.hour, .int .i64 m.grace, v1, v2, v] 1 true) ∧ H3[H.length + 1]? = some (.row [.int .i64 0, .int .i64 0, .slice none 0 0, .slice none 0 0, .slice none 0 0] 1 true) ∧ AppB encR 2 H3 (H.length + 3) a2 v1 m.clocks ∧ AppB encR 2 H3 a2 a3 v2 m.tickets ∧ AppG encC 3 H3 a3 v (m.clips.take j) ∧ a3 ≤ H3.length) 0 (.slice none 0 0) (Nat.zero_le _)
    (by intro p hp; simp at hp; rcases hp with rfl; rfl) ⟨rfl, extA, getA, getA, getA, hB1.keep (fun i o _ _ h => by first | exact h | exact get_old h), hB2.keep (fun i o _ _ h => by first | exact h | exact get_old h), by rw [List.take_zero]; exact AppG.nil, by first | omega | (simp; omega)⟩ ?_
  clear hl0 hB1 hB2 hb0 hb2' hb1' he
  rintro j v3 H3 g3 hj3 ⟨rfl, he, hb0, hb2', hb1', hB1, hB2, hA, hlen3⟩ hl0
  simp only [updT, maskT, List.set_cons_zero, List.set_cons_succ]
  rcases Nat.lt_or_ge j m.clips.length with hlt | hge3
  · have hel : (m.clips.map encC)[(j : Int).toNat]? = some (encC m.clips[j]) := by simp [hlt]
    have htk := List.take_succ_eq_append_getElem hlt
    have htl : (m.clips.take j).length ≤ 1000000 := by simp; omega
    generalize m.clips[j] = r at *
    repeat' (first
      | (refine is_ucall ?_; first
        | refine st_callP (h := to_spec _ _ _ r) (k := ?_)
        | fail)
      | (refine is_umcall ?_; first
        | refine mj_callP (h := to_spec _ _ _ r) (k := ?_)
        | fail)
      | ((fail_if_success (first | refine is_ucall ?_ | refine is_umcall ?_)); first | refine W1 ?_ | refine Wc ?_ | refine W2c ?_ ?_ | refine Wg ?_ | refine W2 ?_ ?_ | exact Wdead | refine Wlive (fun hb => ?_) | intro _ _ _ _ _ _ _ _ | refine We ?_ | refine Wx ?_ | refine Wt ?_ | refine Wm ?_ | refine W2m ?_ ?_ | refine Wl ?_)
      | fail)
    refine st_appG (a := r) ((hA.app _)) rfl encC_len rfl rfl getA (by simp) rfl rfl (by simp; omega) htl (by decide) ?_
    intro v4 H4 hA4 hE hK hL
    obtain ⟨i4, k4, rfl⟩ := hA4.slice
    have e0 := hK (H.length) _ (by omega) (get_old hb0)
    have e1 := hK (H.length + 1) _ (by omega) (get_old hb1')
    have e2 := hK (H.length + 2) _ (by omega) (get_old hb2')
    simp only [List.length_append, List.length_cons, List.length_nil] at hL
    refine OpsJ.normA ?_
    repeat' (first
      | (refine is_ucall ?_; first
        | refine st_callP (h := to_spec _ _ _ r) (k := ?_)
        | fail)
      | (refine is_umcall ?_; first
        | refine mj_callP (h := to_spec _ _ _ r) (k := ?_)
        | fail)
      | ((fail_if_success (first | refine is_ucall ?_ | refine is_umcall ?_)); first | refine W1 ?_ | refine Wc ?_ | refine W2c ?_ ?_ | refine Wg ?_ | refine W2 ?_ ?_ | exact Wdead | refine Wlive (fun hb => ?_) | intro _ _ _ _ _ _ _ _ | refine We ?_ | refine Wx ?_ | refine Wt ?_ | refine Wm ?_ | refine W2m ?_ ?_ | refine Wl ?_)
      | fail)
    exact ⟨_, hlt, (by repeat' (first | exact Weak.nil | refine Weak.wild ?_ | refine Weak.same ?_ | refine Weak.intEq (by first | omega | (simp; done) | (push_cast; omega)) ?_)), rfl, Ext.set (hE H extA (by omega)) (by omega) _, getA, getA, getA, hB1.keep (fun i o h1 h2 h => get_setne (by omega) (hK i o (by omega) (get_old h))), hB2.keep (fun i o h1 h2 h => get_setne (by omega) (hK i o h2 (get_old h))), by rw [htk]; refine hA4.set ?_; omega, by rw [List.length_set]; omega⟩
  obtain rfl : j = m.clips.length := by omega
  rw [List.take_length] at hA
  have hB3 := hA.bnd
  have hcv3 := hA.cell
  have hok3 : [Value.int .i64 m.hour, Value.int .i64 m.grace, v1, v2, v3].all cellOk = true := by simp only [List.all_cons, List.all_nil, hcv1, hcv2, hcv3]; rfl
  repeat' (first
    | (refine is_ucall ?_; first
      | refine st_callP (h := to_spec _ _ _ r) (k := ?_)
      | fail)
    | (refine is_umcall ?_; first
      | refine mj_callP (h := to_spec _ _ _ r) (k := ?_)
      | fail)
    | ((fail_if_success (first | refine is_ucall ?_ | refine is_umcall ?_)); first | refine W1 ?_ | refine Wc ?_ | refine W2c ?_ ?_ | refine Wg ?_ | refine W2 ?_ ?_ | exact Wdead | refine Wlive (fun hb => ?_) | intro _ _ _ _ _ _ _ _ | refine We ?_ | refine Wx ?_ | refine Wt ?_ | refine Wm ?_ | refine W2m ?_ ?_ | refine Wl ?_)
    | fail)
  refine tidy3 (hB1.keep fun i o h1 h2 h => get_setne (by omega) h) (hB2.keep fun i o h1 h2 h => get_setne (by omega) h) (hB3.keep fun i o h1 h2 h => get_setne (by omega) h) ⟨by omega, by omega, by omega⟩ extA rfl rfl (fun _ => rfl) (fun _ => rfl) (fun _ => rfl) ⟨rfl, rfl, rfl⟩
end
theorem slH_row {α : Type} {enc : α → List Value} {w : Nat} {l : List α} (h : l ≠ []) : slH enc w l = [.row (l.map enc).flatten w true] := by
  have hne' : l.isEmpty = false := by cases l <;> simp_all
  simp [slH, hne']
theorem house_madeO (H : AHeap) (m : HouseM) (h1 : m.clocks.length ≤ 1000000) (h2 : m.tickets.length ≤ 1000000) (h3 : m.clips.length ≤ 1000000) : HouseY (H ++ houseL m) m (hS1 H.length m) (hS2 H.length m) (hS3 H.length m) := by
  have g1 : m.clocks ≠ [] → (H ++ houseL m)[H.length]? = some (.row (m.clocks.map encR).flatten 2 true) := fun h => by
    unfold houseL
    rw [slH_row h]
    simp
  have g2 : m.tickets ≠ [] → (H ++ houseL m)[H.length + (slH encR 2 m.clocks).length]? = some (.row (m.tickets.map encR).flatten 2 true) := fun h => by
    unfold houseL
    rw [slH_row h, List.getElem?_append_right (by omega), List.getElem?_append_right (by simp)]
    simp
  have g3 : m.clips ≠ [] → (H ++ houseL m)[H.length + (slH encR 2 m.clocks ++ slH encR 2 m.tickets).length]? = some (.row (m.clips.map encC).flatten 3 true) := fun h => by
    have e : houseL m = (slH encR 2 m.clocks ++ slH encR 2 m.tickets) ++ [.row (m.clips.map encC).flatten 3 true] := by
      unfold houseL
      rw [← List.append_assoc, slH_row h]
    rw [e, List.getElem?_append_right (by omega), List.getElem?_append_right (by omega)]
    have : H.length + (slH encR 2 m.clocks ++ slH encR 2 m.tickets).length - H.length - (slH encR 2 m.clocks ++ slH encR 2 m.tickets).length = 0 := by omega
    rw [this]; rfl
  exact ⟨rd_at' encR_len g1, rd_at' encR_len g2, rd_at' encC_len g3, by simp [slV_cell], h1, h2, h3⟩
theorem houseL_own (m : HouseM) : (houseL m).all ownRow = true := by
  have h : ∀ {α : Type} (enc : α → List Value) (w : Nat) (l : List α), (slH enc w l).all ownRow = true := fun _ _ _ => slH_own
  unfold houseL
  rw [List.all_append, List.all_append, h, h, h]; rfl

section
variable {γ : Type} (E : Env γ) (g : γ) (H : AHeap)
theorem ints_same1 (sv tv : Value) (a : List Int) (ha : RdS H sv 1 (encI a)) (hb : RdS H tv 1 (encI a)) (hn : a.length ≤ 1000000) : CallJ Try.prog E 54 [sv, tv] (fun v H' g' => v = .bool true ∧ H' = H ∧ g' = g) H g :=
  (ints_spec E g H sv tv a a ha hb hn hn).mono (by rintro v H' g' ⟨rfl, rfl, rfl⟩; exact ⟨by rw [decide_eq_true rfl], rfl, rfl⟩)
end
end Go.Proofs.Ytehobnpoeodhkaa
