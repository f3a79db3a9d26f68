import Derived.Test.YtjbiidlmpaibkaaJkp
namespace Go.Proofs.Ytjbiidlmpaibkaa
open Go Go.Abs Go.Proofs
set_option maxHeartbeats 8000000
set_option maxRecDepth 20000
attribute [local irreducible] CallJ OpsJ WPJ CallV MonoJ SpecJ
def minJ (A B : List Int) (n j : Nat) : List Int := (List.range n).map fun i => if i < j then min (A.getD i 0) (B.getD i 0) else B.getD i 0
theorem minJ_len (A B : List Int) (n j : Nat) : (minJ A B n j).length = n := by simp [minJ]
theorem minJ_zero {A B : List Int} {n : Nat} (h : B.length = n) : minJ A B n 0 = B := by
  subst h
  refine List.ext_getElem (by simp [minJ]) fun i h1 h2 => ?_
  simp [minJ, List.getD, h2]
theorem minJ_step {A B : List Int} {n j : Nat} (_h : j < n) : (minJ A B n j).set j (min (A.getD j 0) (B.getD j 0)) = minJ A B n (j + 1) := by
  refine List.ext_getElem (by simp [minJ]) fun i h1 h2 => ?_
  rw [List.getElem_set]
  simp only [minJ, List.getElem_map, List.getElem_range]
  by_cases e : j = i
  · subst e; rw [if_pos rfl, if_pos (by omega)]
  · rw [if_neg e]
    by_cases e2 : i < j
    · rw [if_pos e2, if_pos (by omega)]
    · rw [if_neg e2, if_neg (by omega)]
theorem minJ_at {A B : List Int} {n j : Nat} (h : j < n) (k : Nat) : (minJ A B n k).getD j 0 = if j < k then min (A.getD j 0) (B.getD j 0) else B.getD j 0 := by simp [minJ, List.getD, h]
section
variable {γ : Type} (E : Env γ) (g : γ) (H : AHeap)
theorem warmer_law (m : CopM) (s1 s2 s3 s4 : Value) (a b c d : Int) (hm : CopZ H m s1 s2 s3 s4) (ha : 0 ≤ a ∧ a ≤ 65535) (hb : 0 ≤ b ∧ b ≤ 65535) (hc : 0 ≤ c ∧ c ≤ 255) (hd : 0 ≤ d ∧ d ≤ 255) :
    CallJ Try.prog E 11 [cv m s1 s2 s3 s4, .int .u16 a, .int .u16 b, .int .u8 c, .int .u8 d] (fun v H' g' => v = .bool true ∧ H' = H ∧ g' = g) H g := by
  have hok := hm.cells
  refine CallJ.tidy ?_
  unfold cv
  refine CallJ.enter Try.func11 rfl (by simp only [Try.ntmps11, List.length_cons, List.length_nil, Nat.zero_add, Nat.reduceAdd, Nat.reduceSub, List.replicate_succ, List.replicate_zero, List.cons_append, List.nil_append]; rfl) ?_
  repeat' (first
    | (refine is_ucall ?_; first
      | refine st_callP (h := readyZ_spec _ _ _ m s1 s2 s3 s4 (hm.ext extA)) (k := ?_)
      | refine st_callP (h := awake_spec _ _ _) (k := ?_)
      | fail)
    | (refine is_umcall ?_; first
      | refine mj_callP (h := readyZ_spec _ _ _ m s1 s2 s3 s4 (hm.ext extA)) (k := ?_)
      | refine mj_callP (h := awake_spec _ _ _) (k := ?_)
      | fail)
    | ((fail_if_success (first | refine is_ucall ?_ | refine is_umcall ?_)); first | refine W1 ?_ | refine Wc ?_ | refine W2c ?_ ?_ | refine Wg ?_ | refine W2 ?_ ?_ | exact Wdead | refine Wlive (fun hb => ?_) | intro _ _ _ _ _ _ _ _ | refine We ?_ | refine Wx ?_ | refine Wt ?_ | refine Wm ?_ | refine W2m ?_ ?_ | refine Wl ?_)
    | fail)
  · exact ⟨rfl, rfl, rfl⟩
  · have hr : thinS m = true ∧ checkS m = 0 := by assumption
    have hI := hm.is hr.1
    have hG := good_of hr.2
    have hN := hG.nr
    obtain ⟨hn5, hnl⟩ := hrs_le hG.w
    have hl0 := hG.w.l0
    have hl4 := hG.w.l4
    have hll := hG.ll
    have hsh := hG.sh
    have hMe := manyS_eq m
    have hM1 : 1 ≤ manyS m ∧ manyS m ≤ 3000 := by
      have h1 := prodS_pos m.loss hG.lb
      have h2 := hG.hh
      simp only [upTo, Bool.and_eq_true, decide_eq_true_eq] at h2
      have h3 : 0 < (m.hhi - m.hlo + 1) * prodS m.loss := Int.mul_pos (by omega) (by omega)
      have h4 : sizesS m = (m.hhi - m.hlo + 1) * prodS m.loss := rfl
      omega
    have hwa : IntKind.i64.wrap a = ((a.toNat : Nat) : Int) := by rw [wrap64_eq ⟨by omega, by omega⟩]; omega
    have hwb : IntKind.i64.wrap b = ((b.toNat : Nat) : Int) := by rw [wrap64_eq ⟨by omega, by omega⟩]; omega
    have hwc : IntKind.i64.wrap c = ((c.toNat : Nat) : Int) := by rw [wrap64_eq ⟨by omega, by omega⟩]; omega
    have hwd : IntKind.i64.wrap d = ((d.toNat : Nat) : Int) := by rw [wrap64_eq ⟨by omega, by omega⟩]; omega
    obtain ⟨M, hMn⟩ : ∃ M : Nat, manyS m = (M : Int) := ⟨(manyS m).toNat, by omega⟩
    have hra : ((a.toNat : Nat) : Int).tmod (M : Int) = ((a.toNat % M : Nat) : Int) := rfl
    have hrb : ((b.toNat : Nat) : Int).tmod (M : Int) = ((b.toNat % M : Nat) : Int) := rfl
    have hla : a.toNat % M ≤ 1000000 := by have := Nat.mod_le a.toNat M; omega
    have hlb : b.toNat % M ≤ 1000000 := by have := Nat.mod_le b.toNat M; omega
    generalize a.toNat % M = na at *
    generalize b.toNat % M = nb at *
    have hAl := nthL_len hG na
    have hBl := nthL_len hG nb
    have hMany := fun (H' : AHeap) (ee : Ext H H') => Many_spec trivE () H' m s1 s2 s3 s4 (hI.ext ee).y hG.hh hG.lb
    rw [hMn] at hMany
    have hNth := fun (H' : AHeap) (n : Nat) (hn : n ≤ 1000000) (ee : Ext H H') => Nth_spec trivE () H' m s1 s2 s3 s4 n (hI.ext ee).y hG hn
    refine WPJ.draw 16 mixed (by kernel_rfl) (by kernel_rfl) (by kernel_rfl) (by decide) ?_
    refine MonoJ.normA ?_
    repeat' (first
      | (refine is_ucall ?_; first
        | refine st_callP (h := readyZ_spec _ _ _ m s1 s2 s3 s4 (hm.ext extA)) (k := ?_)
        | refine st_callP (h := awake_spec _ _ _) (k := ?_)
        | fail)
      | (refine is_umcall ?_; first
        | refine mj_callP (h := readyZ_spec _ _ _ m s1 s2 s3 s4 (hm.ext extA)) (k := ?_)
        | refine mj_callP (h := awake_spec _ _ _) (k := ?_)
        | fail)
      | ((fail_if_success (first | refine is_ucall ?_ | refine is_umcall ?_)); first | refine W1 ?_ | refine Wc ?_ | refine W2c ?_ ?_ | refine Wg ?_ | refine W2 ?_ ?_ | exact Wdead | refine Wlive (fun hb => ?_) | intro _ _ _ _ _ _ _ _ | refine We ?_ | refine Wx ?_ | refine Wt ?_ | refine Wm ?_ | refine W2m ?_ ?_ | refine Wl ?_)
      | fail)
    refine mj_callP (h := hMany _ ?_) (k := ?_)
    · exact extA
    rw [hwa]
    refine MonoJ.normA ?_
    repeat' (first
      | (refine is_ucall ?_; first
        | refine st_callP (h := readyZ_spec _ _ _ m s1 s2 s3 s4 (hm.ext extA)) (k := ?_)
        | refine st_callP (h := awake_spec _ _ _) (k := ?_)
        | fail)
      | (refine is_umcall ?_; first
        | refine mj_callP (h := readyZ_spec _ _ _ m s1 s2 s3 s4 (hm.ext extA)) (k := ?_)
        | refine mj_callP (h := awake_spec _ _ _) (k := ?_)
        | fail)
      | ((fail_if_success (first | refine is_ucall ?_ | refine is_umcall ?_)); first | refine W1 ?_ | refine Wc ?_ | refine W2c ?_ ?_ | refine Wg ?_ | refine W2 ?_ ?_ | exact Wdead | refine Wlive (fun hb => ?_) | intro _ _ _ _ _ _ _ _ | refine We ?_ | refine Wx ?_ | refine Wt ?_ | refine Wm ?_ | refine W2m ?_ ?_ | refine Wl ?_)
      | fail)
    rw [hra]
    refine mj_callL (h := hNth _ na hla ?_) (k := ?_)
    · exact extA
    refine MonoJ.normA ?_
    repeat' (first
      | (refine is_ucall ?_; first
        | refine st_callP (h := readyZ_spec _ _ _ m s1 s2 s3 s4 (hm.ext extA)) (k := ?_)
        | refine st_callP (h := awake_spec _ _ _) (k := ?_)
        | fail)
      | (refine is_umcall ?_; first
        | refine mj_callP (h := readyZ_spec _ _ _ m s1 s2 s3 s4 (hm.ext extA)) (k := ?_)
        | refine mj_callP (h := awake_spec _ _ _) (k := ?_)
        | fail)
      | ((fail_if_success (first | refine is_ucall ?_ | refine is_umcall ?_)); first | refine W1 ?_ | refine Wc ?_ | refine W2c ?_ ?_ | refine Wg ?_ | refine W2 ?_ ?_ | exact Wdead | refine Wlive (fun hb => ?_) | intro _ _ _ _ _ _ _ _ | refine We ?_ | refine Wx ?_ | refine Wt ?_ | refine Wm ?_ | refine W2m ?_ ?_ | refine Wl ?_)
      | fail)
    refine mj_callP (h := hMany _ ?_) (k := ?_)
    · exact extA
    rw [hwb]
    refine MonoJ.normA ?_
    repeat' (first
      | (refine is_ucall ?_; first
        | refine st_callP (h := readyZ_spec _ _ _ m s1 s2 s3 s4 (hm.ext extA)) (k := ?_)
        | refine st_callP (h := awake_spec _ _ _) (k := ?_)
        | fail)
      | (refine is_umcall ?_; first
        | refine mj_callP (h := readyZ_spec _ _ _ m s1 s2 s3 s4 (hm.ext extA)) (k := ?_)
        | refine mj_callP (h := awake_spec _ _ _) (k := ?_)
        | fail)
      | ((fail_if_success (first | refine is_ucall ?_ | refine is_umcall ?_)); first | refine W1 ?_ | refine Wc ?_ | refine W2c ?_ ?_ | refine Wg ?_ | refine W2 ?_ ?_ | exact Wdead | refine Wlive (fun hb => ?_) | intro _ _ _ _ _ _ _ _ | refine We ?_ | refine Wx ?_ | refine Wt ?_ | refine Wm ?_ | refine W2m ?_ ?_ | refine Wl ?_)
      | fail)
    rw [hrb]
    refine mj_callL (h := hNth _ nb hlb ?_) (k := ?_)
    · exact extA
    rw [hAl, hBl]
    clear hMany hNth
    refine MonoJ.normA ?_
    repeat' (first
      | (refine is_ucall ?_; first
        | refine st_callP (h := readyZ_spec _ _ _ m s1 s2 s3 s4 (hm.ext extA)) (k := ?_)
        | refine st_callP (h := awake_spec _ _ _) (k := ?_)
        | fail)
      | (refine is_umcall ?_; first
        | refine mj_callP (h := readyZ_spec _ _ _ m s1 s2 s3 s4 (hm.ext extA)) (k := ?_)
        | refine mj_callP (h := awake_spec _ _ _) (k := ?_)
        | fail)
      | ((fail_if_success (first | refine is_ucall ?_ | refine is_umcall ?_)); first | refine W1 ?_ | refine Wc ?_ | refine W2c ?_ ?_ | refine Wg ?_ | refine W2 ?_ ?_ | exact Wdead | refine Wlive (fun hb => ?_) | intro _ _ _ _ _ _ _ _ | refine We ?_ | refine Wx ?_ | refine Wt ?_ | refine Wm ?_ | refine W2m ?_ ?_ | refine Wl ?_)
      | fail)
    have eH : (if nthH m nb > nthH m na then nthH m nb else nthH m na) = max (nthH m na) (nthH m nb) := by omega
    rw [eH]
    have hzero := minJ_zero (A := nthL m na) hBl
    rw [← hzero]
    have aH := nthH_at hG na
    have bH := nthH_at hG nb
    have aL := fun (j : Nat) (hj : j < hrs m) => nthL_at hG na hj
    have bL := fun (j : Nat) (hj : j < hrs m) => nthL_at hG nb hj
    clear hzero eH
    generalize nthL m na = A at *
    generalize nthL m nb = B at *
    generalize nthH m na = h1 at *
    generalize nthH m nb = h2 at *
    refine WPJ.loopT (hrs m) [48, 49, 50, 51, 52, 55, 56, 57, 58, 59, 60, 61, 62, 63, 64, 65, 66, 67, 68, 69, 53, 54] (fun j (_ : Unit) => [(13, .int .i64 j)])
      (fun j _ H1 g1 => g1 = g ∧ H1 = H ++ [.row (ccells m s1 s2 s3 s4) 1 true, .row (encE A) 1 true, .row (encE (minJ A B (hrs m) j)) 1 true, .row [.int .i64 h1, .slice (some ⟨H.length + 1, 0, none⟩) (hrs m) (hrs m)] 1 true, .row [.int .i64 (max h1 h2), .slice (some ⟨H.length + 2, 0, none⟩) (hrs m) (hrs m)] 1 true]) 0 () (Nat.zero_le _) (by intro p hp; simp at hp; rcases hp with rfl; rfl) ⟨rfl, rfl⟩ ?_
    rintro j _ H1 g1 hj ⟨rfl, rfl⟩ hlx
    simp only [updT, maskT, List.set_cons_zero, List.set_cons_succ]
    rcases Nat.lt_or_ge j (hrs m) with hlt | hge
    · have hAe : (encE A)[j * 1]? = some (.int .i64 (A.getD j 0)) := by simp [encE, List.getD, show j < A.length by omega]
      have hXe : (encE (minJ A B (hrs m) j))[j * 1]? = some (.int .i64 (B.getD j 0)) := by
        have e1 := minJ_at (A := A) (B := B) hlt j
        rw [if_neg (by omega)] at e1
        rw [← e1]
        have e2 := minJ_len A B (hrs m) j
        simp [encE, List.getD, show j < (minJ A B (hrs m) j).length by omega]
      have hXl : (encE (minJ A B (hrs m) j)).length = hrs m := by simp [encE, minJ_len]
      have hst := minJ_step (A := A) (B := B) hlt
      have hstE : (encE (minJ A B (hrs m) j)).set (j * 1) (.int .i64 (min (A.getD j 0) (B.getD j 0))) = encE (minJ A B (hrs m) (j + 1)) := by
        rw [← hst, Nat.mul_one]; unfold encE; rw [List.map_set]
      rw [← hstE]
      clear hst hstE
      generalize encE (minJ A B (hrs m) j) = xs at *
      generalize A.getD j 0 = x at *
      generalize B.getD j 0 = y at *
      repeat' (first
        | (refine is_ucall ?_; first
          | refine st_callP (h := readyZ_spec _ _ _ m s1 s2 s3 s4 (hm.ext extA)) (k := ?_)
          | refine st_callP (h := awake_spec _ _ _) (k := ?_)
          | fail)
        | (refine is_umcall ?_; first
          | refine mj_callP (h := readyZ_spec _ _ _ m s1 s2 s3 s4 (hm.ext extA)) (k := ?_)
          | refine mj_callP (h := awake_spec _ _ _) (k := ?_)
          | fail)
        | ((fail_if_success (first | refine is_ucall ?_ | refine is_umcall ?_)); first | refine W1 ?_ | refine Wc ?_ | refine W2c ?_ ?_ | refine Wg ?_ | refine W2 ?_ ?_ | exact Wdead | refine Wlive (fun hb => ?_) | intro _ _ _ _ _ _ _ _ | refine We ?_ | refine Wx ?_ | refine Wt ?_ | refine Wm ?_ | refine W2m ?_ ?_ | refine Wl ?_)
        | fail)
      refine WPJ.draw 15 mixed (by kernel_rfl) (by kernel_rfl) (by kernel_rfl) (by decide) ?_
      refine MonoJ.normA ?_
      repeat' (first
        | (refine is_ucall ?_; first
          | refine st_callP (h := readyZ_spec _ _ _ m s1 s2 s3 s4 (hm.ext extA)) (k := ?_)
          | refine st_callP (h := awake_spec _ _ _) (k := ?_)
          | fail)
        | (refine is_umcall ?_; first
          | refine mj_callP (h := readyZ_spec _ _ _ m s1 s2 s3 s4 (hm.ext extA)) (k := ?_)
          | refine mj_callP (h := awake_spec _ _ _) (k := ?_)
          | fail)
        | ((fail_if_success (first | refine is_ucall ?_ | refine is_umcall ?_)); first | refine W1 ?_ | refine Wc ?_ | refine W2c ?_ ?_ | refine Wg ?_ | refine W2 ?_ ?_ | exact Wdead | refine Wlive (fun hb => ?_) | intro _ _ _ _ _ _ _ _ | refine We ?_ | refine Wx ?_ | refine Wt ?_ | refine Wm ?_ | refine W2m ?_ ?_ | refine Wl ?_)
        | fail)
      have hmin : (if y < x then y else x) = min x y := by omega
      rw [hmin]
      exact ⟨(), hlt, (by repeat' (first | exact Weak.nil | refine Weak.wild ?_ | refine Weak.same ?_ | refine Weak.intEq (by first | omega | (simp; done) | (push_cast; omega)) ?_)), rfl, rfl⟩
    · obtain rfl : j = hrs m := by omega
      have eB := minJ_len A B (hrs m) (hrs m)
      have bX : ∀ i, (minJ A B (hrs m) (hrs m)).getD i 0 ≤ A.getD i 0 := fun i => by
        rcases Nat.lt_or_ge i (hrs m) with h | h
        · rw [minJ_at h, if_pos h]; omega
        · simp only [List.getD]
          rw [List.getElem?_eq_none (by omega), List.getElem?_eq_none (by omega)]
          exact Int.le_refl _
      have bO : ∀ i < hrs m, (m.loss.getD i (0, 0)).1 ≤ (minJ A B (hrs m) (hrs m)).getD i 0 ∧ (minJ A B (hrs m) (hrs m)).getD i 0 ≤ (m.loss.getD i (0, 0)).2 := fun i h => by
        have := aL i h
        have := bL i h
        rw [minJ_at h, if_pos h]; omega
      generalize minJ A B (hrs m) (hrs m) = B2 at *
      have hrc : ((c.toNat : Nat) : Int) % (m.last + 1) = ((c.toNat % hrs m : Nat) : Int) := by rw [← hnl]; rfl
      have hk : c.toNat % hrs m < hrs m := Nat.mod_lt _ (by omega)
      have hrd : ((d.toNat : Nat) : Int).tmod 3 = ((d.toNat % 3 : Nat) : Int) := rfl
      have hd3 : d.toNat % 3 < 3 := Nat.mod_lt _ (by omega)
      generalize c.toNat % hrs m = k at *
      generalize d.toNat % 3 = dm at *
      have hcl : m.coal.length = hrs m := hG.w.cl
      have hck : (encI m.coal)[(k : Int).toNat]? = some [.int .i64 (m.coal.getD k 0)] := by simp [List.getD, show k < m.coal.length by omega]
      have hcb : 0 ≤ m.coal.getD k 0 ∧ m.coal.getD k 0 ≤ m.shovels := getD_bd hG.cs ⟨Int.le_refl _, hsh.1⟩ k
      have hce : (encE m.coal).length = hrs m := by simp [encE, hcl]
      have hrl := hI.coal
      repeat' (first
        | (refine is_ucall ?_; first
          | refine st_callP (h := readyZ_spec _ _ _ m s1 s2 s3 s4 (hm.ext extA)) (k := ?_)
          | refine st_callP (h := awake_spec _ _ _) (k := ?_)
          | fail)
        | (refine is_umcall ?_; first
          | refine mj_callP (h := readyZ_spec _ _ _ m s1 s2 s3 s4 (hm.ext extA)) (k := ?_)
          | refine mj_callP (h := awake_spec _ _ _) (k := ?_)
          | fail)
        | ((fail_if_success (first | refine is_ucall ?_ | refine is_umcall ?_)); first | refine W1 ?_ | refine Wc ?_ | refine W2c ?_ ?_ | refine Wg ?_ | refine W2 ?_ ?_ | exact Wdead | refine Wlive (fun hb => ?_) | intro _ _ _ _ _ _ _ _ | refine We ?_ | refine Wx ?_ | refine Wt ?_ | refine Wm ?_ | refine W2m ?_ ?_ | refine Wl ?_)
        | fail)
      refine st_call rfl (list_spec E _ _ s1 m.coal ?_ hI.n1) ?_
      · exact hI.coal.ext extA
      rintro _ _ g2 ⟨rfl, rfl, rfl⟩
      rw [hcl]
      refine OpsJ.normA ?_
      repeat' (first
        | (refine is_ucall ?_; first
          | refine st_callP (h := readyZ_spec _ _ _ m s1 s2 s3 s4 (hm.ext extA)) (k := ?_)
          | refine st_callP (h := awake_spec _ _ _) (k := ?_)
          | fail)
        | (refine is_umcall ?_; first
          | refine mj_callP (h := readyZ_spec _ _ _ m s1 s2 s3 s4 (hm.ext extA)) (k := ?_)
          | refine mj_callP (h := awake_spec _ _ _) (k := ?_)
          | fail)
        | ((fail_if_success (first | refine is_ucall ?_ | refine is_umcall ?_)); first | refine W1 ?_ | refine Wc ?_ | refine W2c ?_ ?_ | refine Wg ?_ | refine W2 ?_ ?_ | exact Wdead | refine Wlive (fun hb => ?_) | intro _ _ _ _ _ _ _ _ | refine We ?_ | refine Wx ?_ | refine Wt ?_ | refine Wm ?_ | refine W2m ?_ ?_ | refine Wl ?_)
        | fail)
      try rw [hwc]
      rw [hrc]
      refine WPJ.draw 16 mixed (by kernel_rfl) (by kernel_rfl) (by kernel_rfl) (by decide) ?_
      refine MonoJ.normA ?_
      iterate 13 (first
        | (refine is_ucall ?_; first
          | refine st_callP (h := readyZ_spec _ _ _ m s1 s2 s3 s4 (hm.ext extA)) (k := ?_)
          | refine st_callP (h := awake_spec _ _ _) (k := ?_)
          | fail)
        | (refine is_umcall ?_; first
          | refine mj_callP (h := readyZ_spec _ _ _ m s1 s2 s3 s4 (hm.ext extA)) (k := ?_)
          | refine mj_callP (h := awake_spec _ _ _) (k := ?_)
          | fail)
        | ((fail_if_success (first | refine is_ucall ?_ | refine is_umcall ?_)); first | refine W1 ?_ | refine Wc ?_ | refine W2c ?_ ?_ | refine Wg ?_ | refine W2 ?_ ?_ | exact Wdead | refine Wlive (fun hb => ?_) | intro _ _ _ _ _ _ _ _ | refine We ?_ | refine Wx ?_ | refine Wt ?_ | refine Wm ?_ | refine W2m ?_ ?_ | refine Wl ?_)
        | fail)
      try rw [hwd]
      refine MonoJ.normA ?_
      iterate 1 (first
        | (refine is_ucall ?_; first
          | refine st_callP (h := readyZ_spec _ _ _ m s1 s2 s3 s4 (hm.ext extA)) (k := ?_)
          | refine st_callP (h := awake_spec _ _ _) (k := ?_)
          | fail)
        | (refine is_umcall ?_; first
          | refine mj_callP (h := readyZ_spec _ _ _ m s1 s2 s3 s4 (hm.ext extA)) (k := ?_)
          | refine mj_callP (h := awake_spec _ _ _) (k := ?_)
          | fail)
        | ((fail_if_success (first | refine is_ucall ?_ | refine is_umcall ?_)); first | refine W1 ?_ | refine Wc ?_ | refine W2c ?_ ?_ | refine Wg ?_ | refine W2 ?_ ?_ | exact Wdead | refine Wlive (fun hb => ?_) | intro _ _ _ _ _ _ _ _ | refine We ?_ | refine Wx ?_ | refine Wt ?_ | refine Wm ?_ | refine W2m ?_ ?_ | refine Wl ?_)
        | fail)
      rw [hrd]
      refine MonoJ.normA ?_
      repeat' (first
        | (refine is_ucall ?_; first
          | refine st_callP (h := readyZ_spec _ _ _ m s1 s2 s3 s4 (hm.ext extA)) (k := ?_)
          | refine st_callP (h := awake_spec _ _ _) (k := ?_)
          | fail)
        | (refine is_umcall ?_; first
          | refine mj_callP (h := readyZ_spec _ _ _ m s1 s2 s3 s4 (hm.ext extA)) (k := ?_)
          | refine mj_callP (h := awake_spec _ _ _) (k := ?_)
          | fail)
        | ((fail_if_success (first | refine is_ucall ?_ | refine is_umcall ?_)); first | refine W1 ?_ | refine Wc ?_ | refine W2c ?_ ?_ | refine Wg ?_ | refine W2 ?_ ?_ | exact Wdead | refine Wlive (fun hb => ?_) | intro _ _ _ _ _ _ _ _ | refine We ?_ | refine Wx ?_ | refine Wt ?_ | refine Wm ?_ | refine W2m ?_ ?_ | refine Wl ?_)
        | fail)
      obtain ⟨xl, hxl⟩ : ∃ xl, xl = m.coal.set k (if m.coal.getD k 0 + (dm : Int) < m.shovels then m.coal.getD k 0 + (dm : Int) else m.shovels) := ⟨_, rfl⟩
      have hxr : (encE m.coal).set (k * 1) (.int .i64 (if m.coal.getD k 0 + (dm : Int) < m.shovels then m.coal.getD k 0 + (dm : Int) else m.shovels)) = encE xl := by
        rw [hxl, Nat.mul_one]; unfold encE; rw [List.map_set]
      rw [hxr]
      have xat : ∀ j, xl.getD j 0 = if k = j then (if m.coal.getD k 0 + (dm : Int) < m.shovels then m.coal.getD k 0 + (dm : Int) else m.shovels) else m.coal.getD j 0 := fun j => by
        rw [hxl]
        simp only [List.getD, List.getElem?_set]
        by_cases e : k = j
        · subst e; rw [if_pos rfl, if_pos (by omega), if_pos rfl]; rfl
        · rw [if_neg e, if_neg e]
      have xge : ∀ j, m.coal.getD j 0 ≤ xl.getD j 0 := fun j => by
        rw [xat j]
        by_cases e : k = j
        · subst e; rw [if_pos rfl]; split <;> omega
        · rw [if_neg e]; exact Int.le_refl _
      have xok : CoalOk m xl := by
        refine ⟨by rw [hxl, List.length_set]; exact hcl, fun x hx => ?_⟩
        obtain ⟨j, hj, rfl⟩ := List.getElem_of_mem hx
        have e1 : xl[j] = xl.getD j 0 := by simp [List.getD, hj]
        have e2 := getD_bd (a := 0) (b := m.shovels) hG.cs ⟨Int.le_refl _, hsh.1⟩ j
        rw [e1, xat j]
        by_cases e : k = j
        · subst e; rw [if_pos rfl]; split <;> omega
        · rw [if_neg e]; exact e2
      have okx := check_coal hr.2 xok
      have t1 : truthOkS m h1 A = true := truthOk_of hG aH hAl aL
      have t2 : truthOkS (coalM m xl) (max h1 h2) B2 = true := truthOk_of hG (by omega) eB bO
      have y1 := play_ok hr.2 t1
      have y2 := play_ok okx t2
      have h00 : 0 ≤ h1 := by have := hG.hh; simp only [upTo, Bool.and_eq_true, decide_eq_true_eq] at this; omega
      have hot1 : ∀ i < hrs m, (hotL m h1 A).getD i 0 ≤ (hotL (coalM m xl) (max h1 h2) B2).getD i 0 := fun i hi => by
        have := hot_warm (m := m) (m' := coalM m xl) rfl rfl rfl (fun _ => rfl) hG.w.per.1 (hc := h1) (hc' := max h1 h2) (ls := pad5 A) (ls' := pad5 B2) h00 (by omega) (fun j => (getD_bd (a := 0) (b := m.shovels) hG.cs ⟨Int.le_refl _, hsh.1⟩ j).1) xge (pad5_le bX) i
        have e1 : hrs (coalM m xl) = hrs m := rfl
        simp only [hotL, List.getD, List.getElem?_map, e1, List.getElem?_range hi, Option.map_some, Option.getD_some]
        exact this
      have left1 : ∀ i < hrs m, (leftL m h1 A).getD i 0 ≤ (leftL (coalM m xl) (max h1 h2) B2).getD i 0 := fun i hi => by
        have := lefts_warm (m := m) (m' := coalM m xl) rfl rfl rfl (fun _ => rfl) hG.w.per.1 (hc := h1) (hc' := max h1 h2) (ls := pad5 A) (ls' := pad5 B2) h00 (by omega) (fun j => (getD_bd (a := 0) (b := m.shovels) hG.cs ⟨Int.le_refl _, hsh.1⟩ j).1) xge (pad5_le bX) (i + 1)
        have e1 : hrs (coalM m xl) = hrs m := rfl
        simp only [leftL, List.getD, List.getElem?_map, e1, List.getElem?_range hi, Option.map_some, Option.getD_some]
        exact this
      have hPl := hotL_len m h1 A
      have hQl := leftL_len m h1 A
      have hRl : (hotL (coalM m xl) (max h1 h2) B2).length = hrs m := hotL_len (coalM m xl) (max h1 h2) B2
      have hSl : (leftL (coalM m xl) (max h1 h2) B2).length = hrs m := leftL_len (coalM m xl) (max h1 h2) B2
      have xlen : xl.length = hrs m := xok.1
      obtain ⟨Hx, hHx⟩ : ∃ Hx, Hx = H ++ [.row (ccells m s1 s2 s3 s4) 1 true, .row (encE A) 1 true, .row (encE B2) 1 true, .row [.int .i64 h1, .slice (some ⟨H.length + 1, 0, none⟩) (hrs m) (hrs m)] 1 true, .row [.int .i64 (max h1 h2), .slice (some ⟨H.length + 2, 0, none⟩) (hrs m) (hrs m)] 1 true,
          .row [.int .i64 m.last, .int .i64 m.start, .int .i64 m.most, .int .i64 m.per, .int .i64 m.shovels, .slice (some ⟨H.length + 6, 0, none⟩) (hrs m) (hrs m), s2, .int .i64 m.hlo, .int .i64 m.hhi, s3, s4] 1 true, .row (encE xl) 1 true] := ⟨_, rfl⟩
      rw [← hHx]
      have f0 : Hx[H.length]? = some (.row (ccells m s1 s2 s3 s4) 1 true) := by rw [hHx]; exact getA
      have f3 : Hx[H.length + 3]? = some (.row [.int .i64 h1, .slice (some ⟨H.length + 1, 0, none⟩) (hrs m) (hrs m)] 1 true) := by rw [hHx]; exact getA
      have f4 : Hx[H.length + 4]? = some (.row [.int .i64 (max h1 h2), .slice (some ⟨H.length + 2, 0, none⟩) (hrs m) (hrs m)] 1 true) := by rw [hHx]; exact getA
      have f5 : Hx[H.length + 5]? = some (.row (ccells (coalM m xl) (.slice (some ⟨H.length + 6, 0, none⟩) (hrs m) (hrs m)) s2 s3 s4) 1 true) := by rw [hHx]; exact getA
      have rA : RdS Hx (.slice (some ⟨H.length + 1, 0, none⟩) (hrs m) (hrs m)) 1 (encI A) := by
        have := rd_encE (own := true) (cap := hrs m) (H := Hx) (i := H.length + 1) (s := A) (cs := encE A) (by rw [hHx]; exact getA) (List.take_of_length_le (by simp [encE]))
        rw [hAl] at this
        exact this
      have rB : RdS Hx (.slice (some ⟨H.length + 2, 0, none⟩) (hrs m) (hrs m)) 1 (encI B2) := by
        have := rd_encE (own := true) (cap := hrs m) (H := Hx) (i := H.length + 2) (s := B2) (cs := encE B2) (by rw [hHx]; exact getA) (List.take_of_length_le (by simp [encE]))
        rw [eB] at this
        exact this
      have rX : RdS Hx (.slice (some ⟨H.length + 6, 0, none⟩) (hrs m) (hrs m)) 1 (encI xl) := by
        have := rd_encE (own := true) (cap := hrs m) (H := Hx) (i := H.length + 6) (s := xl) (cs := encE xl) (by rw [hHx]; exact getA) (List.take_of_length_le (by simp [encE]))
        rw [xlen] at this
        exact this
      have xx : Ext H Hx := by rw [hHx]; exact extA
      have hx5 : H.length + 6 < Hx.length := by rw [hHx]; simp
      clear hHx hxr hxl xat xge bX bO aL bL
      have cX : CopY Hx (coalM m xl) (.slice (some ⟨H.length + 6, 0, none⟩) (hrs m) (hrs m)) s2 s3 s4 := by
        have hiX := hI.ext xx
        have := hiX.ok
        exact { coal := rX, want := hiX.want, loss := hiX.loss, reads := hiX.reads, ok := by simp [cellOk] at this ⊢; exact ⟨this.2.1, this.2.2.1, this.2.2.2⟩, n1 := by show xl.length ≤ _; omega, n2 := hiX.n2, n3 := hiX.n3, n4 := hiX.n4 }
      have okX := cX.cells
      refine WPJ.draw 12 mixed (by kernel_rfl) (by kernel_rfl) (by kernel_rfl) (by decide) ?_
      refine MonoJ.normA ?_
      repeat' (first
        | (refine is_ucall ?_; first
          | refine st_callP (h := readyZ_spec _ _ _ m s1 s2 s3 s4 (hm.ext extA)) (k := ?_)
          | refine st_callP (h := awake_spec _ _ _) (k := ?_)
          | fail)
        | (refine is_umcall ?_; first
          | refine mj_callP (h := readyZ_spec _ _ _ m s1 s2 s3 s4 (hm.ext extA)) (k := ?_)
          | refine mj_callP (h := awake_spec _ _ _) (k := ?_)
          | fail)
        | ((fail_if_success (first | refine is_ucall ?_ | refine is_umcall ?_)); first | refine W1 ?_ | refine Wc ?_ | refine W2c ?_ ?_ | refine Wg ?_ | refine W2 ?_ ?_ | exact Wdead | refine Wlive (fun hb => ?_) | intro _ _ _ _ _ _ _ _ | refine We ?_ | refine Wx ?_ | refine Wt ?_ | refine Wm ?_ | refine W2m ?_ ?_ | refine Wl ?_)
        | fail)
      refine mj_copperM rfl (hI.ext xx).y (by omega) (by omega) ?_
      intro H2 u1 u2 u3 u4 hm2 e2
      have g3 := e2.get f3
      refine MonoJ.normA ?_
      repeat' (first
        | (refine is_ucall ?_; first
          | refine st_callP (h := readyZ_spec _ _ _ m s1 s2 s3 s4 (hm.ext extA)) (k := ?_)
          | refine st_callP (h := awake_spec _ _ _) (k := ?_)
          | fail)
        | (refine is_umcall ?_; first
          | refine mj_callP (h := readyZ_spec _ _ _ m s1 s2 s3 s4 (hm.ext extA)) (k := ?_)
          | refine mj_callP (h := awake_spec _ _ _) (k := ?_)
          | fail)
        | ((fail_if_success (first | refine is_ucall ?_ | refine is_umcall ?_)); first | refine W1 ?_ | refine Wc ?_ | refine W2c ?_ ?_ | refine Wg ?_ | refine W2 ?_ ?_ | exact Wdead | refine Wlive (fun hb => ?_) | intro _ _ _ _ _ _ _ _ | refine We ?_ | refine Wx ?_ | refine Wt ?_ | refine Wm ?_ | refine W2m ?_ ?_ | refine Wl ?_)
        | fail)
      refine mj_truthN rfl (rA.ext e2) (by omega) ?_
      intro H3 tv htv e3
      refine MonoJ.normA ?_
      repeat' (first
        | (refine is_ucall ?_; first
          | refine st_callP (h := readyZ_spec _ _ _ m s1 s2 s3 s4 (hm.ext extA)) (k := ?_)
          | refine st_callP (h := awake_spec _ _ _) (k := ?_)
          | fail)
        | (refine is_umcall ?_; first
          | refine mj_callP (h := readyZ_spec _ _ _ m s1 s2 s3 s4 (hm.ext extA)) (k := ?_)
          | refine mj_callP (h := awake_spec _ _ _) (k := ?_)
          | fail)
        | ((fail_if_success (first | refine is_ucall ?_ | refine is_umcall ?_)); first | refine W1 ?_ | refine Wc ?_ | refine W2c ?_ ?_ | refine Wg ?_ | refine W2 ?_ ?_ | exact Wdead | refine Wlive (fun hb => ?_) | intro _ _ _ _ _ _ _ _ | refine We ?_ | refine Wx ?_ | refine Wt ?_ | refine Wm ?_ | refine W2m ?_ ?_ | refine Wl ?_)
        | fail)
      refine mj_playN rfl (hm2.ext e3) htv (by omega) y1 ?_
      intro H4 pv qv hpv hqv e4
      have xe := e2.trans (e3.trans e4)
      replace f0 := xe.get f0
      replace f4 := xe.get f4
      replace f5 := xe.get f5
      replace rB := rB.ext xe
      replace cX := cX.ext xe
      have x4 := xx.trans xe
      have hl4 : Hx.length ≤ H4.length := by obtain ⟨L, rfl⟩ := xe; simp
      clear xe e2 e3 e4 hm2 htv g3 f3 rA rX xx
      refine MonoJ.normA ?_
      repeat' (first
        | (refine is_ucall ?_; first
          | refine st_callP (h := readyZ_spec _ _ _ m s1 s2 s3 s4 (hm.ext extA)) (k := ?_)
          | refine st_callP (h := awake_spec _ _ _) (k := ?_)
          | fail)
        | (refine is_umcall ?_; first
          | refine mj_callP (h := readyZ_spec _ _ _ m s1 s2 s3 s4 (hm.ext extA)) (k := ?_)
          | refine mj_callP (h := awake_spec _ _ _) (k := ?_)
          | fail)
        | ((fail_if_success (first | refine is_ucall ?_ | refine is_umcall ?_)); first | refine W1 ?_ | refine Wc ?_ | refine W2c ?_ ?_ | refine Wg ?_ | refine W2 ?_ ?_ | exact Wdead | refine Wlive (fun hb => ?_) | intro _ _ _ _ _ _ _ _ | refine We ?_ | refine Wx ?_ | refine Wt ?_ | refine Wm ?_ | refine W2m ?_ ?_ | refine Wl ?_)
        | fail)
      refine WPJ.draw 12 mixed (by kernel_rfl) (by kernel_rfl) (by kernel_rfl) (by decide) ?_
      refine MonoJ.normA ?_
      repeat' (first
        | (refine is_ucall ?_; first
          | refine st_callP (h := readyZ_spec _ _ _ m s1 s2 s3 s4 (hm.ext extA)) (k := ?_)
          | refine st_callP (h := awake_spec _ _ _) (k := ?_)
          | fail)
        | (refine is_umcall ?_; first
          | refine mj_callP (h := readyZ_spec _ _ _ m s1 s2 s3 s4 (hm.ext extA)) (k := ?_)
          | refine mj_callP (h := awake_spec _ _ _) (k := ?_)
          | fail)
        | ((fail_if_success (first | refine is_ucall ?_ | refine is_umcall ?_)); first | refine W1 ?_ | refine Wc ?_ | refine W2c ?_ ?_ | refine Wg ?_ | refine W2 ?_ ?_ | exact Wdead | refine Wlive (fun hb => ?_) | intro _ _ _ _ _ _ _ _ | refine We ?_ | refine Wx ?_ | refine Wt ?_ | refine Wm ?_ | refine W2m ?_ ?_ | refine Wl ?_)
        | fail)
      refine mj_copperM (m := coalM m xl) rfl cX (by show m.loss.length ≤ 1000; omega) (by show m.reads.length ≤ 1000; omega) ?_
      intro H5 u1 u2 u3 u4 hm2 e2
      have g4 := e2.get f4
      refine MonoJ.normA ?_
      repeat' (first
        | (refine is_ucall ?_; first
          | refine st_callP (h := readyZ_spec _ _ _ m s1 s2 s3 s4 (hm.ext extA)) (k := ?_)
          | refine st_callP (h := awake_spec _ _ _) (k := ?_)
          | fail)
        | (refine is_umcall ?_; first
          | refine mj_callP (h := readyZ_spec _ _ _ m s1 s2 s3 s4 (hm.ext extA)) (k := ?_)
          | refine mj_callP (h := awake_spec _ _ _) (k := ?_)
          | fail)
        | ((fail_if_success (first | refine is_ucall ?_ | refine is_umcall ?_)); first | refine W1 ?_ | refine Wc ?_ | refine W2c ?_ ?_ | refine Wg ?_ | refine W2 ?_ ?_ | exact Wdead | refine Wlive (fun hb => ?_) | intro _ _ _ _ _ _ _ _ | refine We ?_ | refine Wx ?_ | refine Wt ?_ | refine Wm ?_ | refine W2m ?_ ?_ | refine Wl ?_)
        | fail)
      refine mj_truthN rfl (rB.ext e2) (by omega) ?_
      intro H6 tv htv e3
      refine MonoJ.normA ?_
      repeat' (first
        | (refine is_ucall ?_; first
          | refine st_callP (h := readyZ_spec _ _ _ m s1 s2 s3 s4 (hm.ext extA)) (k := ?_)
          | refine st_callP (h := awake_spec _ _ _) (k := ?_)
          | fail)
        | (refine is_umcall ?_; first
          | refine mj_callP (h := readyZ_spec _ _ _ m s1 s2 s3 s4 (hm.ext extA)) (k := ?_)
          | refine mj_callP (h := awake_spec _ _ _) (k := ?_)
          | fail)
        | ((fail_if_success (first | refine is_ucall ?_ | refine is_umcall ?_)); first | refine W1 ?_ | refine Wc ?_ | refine W2c ?_ ?_ | refine Wg ?_ | refine W2 ?_ ?_ | exact Wdead | refine Wlive (fun hb => ?_) | intro _ _ _ _ _ _ _ _ | refine We ?_ | refine Wx ?_ | refine Wt ?_ | refine Wm ?_ | refine W2m ?_ ?_ | refine Wl ?_)
        | fail)
      refine mj_playN (m := coalM m xl) rfl (hm2.ext e3) htv (by omega) y2 ?_
      intro H7 rv sv hrv hsv e4
      have xe := e2.trans (e3.trans e4)
      replace f0 := xe.get f0
      replace hpv := hpv.ext xe
      replace hqv := hqv.ext xe
      have x7 := x4.trans xe
      clear xe e2 e3 e4 hm2 htv g4 f4 f5 rB cX x4
      generalize hotL m h1 A = P at *
      generalize leftL m h1 A = Q at *
      generalize hotL (coalM m xl) (max h1 h2) B2 = R at *
      generalize leftL (coalM m xl) (max h1 h2) B2 = S at *
      refine MonoJ.normA ?_
      repeat' (first
        | (refine is_ucall ?_; first
          | refine st_callP (h := readyZ_spec _ _ _ m s1 s2 s3 s4 (hm.ext extA)) (k := ?_)
          | refine st_callP (h := awake_spec _ _ _) (k := ?_)
          | fail)
        | (refine is_umcall ?_; first
          | refine mj_callP (h := readyZ_spec _ _ _ m s1 s2 s3 s4 (hm.ext extA)) (k := ?_)
          | refine mj_callP (h := awake_spec _ _ _) (k := ?_)
          | fail)
        | ((fail_if_success (first | refine is_ucall ?_ | refine is_umcall ?_)); first | refine W1 ?_ | refine Wc ?_ | refine W2c ?_ ?_ | refine Wg ?_ | refine W2 ?_ ?_ | exact Wdead | refine Wlive (fun hb => ?_) | intro _ _ _ _ _ _ _ _ | refine We ?_ | refine Wx ?_ | refine Wt ?_ | refine Wm ?_ | refine W2m ?_ ?_ | refine Wl ?_)
        | fail)
      refine WPJ.loopT (hrs m) [148, 149, 150, 153, 154, 155, 156, 157, 158, 159, 160, 161, 162, 163, 164, 165, 166, 167, 168, 169, 170, 171, 172, 151, 152] (fun j (_ : Unit) => [(23, .int .i64 j)])
        (fun j _ H8 g8 => g8 = g2 ∧ H8 = H7) 0 () (Nat.zero_le _) (by intro p hp; simp at hp; rcases hp with rfl; rfl) ⟨rfl, rfl⟩ ?_
      rintro j _ H8 g8 hj ⟨rfl, rfl⟩ hl8
      simp only [updT, maskT, List.set_cons_zero, List.set_cons_succ]
      rcases Nat.lt_or_ge j (hrs m) with hlt | hge
      · have hpe : (encI P)[(j : Int).toNat]? = some [.int .i64 (P.getD j 0)] := by simp [List.getD, show j < P.length by omega]
        have hqe : (encI Q)[(j : Int).toNat]? = some [.int .i64 (Q.getD j 0)] := by simp [List.getD, show j < Q.length by omega]
        have hre : (encI R)[(j : Int).toNat]? = some [.int .i64 (R.getD j 0)] := by simp [List.getD, show j < R.length by omega]
        have hse : (encI S)[(j : Int).toNat]? = some [.int .i64 (S.getD j 0)] := by simp [List.getD, show j < S.length by omega]
        have c1 := hot1 j hlt
        have c2 := left1 j hlt
        clear hot1 left1
        generalize P.getD j 0 = pj at *
        generalize Q.getD j 0 = qj at *
        generalize R.getD j 0 = rj at *
        generalize S.getD j 0 = sj at *
        repeat' (first
          | (refine is_ucall ?_; first
            | refine st_callP (h := readyZ_spec _ _ _ m s1 s2 s3 s4 (hm.ext extA)) (k := ?_)
            | refine st_callP (h := awake_spec _ _ _) (k := ?_)
            | fail)
          | (refine is_umcall ?_; first
            | refine mj_callP (h := readyZ_spec _ _ _ m s1 s2 s3 s4 (hm.ext extA)) (k := ?_)
            | refine mj_callP (h := awake_spec _ _ _) (k := ?_)
            | fail)
          | ((fail_if_success (first | refine is_ucall ?_ | refine is_umcall ?_)); first | refine W1 ?_ | refine Wc ?_ | refine W2c ?_ ?_ | refine Wg ?_ | refine W2 ?_ ?_ | exact Wdead | refine Wlive (fun hb => ?_) | intro _ _ _ _ _ _ _ _ | refine We ?_ | refine Wx ?_ | refine Wt ?_ | refine Wm ?_ | refine W2m ?_ ?_ | refine Wl ?_)
          | fail)
        refine WPJ.draw 20 mixed (by kernel_rfl) (by kernel_rfl) (by kernel_rfl) (by decide) ?_
        refine MonoJ.normA ?_
        repeat' (first
          | (refine is_ucall ?_; first
            | refine st_callP (h := readyZ_spec _ _ _ m s1 s2 s3 s4 (hm.ext extA)) (k := ?_)
            | refine st_callP (h := awake_spec _ _ _) (k := ?_)
            | fail)
          | (refine is_umcall ?_; first
            | refine mj_callP (h := readyZ_spec _ _ _ m s1 s2 s3 s4 (hm.ext extA)) (k := ?_)
            | refine mj_callP (h := awake_spec _ _ _) (k := ?_)
            | fail)
          | ((fail_if_success (first | refine is_ucall ?_ | refine is_umcall ?_)); first | refine W1 ?_ | refine Wc ?_ | refine W2c ?_ ?_ | refine Wg ?_ | refine W2 ?_ ?_ | exact Wdead | refine Wlive (fun hb => ?_) | intro _ _ _ _ _ _ _ _ | refine We ?_ | refine Wx ?_ | refine Wt ?_ | refine Wm ?_ | refine W2m ?_ ?_ | refine Wl ?_)
          | fail)
        all_goals first | exact ⟨(), hlt, (by repeat' (first | exact Weak.nil | refine Weak.wild ?_ | refine Weak.same ?_ | refine Weak.intEq (by first | omega | (simp; done) | (push_cast; omega)) ?_)), rfl, rfl⟩ | exact absurd trivial (by assumption) | exact absurd rfl (by assumption) | trace_state
      · obtain rfl : j = hrs m := by omega
        repeat' (first
          | (refine is_ucall ?_; first
            | refine st_callP (h := readyZ_spec _ _ _ m s1 s2 s3 s4 (hm.ext extA)) (k := ?_)
            | refine st_callP (h := awake_spec _ _ _) (k := ?_)
            | fail)
          | (refine is_umcall ?_; first
            | refine mj_callP (h := readyZ_spec _ _ _ m s1 s2 s3 s4 (hm.ext extA)) (k := ?_)
            | refine mj_callP (h := awake_spec _ _ _) (k := ?_)
            | fail)
          | ((fail_if_success (first | refine is_ucall ?_ | refine is_umcall ?_)); first | refine W1 ?_ | refine Wc ?_ | refine W2c ?_ ?_ | refine Wg ?_ | refine W2 ?_ ?_ | exact Wdead | refine Wlive (fun hb => ?_) | intro _ _ _ _ _ _ _ _ | refine We ?_ | refine Wx ?_ | refine Wt ?_ | refine Wm ?_ | refine W2m ?_ ?_ | refine Wl ?_)
          | fail)
        all_goals first | exact ⟨rfl, rfl, rfl⟩ | exact absurd trivial (by assumption) | exact absurd rfl (by assumption) | trace_state
end
end Go.Proofs.Ytjbiidlmpaibkaa
