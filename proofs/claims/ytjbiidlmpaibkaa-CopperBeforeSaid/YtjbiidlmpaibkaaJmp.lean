import Derived.Test.YtjbiidlmpaibkaaJlp
namespace Go.Proofs.Ytjbiidlmpaibkaa
open Go Go.Abs Go.Proofs
set_option maxHeartbeats 8000000
set_option maxRecDepth 20000
attribute [local irreducible] CallJ OpsJ WPJ CallV MonoJ SpecJ
section
variable {γ : Type} (E : Env γ) (g : γ) (H : AHeap)
theorem before_law (m : CopM) (s1 s2 s3 s4 wv : Value) (a b c : Int) (ws : List Int) (hm : CopZ H m s1 s2 s3 s4) (ha : 0 ≤ a ∧ a ≤ 65535) (hb : 0 ≤ b ∧ b ≤ 255) (hc : 0 ≤ c ∧ c ≤ 65535) (hws : RdS H wv 1 (encU ws)) (hwn : ws.length ≤ 9223372036854775807) (hwb : ∀ x ∈ ws, 0 ≤ x ∧ x ≤ 65535) :
    CallJ Try.prog E 14 [cv m s1 s2 s3 s4, .int .u16 a, .int .u8 b, .int .u16 c, wv] (fun v H' g' => v = .bool true ∧ H' = H ∧ g' = g) H g := by
  have hok := hm.cells
  have hwok : cellOk wv = true := by obtain ⟨a, b, c, rfl⟩ := RdS.shape hws; rfl
  refine CallJ.tidy ?_
  unfold cv
  refine CallJ.enter Try.func14 rfl (by simp only [Try.ntmps14, List.length_cons, List.length_nil, Nat.zero_add, Nat.reduceAdd, Nat.reduceSub, List.replicate_succ, List.replicate_zero, List.cons_append, List.nil_append]; rfl) ?_
  repeat' (first
    | (refine is_ucall ?_; first
      | refine st_callP (h := readyZ_spec _ _ _ m s1 s2 s3 s4 (hm.ext extA)) (k := ?_)
      | refine st_callP (h := awake_spec _ _ _) (k := ?_)
      | fail)
    | (refine is_umcall ?_; first
      | refine mj_callP (h := readyZ_spec _ _ _ m s1 s2 s3 s4 (hm.ext extA)) (k := ?_)
      | refine mj_callP (h := awake_spec _ _ _) (k := ?_)
      | fail)
    | ((fail_if_success (first | refine is_ucall ?_ | refine is_umcall ?_)); first | refine W1 ?_ | refine Wc ?_ | refine W2c ?_ ?_ | refine Wg ?_ | refine W2 ?_ ?_ | exact Wdead | refine Wlive (fun hb => ?_) | intro _ _ _ _ _ _ _ _ | refine We ?_ | refine Wx ?_ | refine Wt ?_ | refine Wm ?_ | refine W2m ?_ ?_ | refine Wl ?_)
    | fail)
  · exact ⟨rfl, rfl, rfl⟩
  · have hr : thinS m = true ∧ checkS m = 0 := by assumption
    have hI := hm.is hr.1
    have hG := good_of hr.2
    have hN := hG.nr
    obtain ⟨hn5, hnl⟩ := hrs_le hG.w
    have hl0 := hG.w.l0
    have hl4 := hG.w.l4
    have hll := hG.ll
    have hsh := hG.sh
    have hMe := manyS_eq m
    have hM1 : 1 ≤ manyS m ∧ manyS m ≤ 3000 := by
      have h1 := prodS_pos m.loss hG.lb
      have h2 := hG.hh
      simp only [upTo, Bool.and_eq_true, decide_eq_true_eq] at h2
      have h3 : 0 < (m.hhi - m.hlo + 1) * prodS m.loss := Int.mul_pos (by omega) (by omega)
      have h4 : sizesS m = (m.hhi - m.hlo + 1) * prodS m.loss := rfl
      omega
    have hwa : IntKind.i64.wrap a = ((a.toNat : Nat) : Int) := by rw [wrap64_eq ⟨by omega, by omega⟩]; omega
    have hwb2 : IntKind.i64.wrap b = ((b.toNat : Nat) : Int) := by rw [wrap64_eq ⟨by omega, by omega⟩]; omega
    have hwc : IntKind.i64.wrap c = ((c.toNat : Nat) : Int) := by rw [wrap64_eq ⟨by omega, by omega⟩]; omega
    have hwl : IntKind.i64.wrap (m.last + 1) = m.last + 1 := wrap64_eq ⟨by omega, by omega⟩
    obtain ⟨M, hMn⟩ : ∃ M : Nat, manyS m = (M : Int) := ⟨(manyS m).toNat, by omega⟩
    have hra : ((a.toNat : Nat) : Int).tmod (M : Int) = ((a.toNat % M : Nat) : Int) := rfl
    have hla : a.toNat % M ≤ 1000000 := by have := Nat.mod_le a.toNat M; omega
    have hrb : ((b.toNat : Nat) : Int) % (m.last + 1) = ((b.toNat % hrs m : Nat) : Int) := by rw [← hnl]; rfl
    have hk : b.toNat % hrs m < hrs m := Nat.mod_lt _ (by omega)
    obtain ⟨hC1, hC2⟩ := coals_bd (s := m.shovels.toNat) (k := hrs m) (by omega) hn5
    have hrc : ((c.toNat : Nat) : Int).tmod (((m.shovels.toNat + 1) ^ hrs m : Nat) : Int) = ((c.toNat % (m.shovels.toNat + 1) ^ hrs m : Nat) : Int) := rfl
    have hlc : c.toNat % (m.shovels.toNat + 1) ^ hrs m ≤ 1000000 := by have := Nat.mod_le c.toNat ((m.shovels.toNat + 1) ^ hrs m); omega
    have hcs := fun (H' : AHeap) => Coals_spec trivE () H' m s1 s2 s3 s4 hok hG.w hG.sh.1 hG.sh.2
    have hco := fun (H' : AHeap) (n : Nat) (hn : n ≤ 1000000) => Coal_spec trivE () H' m s1 s2 s3 s4 n hok hG.w hG.sh.1 hG.sh.2 hn
    have hMany := fun (H' : AHeap) (ee : Ext H H') => Many_spec trivE () H' m s1 s2 s3 s4 (hI.ext ee).y hG.hh hG.lb
    rw [hMn] at hMany
    have hNth := fun (H' : AHeap) (n : Nat) (hn : n ≤ 1000000) (ee : Ext H H') => Nth_spec trivE () H' m s1 s2 s3 s4 n (hI.ext ee).y hG hn
    generalize a.toNat % M = na at *
    generalize b.toNat % hrs m = k at *
    generalize c.toNat % (m.shovels.toNat + 1) ^ hrs m = nc at *
    generalize (m.shovels.toNat + 1) ^ hrs m = C at *
    have hAl := nthL_len hG na
    have hcl : m.coal.length = hrs m := hG.w.cl
    have hwl2 : m.want.length = hrs m := hG.w.wl
    rw [hwb2, hwl]
    refine OpsJ.normA ?_
    repeat' (first
      | (refine is_ucall ?_; first
        | refine st_callP (h := readyZ_spec _ _ _ m s1 s2 s3 s4 (hm.ext extA)) (k := ?_)
        | refine st_callP (h := awake_spec _ _ _) (k := ?_)
        | fail)
      | (refine is_umcall ?_; first
        | refine mj_callP (h := readyZ_spec _ _ _ m s1 s2 s3 s4 (hm.ext extA)) (k := ?_)
        | refine mj_callP (h := awake_spec _ _ _) (k := ?_)
        | fail)
      | ((fail_if_success (first | refine is_ucall ?_ | refine is_umcall ?_)); first | refine W1 ?_ | refine Wc ?_ | refine W2c ?_ ?_ | refine Wg ?_ | refine W2 ?_ ?_ | exact Wdead | refine Wlive (fun hb => ?_) | intro _ _ _ _ _ _ _ _ | refine We ?_ | refine Wx ?_ | refine Wt ?_ | refine Wm ?_ | refine W2m ?_ ?_ | refine Wl ?_)
      | fail)
    rw [hrb]
    refine WPJ.draw 8 mixed (by kernel_rfl) (by kernel_rfl) (by kernel_rfl) (by decide) ?_
    refine MonoJ.normA ?_
    repeat' (first
      | (refine is_ucall ?_; first
        | refine st_callP (h := readyZ_spec _ _ _ m s1 s2 s3 s4 (hm.ext extA)) (k := ?_)
        | refine st_callP (h := awake_spec _ _ _) (k := ?_)
        | fail)
      | (refine is_umcall ?_; first
        | refine mj_callP (h := readyZ_spec _ _ _ m s1 s2 s3 s4 (hm.ext extA)) (k := ?_)
        | refine mj_callP (h := awake_spec _ _ _) (k := ?_)
        | fail)
      | ((fail_if_success (first | refine is_ucall ?_ | refine is_umcall ?_)); first | refine W1 ?_ | refine Wc ?_ | refine W2c ?_ ?_ | refine Wg ?_ | refine W2 ?_ ?_ | exact Wdead | refine Wlive (fun hb => ?_) | intro _ _ _ _ _ _ _ _ | refine We ?_ | refine Wx ?_ | refine Wt ?_ | refine Wm ?_ | refine W2m ?_ ?_ | refine Wl ?_)
      | fail)
    refine mj_callP (h := hMany _ ?_) (k := ?_)
    · exact extA
    rw [hwa]
    refine MonoJ.normA ?_
    repeat' (first
      | (refine is_ucall ?_; first
        | refine st_callP (h := readyZ_spec _ _ _ m s1 s2 s3 s4 (hm.ext extA)) (k := ?_)
        | refine st_callP (h := awake_spec _ _ _) (k := ?_)
        | fail)
      | (refine is_umcall ?_; first
        | refine mj_callP (h := readyZ_spec _ _ _ m s1 s2 s3 s4 (hm.ext extA)) (k := ?_)
        | refine mj_callP (h := awake_spec _ _ _) (k := ?_)
        | fail)
      | ((fail_if_success (first | refine is_ucall ?_ | refine is_umcall ?_)); first | refine W1 ?_ | refine Wc ?_ | refine W2c ?_ ?_ | refine Wg ?_ | refine W2 ?_ ?_ | exact Wdead | refine Wlive (fun hb => ?_) | intro _ _ _ _ _ _ _ _ | refine We ?_ | refine Wx ?_ | refine Wt ?_ | refine Wm ?_ | refine W2m ?_ ?_ | refine Wl ?_)
      | fail)
    rw [hra]
    refine mj_callL (h := hNth _ na hla ?_) (k := ?_)
    · exact extA
    rw [hAl]
    refine MonoJ.normA ?_
    repeat' (first
      | (refine is_ucall ?_; first
        | refine st_callP (h := readyZ_spec _ _ _ m s1 s2 s3 s4 (hm.ext extA)) (k := ?_)
        | refine st_callP (h := awake_spec _ _ _) (k := ?_)
        | fail)
      | (refine is_umcall ?_; first
        | refine mj_callP (h := readyZ_spec _ _ _ m s1 s2 s3 s4 (hm.ext extA)) (k := ?_)
        | refine mj_callP (h := awake_spec _ _ _) (k := ?_)
        | fail)
      | ((fail_if_success (first | refine is_ucall ?_ | refine is_umcall ?_)); first | refine W1 ?_ | refine Wc ?_ | refine W2c ?_ ?_ | refine Wg ?_ | refine W2 ?_ ?_ | exact Wdead | refine Wlive (fun hb => ?_) | intro _ _ _ _ _ _ _ _ | refine We ?_ | refine Wx ?_ | refine Wt ?_ | refine Wm ?_ | refine W2m ?_ ?_ | refine Wl ?_)
      | fail)
    have aH := nthH_at hG na
    have aL := fun (j : Nat) (hj : j < hrs m) => nthL_at hG na hj
    generalize nthL m na = A at *
    generalize nthH m na = h1 at *
    have htr : CoalOk m (coalN m nc) := coalN_ok hG.sh.1 nc
    refine WPJ.draw 11 mixed (by kernel_rfl) (by kernel_rfl) (by kernel_rfl) (by decide) ?_
    refine MonoJ.normA ?_
    repeat' (first
      | (refine is_ucall ?_; first
        | refine st_callP (h := readyZ_spec _ _ _ m s1 s2 s3 s4 (hm.ext extA)) (k := ?_)
        | refine st_callP (h := awake_spec _ _ _) (k := ?_)
        | fail)
      | (refine is_umcall ?_; first
        | refine mj_callP (h := readyZ_spec _ _ _ m s1 s2 s3 s4 (hm.ext extA)) (k := ?_)
        | refine mj_callP (h := awake_spec _ _ _) (k := ?_)
        | fail)
      | ((fail_if_success (first | refine is_ucall ?_ | refine is_umcall ?_)); first | refine W1 ?_ | refine Wc ?_ | refine W2c ?_ ?_ | refine Wg ?_ | refine W2 ?_ ?_ | exact Wdead | refine Wlive (fun hb => ?_) | intro _ _ _ _ _ _ _ _ | refine We ?_ | refine Wx ?_ | refine Wt ?_ | refine Wm ?_ | refine W2m ?_ ?_ | refine Wl ?_)
      | fail)
    refine mj_callP (h := hcs _) (k := ?_)
    rw [hwc]
    refine MonoJ.normA ?_
    repeat' (first
      | (refine is_ucall ?_; first
        | refine st_callP (h := readyZ_spec _ _ _ m s1 s2 s3 s4 (hm.ext extA)) (k := ?_)
        | refine st_callP (h := awake_spec _ _ _) (k := ?_)
        | fail)
      | (refine is_umcall ?_; first
        | refine mj_callP (h := readyZ_spec _ _ _ m s1 s2 s3 s4 (hm.ext extA)) (k := ?_)
        | refine mj_callP (h := awake_spec _ _ _) (k := ?_)
        | fail)
      | ((fail_if_success (first | refine is_ucall ?_ | refine is_umcall ?_)); first | refine W1 ?_ | refine Wc ?_ | refine W2c ?_ ?_ | refine Wg ?_ | refine W2 ?_ ?_ | exact Wdead | refine Wlive (fun hb => ?_) | intro _ _ _ _ _ _ _ _ | refine We ?_ | refine Wx ?_ | refine Wt ?_ | refine Wm ?_ | refine W2m ?_ ?_ | refine Wl ?_)
      | fail)
    rw [hrc]
    refine mj_callL (h := hco _ nc hlc) (k := ?_)
    refine MonoJ.normA ?_
    repeat' (first
      | (refine is_ucall ?_; first
        | refine st_callP (h := readyZ_spec _ _ _ m s1 s2 s3 s4 (hm.ext extA)) (k := ?_)
        | refine st_callP (h := awake_spec _ _ _) (k := ?_)
        | fail)
      | (refine is_umcall ?_; first
        | refine mj_callP (h := readyZ_spec _ _ _ m s1 s2 s3 s4 (hm.ext extA)) (k := ?_)
        | refine mj_callP (h := awake_spec _ _ _) (k := ?_)
        | fail)
      | ((fail_if_success (first | refine is_ucall ?_ | refine is_umcall ?_)); first | refine W1 ?_ | refine Wc ?_ | refine W2c ?_ ?_ | refine Wg ?_ | refine W2 ?_ ?_ | exact Wdead | refine Wlive (fun hb => ?_) | intro _ _ _ _ _ _ _ _ | refine We ?_ | refine Wx ?_ | refine Wt ?_ | refine Wm ?_ | refine W2m ?_ ?_ | refine Wl ?_)
      | fail)
    refine mj_callL (h := list_spec trivE () _ s2 m.want ?_ hI.n2) (k := ?_)
    · exact hI.want.ext extA
    rw [hwl2]
    clear hcs hco hMany hNth
    generalize coalN m nc = tc at *
    refine MonoJ.normA ?_
    repeat' (first
      | (refine is_ucall ?_; first
        | refine st_callP (h := readyZ_spec _ _ _ m s1 s2 s3 s4 (hm.ext extA)) (k := ?_)
        | refine st_callP (h := awake_spec _ _ _) (k := ?_)
        | fail)
      | (refine is_umcall ?_; first
        | refine mj_callP (h := readyZ_spec _ _ _ m s1 s2 s3 s4 (hm.ext extA)) (k := ?_)
        | refine mj_callP (h := awake_spec _ _ _) (k := ?_)
        | fail)
      | ((fail_if_success (first | refine is_ucall ?_ | refine is_umcall ?_)); first | refine W1 ?_ | refine Wc ?_ | refine W2c ?_ ?_ | refine Wg ?_ | refine W2 ?_ ?_ | exact Wdead | refine Wlive (fun hb => ?_) | intro _ _ _ _ _ _ _ _ | refine We ?_ | refine Wx ?_ | refine Wt ?_ | refine Wm ?_ | refine W2m ?_ ?_ | refine Wl ?_)
      | fail)
    obtain ⟨fC, hfC⟩ : ∃ fC : Nat → Int, fC = fun i => if i ≤ k then m.coal.getD i 0 else tc.getD i 0 := ⟨_, rfl⟩
    obtain ⟨fW, hfW⟩ : ∃ fW : Nat → Int, fW = fun i => if k ≤ i then (wordS ws i).tmod 21 else m.want.getD i 0 := ⟨_, rfl⟩
    have hz1 := fillJ_zero (f := fC) htr.1
    have hz2 := fillJ_zero (f := fW) hwl2
    rw [← hz1, ← hz2]
    refine WPJ.loopT (hrs m) [52, 53, 54, 55, 58, 59, 60, 61, 62, 63, 64, 65, 66, 67, 68, 69, 70, 71, 72, 73, 74, 75, 76, 77, 78, 79, 80, 56, 57] (fun j (_ : Unit) => [(14, .int .i64 j)])
      (fun j _ H1 g1 => g1 = g ∧ H1 = H ++ [.row (ccells m s1 s2 s3 s4) 1 true, .row (encE A) 1 true, .row [.int .i64 h1, .slice (some ⟨H.length + 1, 0, none⟩) (hrs m) (hrs m)] 1 true, .row [.int .i64 m.last, .int .i64 m.start, .int .i64 m.most, .int .i64 m.per, .int .i64 m.shovels, .slice (some ⟨H.length + 4, 0, none⟩) (hrs m) (hrs m), .slice (some ⟨H.length + 5, 0, none⟩) (hrs m) (hrs m), .int .i64 m.hlo, .int .i64 m.hhi, s3, .slice none 0 0] 1 true, .row (encE (fillJ fC tc (hrs m) j)) 1 true, .row (encE (fillJ fW m.want (hrs m) j)) 1 true]) 0 () (Nat.zero_le _) (by intro p hp; simp at hp; rcases hp with rfl; rfl) ⟨rfl, rfl⟩ ?_
    clear hz1 hz2
    rintro j _ H1 g1 hj ⟨rfl, rfl⟩ hlx
    simp only [updT, maskT, List.set_cons_zero, List.set_cons_succ]
    rcases Nat.lt_or_ge j (hrs m) with hlt | hge
    · have hCe : (encI m.coal)[(j : Int).toNat]? = some [.int .i64 (m.coal.getD j 0)] := by simp [List.getD, show j < m.coal.length by omega]
      have hrl := hI.coal
      have hW : ∀ (H' : AHeap), Ext H H' → CallJ Try.prog trivE 64 [wv, .int .i64 j] (fun v H2 g' => v = .int .i64 (wordS ws j) ∧ H2 = H' ∧ g' = ()) H' () := fun H' ee => word_spec trivE () H' wv ws j (hws.ext ee) hwn hwb (by omega)
      have hXl : (encE (fillJ fC tc (hrs m) j)).length = hrs m := by simp [encE, fillJ_len]
      have hYl : (encE (fillJ fW m.want (hrs m) j)).length = hrs m := by simp [encE, fillJ_len]
      have hCs : j ≤ k → (encE (fillJ fC tc (hrs m) j)).set (j * 1) (.int .i64 (m.coal.getD j 0)) = encE (fillJ fC tc (hrs m) (j + 1)) := fun h => by
        have e1 : fC j = m.coal.getD j 0 := by rw [hfC]; exact if_pos h
        rw [← fillJ_step hlt, e1, Nat.mul_one]; unfold encE; rw [List.map_set]
      have hCn : ¬ j ≤ k → fillJ fC tc (hrs m) (j + 1) = fillJ fC tc (hrs m) j := fun h => fillJ_same (by rw [hfC]; exact if_neg h)
      have hWs : k ≤ j → (encE (fillJ fW m.want (hrs m) j)).set (j * 1) (.int .i64 ((wordS ws j).tmod 21)) = encE (fillJ fW m.want (hrs m) (j + 1)) := fun h => by
        have e1 : fW j = (wordS ws j).tmod 21 := by rw [hfW]; exact if_pos h
        rw [← fillJ_step hlt, e1, Nat.mul_one]; unfold encE; rw [List.map_set]
      have hWn : ¬ k ≤ j → fillJ fW m.want (hrs m) (j + 1) = fillJ fW m.want (hrs m) j := fun h => fillJ_same (by rw [hfW]; exact if_neg h)
      generalize m.coal.getD j 0 = x at *
      generalize wordS ws j = y at *
      rcases Nat.lt_trichotomy j k with hjk | hjk | hjk
      · rw [hWn (by omega), ← hCs (by omega)]
        clear hWn hCs hCn hWs
        generalize encE (fillJ fC tc (hrs m) j) = xs at *
        generalize encE (fillJ fW m.want (hrs m) j) = ys at *
        repeat' (first
          | (refine is_ucall ?_; first
            | refine st_callP (h := readyZ_spec _ _ _ m s1 s2 s3 s4 (hm.ext extA)) (k := ?_)
            | refine st_callP (h := awake_spec _ _ _) (k := ?_)
            | fail)
          | (refine is_umcall ?_; first
            | refine mj_callP (h := readyZ_spec _ _ _ m s1 s2 s3 s4 (hm.ext extA)) (k := ?_)
            | refine mj_callP (h := awake_spec _ _ _) (k := ?_)
            | fail)
          | ((fail_if_success (first | refine is_ucall ?_ | refine is_umcall ?_)); first | refine W1 ?_ | refine Wc ?_ | refine W2c ?_ ?_ | refine Wg ?_ | refine W2 ?_ ?_ | exact Wdead | refine Wlive (fun hb => ?_) | intro _ _ _ _ _ _ _ _ | refine We ?_ | refine Wx ?_ | refine Wt ?_ | refine Wm ?_ | refine W2m ?_ ?_ | refine Wl ?_)
          | fail)
        refine WPJ.draw 9 mixed (by kernel_rfl) (by kernel_rfl) (by kernel_rfl) (by decide) ?_
        refine MonoJ.normA ?_
        repeat' (first
          | (refine is_ucall ?_; first
            | refine st_callP (h := readyZ_spec _ _ _ m s1 s2 s3 s4 (hm.ext extA)) (k := ?_)
            | refine st_callP (h := awake_spec _ _ _) (k := ?_)
            | fail)
          | (refine is_umcall ?_; first
            | refine mj_callP (h := readyZ_spec _ _ _ m s1 s2 s3 s4 (hm.ext extA)) (k := ?_)
            | refine mj_callP (h := awake_spec _ _ _) (k := ?_)
            | fail)
          | ((fail_if_success (first | refine is_ucall ?_ | refine is_umcall ?_)); first | refine W1 ?_ | refine Wc ?_ | refine W2c ?_ ?_ | refine Wg ?_ | refine W2 ?_ ?_ | exact Wdead | refine Wlive (fun hb => ?_) | intro _ _ _ _ _ _ _ _ | refine We ?_ | refine Wx ?_ | refine Wt ?_ | refine Wm ?_ | refine W2m ?_ ?_ | refine Wl ?_)
          | fail)
        all_goals first | exact ⟨(), hlt, (by repeat' (first | exact Weak.nil | refine Weak.wild ?_ | refine Weak.same ?_ | refine Weak.intEq (by first | omega | (simp; done) | (push_cast; omega)) ?_)), rfl, rfl⟩ | exact absurd trivial (by assumption) | trace_state
      · rw [← hWs (by omega), ← hCs (by omega)]
        clear hWn hCs hCn hWs
        generalize encE (fillJ fC tc (hrs m) j) = xs at *
        generalize encE (fillJ fW m.want (hrs m) j) = ys at *
        repeat' (first
          | (refine is_ucall ?_; first
            | refine st_callP (h := readyZ_spec _ _ _ m s1 s2 s3 s4 (hm.ext extA)) (k := ?_)
            | refine st_callP (h := awake_spec _ _ _) (k := ?_)
            | fail)
          | (refine is_umcall ?_; first
            | refine mj_callP (h := readyZ_spec _ _ _ m s1 s2 s3 s4 (hm.ext extA)) (k := ?_)
            | refine mj_callP (h := awake_spec _ _ _) (k := ?_)
            | fail)
          | ((fail_if_success (first | refine is_ucall ?_ | refine is_umcall ?_)); first | refine W1 ?_ | refine Wc ?_ | refine W2c ?_ ?_ | refine Wg ?_ | refine W2 ?_ ?_ | exact Wdead | refine Wlive (fun hb => ?_) | intro _ _ _ _ _ _ _ _ | refine We ?_ | refine Wx ?_ | refine Wt ?_ | refine Wm ?_ | refine W2m ?_ ?_ | refine Wl ?_)
          | fail)
        refine WPJ.draw 9 mixed (by kernel_rfl) (by kernel_rfl) (by kernel_rfl) (by decide) ?_
        refine MonoJ.normA ?_
        repeat' (first
          | (refine is_ucall ?_; first
            | refine st_callP (h := readyZ_spec _ _ _ m s1 s2 s3 s4 (hm.ext extA)) (k := ?_)
            | refine st_callP (h := awake_spec _ _ _) (k := ?_)
            | fail)
          | (refine is_umcall ?_; first
            | refine mj_callP (h := readyZ_spec _ _ _ m s1 s2 s3 s4 (hm.ext extA)) (k := ?_)
            | refine mj_callP (h := awake_spec _ _ _) (k := ?_)
            | fail)
          | ((fail_if_success (first | refine is_ucall ?_ | refine is_umcall ?_)); first | refine W1 ?_ | refine Wc ?_ | refine W2c ?_ ?_ | refine Wg ?_ | refine W2 ?_ ?_ | exact Wdead | refine Wlive (fun hb => ?_) | intro _ _ _ _ _ _ _ _ | refine We ?_ | refine Wx ?_ | refine Wt ?_ | refine Wm ?_ | refine W2m ?_ ?_ | refine Wl ?_)
          | fail)
        refine WPJ.draw 8 mixed (by kernel_rfl) (by kernel_rfl) (by kernel_rfl) (by decide) ?_
        refine MonoJ.normA ?_
        repeat' (first
          | (refine is_ucall ?_; first
            | refine st_callP (h := readyZ_spec _ _ _ m s1 s2 s3 s4 (hm.ext extA)) (k := ?_)
            | refine st_callP (h := awake_spec _ _ _) (k := ?_)
            | fail)
          | (refine is_umcall ?_; first
            | refine mj_callP (h := readyZ_spec _ _ _ m s1 s2 s3 s4 (hm.ext extA)) (k := ?_)
            | refine mj_callP (h := awake_spec _ _ _) (k := ?_)
            | fail)
          | ((fail_if_success (first | refine is_ucall ?_ | refine is_umcall ?_)); first | refine W1 ?_ | refine Wc ?_ | refine W2c ?_ ?_ | refine Wg ?_ | refine W2 ?_ ?_ | exact Wdead | refine Wlive (fun hb => ?_) | intro _ _ _ _ _ _ _ _ | refine We ?_ | refine Wx ?_ | refine Wt ?_ | refine Wm ?_ | refine W2m ?_ ?_ | refine Wl ?_)
          | fail)
        refine mj_callP (h := hW _ ?_) (k := ?_)
        · exact extA
        refine MonoJ.normA ?_
        repeat' (first
          | (refine is_ucall ?_; first
            | refine st_callP (h := readyZ_spec _ _ _ m s1 s2 s3 s4 (hm.ext extA)) (k := ?_)
            | refine st_callP (h := awake_spec _ _ _) (k := ?_)
            | fail)
          | (refine is_umcall ?_; first
            | refine mj_callP (h := readyZ_spec _ _ _ m s1 s2 s3 s4 (hm.ext extA)) (k := ?_)
            | refine mj_callP (h := awake_spec _ _ _) (k := ?_)
            | fail)
          | ((fail_if_success (first | refine is_ucall ?_ | refine is_umcall ?_)); first | refine W1 ?_ | refine Wc ?_ | refine W2c ?_ ?_ | refine Wg ?_ | refine W2 ?_ ?_ | exact Wdead | refine Wlive (fun hb => ?_) | intro _ _ _ _ _ _ _ _ | refine We ?_ | refine Wx ?_ | refine Wt ?_ | refine Wm ?_ | refine W2m ?_ ?_ | refine Wl ?_)
          | fail)
        all_goals first | exact ⟨(), hlt, (by repeat' (first | exact Weak.nil | refine Weak.wild ?_ | refine Weak.same ?_ | refine Weak.intEq (by first | omega | (simp; done) | (push_cast; omega)) ?_)), rfl, rfl⟩ | exact absurd trivial (by assumption) | trace_state
      · rw [← hWs (by omega), hCn (by omega)]
        clear hWn hCs hCn hWs
        generalize encE (fillJ fC tc (hrs m) j) = xs at *
        generalize encE (fillJ fW m.want (hrs m) j) = ys at *
        repeat' (first
          | (refine is_ucall ?_; first
            | refine st_callP (h := readyZ_spec _ _ _ m s1 s2 s3 s4 (hm.ext extA)) (k := ?_)
            | refine st_callP (h := awake_spec _ _ _) (k := ?_)
            | fail)
          | (refine is_umcall ?_; first
            | refine mj_callP (h := readyZ_spec _ _ _ m s1 s2 s3 s4 (hm.ext extA)) (k := ?_)
            | refine mj_callP (h := awake_spec _ _ _) (k := ?_)
            | fail)
          | ((fail_if_success (first | refine is_ucall ?_ | refine is_umcall ?_)); first | refine W1 ?_ | refine Wc ?_ | refine W2c ?_ ?_ | refine Wg ?_ | refine W2 ?_ ?_ | exact Wdead | refine Wlive (fun hb => ?_) | intro _ _ _ _ _ _ _ _ | refine We ?_ | refine Wx ?_ | refine Wt ?_ | refine Wm ?_ | refine W2m ?_ ?_ | refine Wl ?_)
          | fail)
        refine WPJ.draw 8 mixed (by kernel_rfl) (by kernel_rfl) (by kernel_rfl) (by decide) ?_
        refine MonoJ.normA ?_
        repeat' (first
          | (refine is_ucall ?_; first
            | refine st_callP (h := readyZ_spec _ _ _ m s1 s2 s3 s4 (hm.ext extA)) (k := ?_)
            | refine st_callP (h := awake_spec _ _ _) (k := ?_)
            | fail)
          | (refine is_umcall ?_; first
            | refine mj_callP (h := readyZ_spec _ _ _ m s1 s2 s3 s4 (hm.ext extA)) (k := ?_)
            | refine mj_callP (h := awake_spec _ _ _) (k := ?_)
            | fail)
          | ((fail_if_success (first | refine is_ucall ?_ | refine is_umcall ?_)); first | refine W1 ?_ | refine Wc ?_ | refine W2c ?_ ?_ | refine Wg ?_ | refine W2 ?_ ?_ | exact Wdead | refine Wlive (fun hb => ?_) | intro _ _ _ _ _ _ _ _ | refine We ?_ | refine Wx ?_ | refine Wt ?_ | refine Wm ?_ | refine W2m ?_ ?_ | refine Wl ?_)
          | fail)
        refine mj_callP (h := hW _ ?_) (k := ?_)
        · exact extA
        refine MonoJ.normA ?_
        repeat' (first
          | (refine is_ucall ?_; first
            | refine st_callP (h := readyZ_spec _ _ _ m s1 s2 s3 s4 (hm.ext extA)) (k := ?_)
            | refine st_callP (h := awake_spec _ _ _) (k := ?_)
            | fail)
          | (refine is_umcall ?_; first
            | refine mj_callP (h := readyZ_spec _ _ _ m s1 s2 s3 s4 (hm.ext extA)) (k := ?_)
            | refine mj_callP (h := awake_spec _ _ _) (k := ?_)
            | fail)
          | ((fail_if_success (first | refine is_ucall ?_ | refine is_umcall ?_)); first | refine W1 ?_ | refine Wc ?_ | refine W2c ?_ ?_ | refine Wg ?_ | refine W2 ?_ ?_ | exact Wdead | refine Wlive (fun hb => ?_) | intro _ _ _ _ _ _ _ _ | refine We ?_ | refine Wx ?_ | refine Wt ?_ | refine Wm ?_ | refine W2m ?_ ?_ | refine Wl ?_)
          | fail)
        all_goals first | exact ⟨(), hlt, (by repeat' (first | exact Weak.nil | refine Weak.wild ?_ | refine Weak.same ?_ | refine Weak.intEq (by first | omega | (simp; done) | (push_cast; omega)) ?_)), rfl, rfl⟩ | exact absurd trivial (by assumption) | trace_state
    · obtain rfl : j = hrs m := by omega
      have cat : ∀ i < hrs m, (fillJ fC tc (hrs m) (hrs m)).getD i 0 = if i ≤ k then m.coal.getD i 0 else tc.getD i 0 := fun i h => by rw [fillJ_at h, if_pos h, hfC]
      have wat : ∀ i < hrs m, (fillJ fW m.want (hrs m) (hrs m)).getD i 0 = if k ≤ i then (wordS ws i).tmod 21 else m.want.getD i 0 := fun i h => by rw [fillJ_at h, if_pos h, hfW]
      have clen := fillJ_len fC tc (hrs m) (hrs m)
      have wlen := fillJ_len fW m.want (hrs m) (hrs m)
      clear hfC hfW
      generalize fillJ fC tc (hrs m) (hrs m) = cl at *
      generalize fillJ fW m.want (hrs m) (hrs m) = wl at *
      have cok : CoalOk m cl := by
        refine ⟨clen, fun x hx => ?_⟩
        obtain ⟨j, hj, rfl⟩ := List.getElem_of_mem hx
        have e1 : cl[j] = cl.getD j 0 := by simp [List.getD, hj]
        have e2 := getD_bd (a := 0) (b := m.shovels) hG.cs ⟨Int.le_refl _, hsh.1⟩ j
        have e3 := getD_bd (a := 0) (b := m.shovels) htr.2 ⟨Int.le_refl _, hsh.1⟩ j
        rw [e1, cat j (by omega)]
        split
        · exact e2
        · exact e3
      have wok : wl.length = hrs m ∧ ∀ x ∈ wl, 0 ≤ x ∧ x ≤ 20 := by
        refine ⟨wlen, fun x hx => ?_⟩
        obtain ⟨j, hj, rfl⟩ := List.getElem_of_mem hx
        have e1 : wl[j] = wl.getD j 0 := by simp [List.getD, hj]
        have e2 := getD_bd (a := 0) (b := 20) hG.wn (by omega) j
        have e3 := wordS_bd hwb j
        rw [e1, wat j (by omega)]
        split
        · rw [Int.tmod_eq_emod_of_nonneg e3.1]; omega
        · exact e2
      have okx := check_other hr.2 cok wok
      have t1 : truthOkS m h1 A = true := truthOk_of hG aH hAl aL
      have t2 : truthOkS (otherM m cl wl) h1 A = true := t1
      have y1 := play_ok hr.2 t1
      have y2 := play_ok okx t2
      have hot1 : ∀ i ≤ k, hotS (otherM m cl wl) h1 (pad5 A) i = hotS m h1 (pad5 A) i := fun i hi =>
        hot_before (m := m) (m' := otherM m cl wl) rfl rfl rfl i (fun j hj => by show cl.getD j 0 = _; rw [cat j (by omega), if_pos (by omega)]) (fun j hj => by show wl.getD j 0 = _; rw [wat j (by omega), if_neg (by omega)])
      have hPl := hotL_len m h1 A
      have hRl : (hotL (otherM m cl wl) h1 A).length = hrs m := hotL_len (otherM m cl wl) h1 A
      have htk : (hotL m h1 A).take (k + 1) = (hotL (otherM m cl wl) h1 A).take (k + 1) := take_same (by omega) (by omega) fun i hi => by
        have e1 : hrs (otherM m cl wl) = hrs m := rfl
        simp only [hotL, List.getD, List.getElem?_map, e1, List.getElem?_range (show i < hrs m by omega), Option.map_some, Option.getD_some]
        exact (hot1 i (by omega)).symm
      obtain ⟨Hx, hHx⟩ : ∃ Hx, Hx = H ++ [.row (ccells m s1 s2 s3 s4) 1 true, .row (encE A) 1 true, .row [.int .i64 h1, .slice (some ⟨H.length + 1, 0, none⟩) (hrs m) (hrs m)] 1 true, .row [.int .i64 m.last, .int .i64 m.start, .int .i64 m.most, .int .i64 m.per, .int .i64 m.shovels, .slice (some ⟨H.length + 4, 0, none⟩) (hrs m) (hrs m), .slice (some ⟨H.length + 5, 0, none⟩) (hrs m) (hrs m), .int .i64 m.hlo, .int .i64 m.hhi, s3, .slice none 0 0] 1 true, .row (encE (cl)) 1 true, .row (encE (wl)) 1 true] := ⟨_, rfl⟩
      rw [← hHx]
      have f0 : Hx[H.length]? = some (.row (ccells m s1 s2 s3 s4) 1 true) := by rw [hHx]; exact getA
      have f2 : Hx[H.length + 2]? = some (.row [.int .i64 h1, .slice (some ⟨H.length + 1, 0, none⟩) (hrs m) (hrs m)] 1 true) := by rw [hHx]; exact getA
      have f3 : Hx[H.length + 3]? = some (.row (ccells (otherM m cl wl) (.slice (some ⟨H.length + 4, 0, none⟩) (hrs m) (hrs m)) (.slice (some ⟨H.length + 5, 0, none⟩) (hrs m) (hrs m)) s3 (.slice none 0 0)) 1 true) := by rw [hHx]; exact getA
      have rd : ∀ (i : Nat) (l : List Int), Hx[i]? = some (.row (encE l) 1 true) → l.length = hrs m → RdS Hx (.slice (some ⟨i, 0, none⟩) (hrs m) (hrs m)) 1 (encI l) := fun i l h1 h2 => by
        have := rd_encE (own := true) (cap := hrs m) (H := Hx) (i := i) (s := l) (cs := encE l) h1 (List.take_of_length_le (by simp [encE]))
        rw [h2] at this
        exact this
      have rA : RdS Hx (.slice (some ⟨H.length + 1, 0, none⟩) (hrs m) (hrs m)) 1 (encI A) := rd _ _ (by rw [hHx]; exact getA) hAl
      have rC : RdS Hx (.slice (some ⟨H.length + 4, 0, none⟩) (hrs m) (hrs m)) 1 (encI cl) := rd _ _ (by rw [hHx]; exact getA) clen
      have rW : RdS Hx (.slice (some ⟨H.length + 5, 0, none⟩) (hrs m) (hrs m)) 1 (encI wl) := rd _ _ (by rw [hHx]; exact getA) wlen
      have xx : Ext H Hx := by rw [hHx]; exact extA
      clear hHx rd cat wat hot1 aL
      have cX : CopY Hx (otherM m cl wl) (.slice (some ⟨H.length + 4, 0, none⟩) (hrs m) (hrs m)) (.slice (some ⟨H.length + 5, 0, none⟩) (hrs m) (hrs m)) s3 (.slice none 0 0) := by
        have hiX := hI.ext xx
        have := hiX.ok
        exact { coal := rC, want := rW, loss := hiX.loss, reads := ⟨by simp [otherM], .inr ⟨rfl, .inl rfl⟩⟩, ok := by simp [cellOk] at this ⊢; exact this.2.2.1, n1 := by show cl.length ≤ _; omega, n2 := by show wl.length ≤ _; omega, n3 := hiX.n3, n4 := by simp [otherM] }
      have okX := cX.cells
      repeat' (first
        | (refine is_ucall ?_; first
          | refine st_callP (h := readyZ_spec _ _ _ m s1 s2 s3 s4 (hm.ext extA)) (k := ?_)
          | refine st_callP (h := awake_spec _ _ _) (k := ?_)
          | fail)
        | (refine is_umcall ?_; first
          | refine mj_callP (h := readyZ_spec _ _ _ m s1 s2 s3 s4 (hm.ext extA)) (k := ?_)
          | refine mj_callP (h := awake_spec _ _ _) (k := ?_)
          | fail)
        | ((fail_if_success (first | refine is_ucall ?_ | refine is_umcall ?_)); first | refine W1 ?_ | refine Wc ?_ | refine W2c ?_ ?_ | refine Wg ?_ | refine W2 ?_ ?_ | exact Wdead | refine Wlive (fun hb => ?_) | intro _ _ _ _ _ _ _ _ | refine We ?_ | refine Wx ?_ | refine Wt ?_ | refine Wm ?_ | refine W2m ?_ ?_ | refine Wl ?_)
        | fail)
      refine WPJ.draw 12 mixed (by kernel_rfl) (by kernel_rfl) (by kernel_rfl) (by decide) ?_
      refine MonoJ.normA ?_
      repeat' (first
        | (refine is_ucall ?_; first
          | refine st_callP (h := readyZ_spec _ _ _ m s1 s2 s3 s4 (hm.ext extA)) (k := ?_)
          | refine st_callP (h := awake_spec _ _ _) (k := ?_)
          | fail)
        | (refine is_umcall ?_; first
          | refine mj_callP (h := readyZ_spec _ _ _ m s1 s2 s3 s4 (hm.ext extA)) (k := ?_)
          | refine mj_callP (h := awake_spec _ _ _) (k := ?_)
          | fail)
        | ((fail_if_success (first | refine is_ucall ?_ | refine is_umcall ?_)); first | refine W1 ?_ | refine Wc ?_ | refine W2c ?_ ?_ | refine Wg ?_ | refine W2 ?_ ?_ | exact Wdead | refine Wlive (fun hb => ?_) | intro _ _ _ _ _ _ _ _ | refine We ?_ | refine Wx ?_ | refine Wt ?_ | refine Wm ?_ | refine W2m ?_ ?_ | refine Wl ?_)
        | fail)
      refine mj_copperM rfl (hI.ext xx).y (by omega) (by omega) ?_
      intro H2 u1 u2 u3 u4 hm2 e2
      have g2 := e2.get f2
      refine MonoJ.normA ?_
      repeat' (first
        | (refine is_ucall ?_; first
          | refine st_callP (h := readyZ_spec _ _ _ m s1 s2 s3 s4 (hm.ext extA)) (k := ?_)
          | refine st_callP (h := awake_spec _ _ _) (k := ?_)
          | fail)
        | (refine is_umcall ?_; first
          | refine mj_callP (h := readyZ_spec _ _ _ m s1 s2 s3 s4 (hm.ext extA)) (k := ?_)
          | refine mj_callP (h := awake_spec _ _ _) (k := ?_)
          | fail)
        | ((fail_if_success (first | refine is_ucall ?_ | refine is_umcall ?_)); first | refine W1 ?_ | refine Wc ?_ | refine W2c ?_ ?_ | refine Wg ?_ | refine W2 ?_ ?_ | exact Wdead | refine Wlive (fun hb => ?_) | intro _ _ _ _ _ _ _ _ | refine We ?_ | refine Wx ?_ | refine Wt ?_ | refine Wm ?_ | refine W2m ?_ ?_ | refine Wl ?_)
        | fail)
      refine mj_truthN rfl (rA.ext e2) (by omega) ?_
      intro H3 tv htv e3
      refine MonoJ.normA ?_
      repeat' (first
        | (refine is_ucall ?_; first
          | refine st_callP (h := readyZ_spec _ _ _ m s1 s2 s3 s4 (hm.ext extA)) (k := ?_)
          | refine st_callP (h := awake_spec _ _ _) (k := ?_)
          | fail)
        | (refine is_umcall ?_; first
          | refine mj_callP (h := readyZ_spec _ _ _ m s1 s2 s3 s4 (hm.ext extA)) (k := ?_)
          | refine mj_callP (h := awake_spec _ _ _) (k := ?_)
          | fail)
        | ((fail_if_success (first | refine is_ucall ?_ | refine is_umcall ?_)); first | refine W1 ?_ | refine Wc ?_ | refine W2c ?_ ?_ | refine Wg ?_ | refine W2 ?_ ?_ | exact Wdead | refine Wlive (fun hb => ?_) | intro _ _ _ _ _ _ _ _ | refine We ?_ | refine Wx ?_ | refine Wt ?_ | refine Wm ?_ | refine W2m ?_ ?_ | refine Wl ?_)
        | fail)
      refine mj_playC rfl (hm2.ext e3) htv (by omega) y1 ?_
      intro H4 p1 p2 hp1 hp2 e4
      have xe := e2.trans (e3.trans e4)
      replace f0 := xe.get f0
      replace f2 := xe.get f2
      replace f3 := xe.get f3
      replace rA := rA.ext xe
      replace cX := cX.ext xe
      have x4 := xx.trans xe
      clear xe e2 e3 e4 hm2 htv g2 rC rW xx hp2
      refine MonoJ.normA ?_
      repeat' (first
        | (refine is_ucall ?_; first
          | refine st_callP (h := readyZ_spec _ _ _ m s1 s2 s3 s4 (hm.ext extA)) (k := ?_)
          | refine st_callP (h := awake_spec _ _ _) (k := ?_)
          | fail)
        | (refine is_umcall ?_; first
          | refine mj_callP (h := readyZ_spec _ _ _ m s1 s2 s3 s4 (hm.ext extA)) (k := ?_)
          | refine mj_callP (h := awake_spec _ _ _) (k := ?_)
          | fail)
        | ((fail_if_success (first | refine is_ucall ?_ | refine is_umcall ?_)); first | refine W1 ?_ | refine Wc ?_ | refine W2c ?_ ?_ | refine Wg ?_ | refine W2 ?_ ?_ | exact Wdead | refine Wlive (fun hb => ?_) | intro _ _ _ _ _ _ _ _ | refine We ?_ | refine Wx ?_ | refine Wt ?_ | refine Wm ?_ | refine W2m ?_ ?_ | refine Wl ?_)
        | fail)
      refine WPJ.draw 12 mixed (by kernel_rfl) (by kernel_rfl) (by kernel_rfl) (by decide) ?_
      refine MonoJ.normA ?_
      repeat' (first
        | (refine is_ucall ?_; first
          | refine st_callP (h := readyZ_spec _ _ _ m s1 s2 s3 s4 (hm.ext extA)) (k := ?_)
          | refine st_callP (h := awake_spec _ _ _) (k := ?_)
          | fail)
        | (refine is_umcall ?_; first
          | refine mj_callP (h := readyZ_spec _ _ _ m s1 s2 s3 s4 (hm.ext extA)) (k := ?_)
          | refine mj_callP (h := awake_spec _ _ _) (k := ?_)
          | fail)
        | ((fail_if_success (first | refine is_ucall ?_ | refine is_umcall ?_)); first | refine W1 ?_ | refine Wc ?_ | refine W2c ?_ ?_ | refine Wg ?_ | refine W2 ?_ ?_ | exact Wdead | refine Wlive (fun hb => ?_) | intro _ _ _ _ _ _ _ _ | refine We ?_ | refine Wx ?_ | refine Wt ?_ | refine Wm ?_ | refine W2m ?_ ?_ | refine Wl ?_)
        | fail)
      refine mj_copperM (m := otherM m cl wl) rfl cX (by show m.loss.length ≤ 1000; omega) (by show ([] : List ReadM).length ≤ 1000; decide) ?_
      intro H5 u1 u2 u3 u4 hm2 e2
      have g2 := e2.get f2
      refine MonoJ.normA ?_
      repeat' (first
        | (refine is_ucall ?_; first
          | refine st_callP (h := readyZ_spec _ _ _ m s1 s2 s3 s4 (hm.ext extA)) (k := ?_)
          | refine st_callP (h := awake_spec _ _ _) (k := ?_)
          | fail)
        | (refine is_umcall ?_; first
          | refine mj_callP (h := readyZ_spec _ _ _ m s1 s2 s3 s4 (hm.ext extA)) (k := ?_)
          | refine mj_callP (h := awake_spec _ _ _) (k := ?_)
          | fail)
        | ((fail_if_success (first | refine is_ucall ?_ | refine is_umcall ?_)); first | refine W1 ?_ | refine Wc ?_ | refine W2c ?_ ?_ | refine Wg ?_ | refine W2 ?_ ?_ | exact Wdead | refine Wlive (fun hb => ?_) | intro _ _ _ _ _ _ _ _ | refine We ?_ | refine Wx ?_ | refine Wt ?_ | refine Wm ?_ | refine W2m ?_ ?_ | refine Wl ?_)
        | fail)
      refine mj_truthN rfl (rA.ext e2) (by omega) ?_
      intro H6 tv htv e3
      refine MonoJ.normA ?_
      repeat' (first
        | (refine is_ucall ?_; first
          | refine st_callP (h := readyZ_spec _ _ _ m s1 s2 s3 s4 (hm.ext extA)) (k := ?_)
          | refine st_callP (h := awake_spec _ _ _) (k := ?_)
          | fail)
        | (refine is_umcall ?_; first
          | refine mj_callP (h := readyZ_spec _ _ _ m s1 s2 s3 s4 (hm.ext extA)) (k := ?_)
          | refine mj_callP (h := awake_spec _ _ _) (k := ?_)
          | fail)
        | ((fail_if_success (first | refine is_ucall ?_ | refine is_umcall ?_)); first | refine W1 ?_ | refine Wc ?_ | refine W2c ?_ ?_ | refine Wg ?_ | refine W2 ?_ ?_ | exact Wdead | refine Wlive (fun hb => ?_) | intro _ _ _ _ _ _ _ _ | refine We ?_ | refine Wx ?_ | refine Wt ?_ | refine Wm ?_ | refine W2m ?_ ?_ | refine Wl ?_)
        | fail)
      refine mj_playC (m := otherM m cl wl) rfl (hm2.ext e3) htv (by omega) y2 ?_
      intro H7 r1 r2 hr1 hr2 e4
      have xe := e2.trans (e3.trans e4)
      replace f0 := xe.get f0
      replace hp1 := xe.get hp1
      have x7 := x4.trans xe
      clear xe e2 e3 e4 hm2 htv g2 f2 f3 rA cX x4 hr2
      have ra : RdS H7 (.slice (some ⟨p1, 0, none⟩) (k + 1) (k + 1)) 1 (encI ((hotL m h1 A).take (k + 1))) := by
        have hl : ((hotL m h1 A).take (k + 1)).length = k + 1 := by simp; omega
        have := rd_encE (own := true) (cap := k + 1) (H := H7) (i := p1) (s := (hotL m h1 A).take (k + 1)) (cs := encE (hotL m h1 A)) hp1 (by rw [hl]; simp [encE, List.map_take])
        rw [hl] at this
        exact this
      have rb : RdS H7 (.slice (some ⟨r1, 0, none⟩) (k + 1) (k + 1)) 1 (encI ((hotL (otherM m cl wl) h1 A).take (k + 1))) := by
        have hl : ((hotL (otherM m cl wl) h1 A).take (k + 1)).length = k + 1 := by simp; omega
        have := rd_encE (own := true) (cap := k + 1) (H := H7) (i := r1) (s := (hotL (otherM m cl wl) h1 A).take (k + 1)) (cs := encE (hotL (otherM m cl wl) h1 A)) hr1 (by rw [hl]; simp [encE, List.map_take])
        rw [hl] at this
        exact this
      have hkn : (((k : Nat) : Int) + 1).toNat = k + 1 := by omega
      have ehm : hrs (otherM m cl wl) = hrs m := rfl
      rw [ehm]
      refine MonoJ.normA ?_
      repeat' (first
        | (refine is_ucall ?_; first
          | refine st_callP (h := readyZ_spec _ _ _ m s1 s2 s3 s4 (hm.ext extA)) (k := ?_)
          | refine st_callP (h := awake_spec _ _ _) (k := ?_)
          | fail)
        | (refine is_umcall ?_; first
          | refine mj_callP (h := readyZ_spec _ _ _ m s1 s2 s3 s4 (hm.ext extA)) (k := ?_)
          | refine mj_callP (h := awake_spec _ _ _) (k := ?_)
          | fail)
        | ((fail_if_success (first | refine is_ucall ?_ | refine is_umcall ?_)); first | refine W1 ?_ | refine Wc ?_ | refine W2c ?_ ?_ | refine Wg ?_ | refine W2 ?_ ?_ | exact Wdead | refine Wlive (fun hb => ?_) | intro _ _ _ _ _ _ _ _ | refine We ?_ | refine Wx ?_ | refine Wt ?_ | refine Wm ?_ | refine W2m ?_ ?_ | refine Wl ?_)
        | fail)
      refine WPJ.draw 36 mixed (by kernel_rfl) (by kernel_rfl) (by kernel_rfl) (by decide) ?_
      refine MonoJ.normA ?_
      repeat' (first
        | (refine is_ucall ?_; first
          | refine st_callP (h := readyZ_spec _ _ _ m s1 s2 s3 s4 (hm.ext extA)) (k := ?_)
          | refine st_callP (h := awake_spec _ _ _) (k := ?_)
          | fail)
        | (refine is_umcall ?_; first
          | refine mj_callP (h := readyZ_spec _ _ _ m s1 s2 s3 s4 (hm.ext extA)) (k := ?_)
          | refine mj_callP (h := awake_spec _ _ _) (k := ?_)
          | fail)
        | ((fail_if_success (first | refine is_ucall ?_ | refine is_umcall ?_)); first | refine W1 ?_ | refine Wc ?_ | refine W2c ?_ ?_ | refine Wg ?_ | refine W2 ?_ ?_ | exact Wdead | refine Wlive (fun hb => ?_) | intro _ _ _ _ _ _ _ _ | refine We ?_ | refine Wx ?_ | refine Wt ?_ | refine Wm ?_ | refine W2m ?_ ?_ | refine Wl ?_)
        | fail)
      all_goals try exact absurd trivial (by assumption)
      try rw [hkn]
      refine mj_callP (h := same_spec _ _ _ _ _ _ _ ra rb (by simp; omega) (by simp; omega)) (k := ?_)
      rw [htk, decide_eq_true rfl]
      refine MonoJ.normA ?_
      repeat' (first
        | (refine is_ucall ?_; first
          | refine st_callP (h := readyZ_spec _ _ _ m s1 s2 s3 s4 (hm.ext extA)) (k := ?_)
          | refine st_callP (h := awake_spec _ _ _) (k := ?_)
          | fail)
        | (refine is_umcall ?_; first
          | refine mj_callP (h := readyZ_spec _ _ _ m s1 s2 s3 s4 (hm.ext extA)) (k := ?_)
          | refine mj_callP (h := awake_spec _ _ _) (k := ?_)
          | fail)
        | ((fail_if_success (first | refine is_ucall ?_ | refine is_umcall ?_)); first | refine W1 ?_ | refine Wc ?_ | refine W2c ?_ ?_ | refine Wg ?_ | refine W2 ?_ ?_ | exact Wdead | refine Wlive (fun hb => ?_) | intro _ _ _ _ _ _ _ _ | refine We ?_ | refine Wx ?_ | refine Wt ?_ | refine Wm ?_ | refine W2m ?_ ?_ | refine Wl ?_)
        | fail)
      all_goals first | exact ⟨rfl, rfl, rfl⟩ | exact absurd trivial (by assumption) | exact absurd rfl (by assumption) | trace_state
end
end Go.Proofs.Ytjbiidlmpaibkaa
