import Derived.Test.YtehobnpoeodhkaaSx
namespace Go.Proofs.Ytehobnpoeodhkaa
open Go Go.Abs Go.Proofs
set_option maxHeartbeats 8000000
set_option maxRecDepth 20000
attribute [local irreducible] CallJ OpsJ WPJ CallV MonoJ SpecJ

section
variable {γ : Type} (E : Env γ) (g : γ) (H : AHeap)
theorem left_law (m : HouseM) (s1 s2 s3 : Value) (w : Int) (hm : HouseW H m s1 s2 s3) (hw : 0 ≤ w ∧ w ≤ 65535) : CallJ Try.prog E 21 [hv m s1 s2 s3, .int .u16 w] (fun v H' g' => v = .bool true ∧ H' = H ∧ g' = g) H g := by
  have hok : [Value.int .i64 m.hour, Value.int .i64 m.grace, s1, s2, s3].all cellOk = true := by have := hm.ok; simp [cellOk] at this ⊢; exact this
  refine CallJ.tidy ?_
  unfold hv
  refine CallJ.enter Try.func21 rfl (by simp only [Try.ntmps21, List.length_cons, List.length_nil, Nat.zero_add, Nat.reduceAdd, Nat.reduceSub, List.replicate_succ, List.replicate_zero, List.cons_append, List.nil_append]; rfl) ?_
  repeat' (first
    | (refine is_ucall ?_; first
      | refine st_callP (h := readyW_spec _ _ _ m s1 s2 s3 (hm.ext extA)) (k := ?_)
      | refine st_callP (h := awake_spec _ _ _) (k := ?_)
      | fail)
    | (refine is_umcall ?_; first
      | refine mj_callP (h := readyW_spec _ _ _ m s1 s2 s3 (hm.ext extA)) (k := ?_)
      | refine mj_callP (h := awake_spec _ _ _) (k := ?_)
      | fail)
    | refine W1 ?_ | refine Wc ?_ | refine W2c ?_ ?_ | refine Wg ?_ | refine W2 ?_ ?_ | exact Wdead | refine Wlive (fun hb => ?_) | intro _ _ _ _ _ _ _ _ | refine We ?_ | refine Wx ?_ | refine Wt ?_ | refine Wm ?_ | refine W2m ?_ ?_ | refine Wl ?_
    | fail)
  · exact ⟨rfl, rfl, rfl⟩
  · have hr : thinS m = true ∧ checkS m = 0 := by assumption
    have hI := hm.is hr.1
    have hr3 := hI.clips
    have hG := good_of hr.2
    have hN := hG.n3
    have hb30 : m.clips.length ≤ 30 := by omega
    have hpow : 1 ≤ 2 ^ m.clips.length ∧ 2 ^ m.clips.length ≤ 2 ^ 10 := ⟨Nat.two_pow_pos _, Nat.pow_le_pow_right (by decide) hN⟩
    obtain ⟨hok1, ⟨s, hs, hsub⟩, hleast⟩ := leave_least hG
    have hss := bits_of_sub hsub
    have hsl : s.length ≤ m.clips.length := by have := hsub.length_le; simpa using this
    have hslt : ∀ p ∈ s, p < m.clips.length := fun p hp => List.mem_range.1 (hsub.subset hp)
    have hsp : s.Pairwise (· < ·) := List.pairwise_lt_range.sublist hsub
    refine st_call rfl (House_w E _ _ m s1 s2 s3 (hI.ext extA) hr.1) ?_
    rintro _ H1 g1 ⟨⟨t1, t2, t3, rfl, hm1, e1⟩, rfl⟩
    have x1 : Ext H H1 := Ext.trans extA e1
    have hb1 : H1[H.length]? = some (.row [.int .i64 m.hour, .int .i64 m.grace, s1, s2, s3] 1 true) := e1.get getA
    refine OpsJ.normA ?_
    repeat' (first
      | (refine is_ucall ?_; first
        | refine st_callP (h := readyW_spec _ _ _ m s1 s2 s3 (hm.ext extA)) (k := ?_)
        | refine st_callP (h := awake_spec _ _ _) (k := ?_)
        | fail)
      | (refine is_umcall ?_; first
        | refine mj_callP (h := readyW_spec _ _ _ m s1 s2 s3 (hm.ext extA)) (k := ?_)
        | refine mj_callP (h := awake_spec _ _ _) (k := ?_)
        | fail)
      | refine W1 ?_ | refine Wc ?_ | refine W2c ?_ ?_ | refine Wg ?_ | refine W2 ?_ ?_ | exact Wdead | refine Wlive (fun hb => ?_) | intro _ _ _ _ _ _ _ _ | refine We ?_ | refine Wx ?_ | refine Wt ?_ | refine Wm ?_ | refine W2m ?_ ?_ | refine Wl ?_
      | fail)
    refine st_call rfl (LeaveR9 E _ _ m t1 t2 t3 hr.2 (hm1.ext extA)) ?_
    rintro _ H2 g2 ⟨⟨qv, rfl, hq, e2⟩, rfl⟩
    have x2 : Ext H H2 := x1.trans e2
    have hb2 := e2.get hb1
    clear e1 e2 hm1 x1 hb1
    refine OpsJ.normA ?_
    repeat' (first
      | (refine is_ucall ?_; first
        | refine st_callP (h := readyW_spec _ _ _ m s1 s2 s3 (hm.ext extA)) (k := ?_)
        | refine st_callP (h := awake_spec _ _ _) (k := ?_)
        | fail)
      | (refine is_umcall ?_; first
        | refine mj_callP (h := readyW_spec _ _ _ m s1 s2 s3 (hm.ext extA)) (k := ?_)
        | refine mj_callP (h := awake_spec _ _ _) (k := ?_)
        | fail)
      | refine W1 ?_ | refine Wc ?_ | refine W2c ?_ ?_ | refine Wg ?_ | refine W2 ?_ ?_ | exact Wdead | refine Wlive (fun hb => ?_) | intro _ _ _ _ _ _ _ _ | refine We ?_ | refine Wx ?_ | refine Wt ?_ | refine Wm ?_ | refine W2m ?_ ?_ | refine Wl ?_
      | fail)
    have hLl : (leaveS m).length = s.length := by rw [hs, List.length_map]
    refine WPJ.loopT s.length [26, 27, 28, 29, 32, 33, 34, 35, 36, 37, 38, 39, 40, 41, 42, 43, 44, 45, 46, 47, 48, 49, 50, 51, 52, 53, 54, 55, 56, 57, 58, 59, 60, 61, 62, 63, 64, 65, 66, 67, 68, 69, 70, 30, 31] (fun j (b : Nat) => [(8, .int .i64 j), (7, .int .i64 b)])
      (fun j b H4 g4 => g4 = g2 ∧ H4 = H2 ∧ b = maskOf (s.take j)) 0 0 (Nat.zero_le _)
      (by intro p hp; simp at hp; rcases hp with rfl | rfl <;> rfl) ⟨rfl, rfl, rfl⟩ ?_
    rintro j b H4 g4 hj ⟨rfl, rfl, hbm⟩ hl0
    simp only [updT, maskT, List.set_cons_zero, List.set_cons_succ]
    rcases Nat.lt_or_ge j s.length with hlt | hge
    · obtain ⟨p, hpj⟩ : ∃ p, s[j] = p := ⟨_, rfl⟩
      have hpn : p < m.clips.length := by rw [← hpj]; exact hslt _ (List.getElem_mem hlt)
      have hel : (encI (leaveS m))[(j : Int).toNat]? = some [.int .i64 (p : Int)] := by rw [hs]; simp [hlt, hpj]
      have htk : s.take (j + 1) = s.take j ++ [p] := by rw [List.take_succ_eq_append_getElem hlt, hpj]
      have hbl : b < 2 ^ 30 := by
        rw [hbm]; exact mask_lt _ _ fun q hq => by have := hslt q (List.mem_of_mem_take hq); omega
      have hp30 : 2 ^ p ≤ 2 ^ 29 := Nat.pow_le_pow_right (by decide) (by omega)
      have hor := or_nat hbl (b := 2 ^ p) (by omega)
      have hnext : maskOf (s.take (j + 1)) = b ||| 2 ^ p := by rw [htk, mask_snoc, hbm]
      have ep := shl_eq (a := 1) (j := p) (k := p) (p := 2 ^ p) rfl (by rw [Nat.one_mul]) (by omega) (by omega)
      have ep' : IntKind.i64.wrap (1 * 2 ^ (min ((p : Int)).toNat IntKind.i64.bits)) = ((2 ^ p : Nat) : Int) := ep
      clear ep hsub hss hok1 hleast
      rcases Nat.eq_zero_or_pos j with h0 | h0
      · skip
        repeat' (first
          | (refine is_ucall ?_; first
            | refine st_callP (h := readyW_spec _ _ _ m s1 s2 s3 (hm.ext extA)) (k := ?_)
            | refine st_callP (h := awake_spec _ _ _) (k := ?_)
            | fail)
          | (refine is_umcall ?_; first
            | refine mj_callP (h := readyW_spec _ _ _ m s1 s2 s3 (hm.ext extA)) (k := ?_)
            | refine mj_callP (h := awake_spec _ _ _) (k := ?_)
            | fail)
          | refine W1 ?_ | refine Wc ?_ | refine W2c ?_ ?_ | refine Wg ?_ | refine W2 ?_ ?_ | exact Wdead | refine Wlive (fun hb => ?_) | intro _ _ _ _ _ _ _ _ | refine We ?_ | refine Wx ?_ | refine Wt ?_ | refine Wm ?_ | refine W2m ?_ ?_ | refine Wl ?_
          | fail)
        refine WPJ.draw 31 mixed (by kernel_rfl) (by kernel_rfl) (by kernel_rfl) (by decide) ?_
        refine MonoJ.normA ?_
        repeat' (first
          | (refine is_ucall ?_; first
            | refine st_callP (h := readyW_spec _ _ _ m s1 s2 s3 (hm.ext extA)) (k := ?_)
            | refine st_callP (h := awake_spec _ _ _) (k := ?_)
            | fail)
          | (refine is_umcall ?_; first
            | refine mj_callP (h := readyW_spec _ _ _ m s1 s2 s3 (hm.ext extA)) (k := ?_)
            | refine mj_callP (h := awake_spec _ _ _) (k := ?_)
            | fail)
          | refine W1 ?_ | refine Wc ?_ | refine W2c ?_ ?_ | refine Wg ?_ | refine W2 ?_ ?_ | exact Wdead | refine Wlive (fun hb => ?_) | intro _ _ _ _ _ _ _ _ | refine We ?_ | refine Wx ?_ | refine Wt ?_ | refine Wm ?_ | refine W2m ?_ ?_ | refine Wl ?_
          | fail)
        rw [wrap_u64 (n := (p : Int)) (by omega) (by omega)]
        refine OpsJ.normA ?_
        refine st_shl rfl rfl (by omega) ?_
        rw [ep']
        refine OpsJ.normA ?_
        refine st_bits rfl rfl hor ?_
        refine OpsJ.normA ?_
        repeat' (first
          | (refine is_ucall ?_; first
            | refine st_callP (h := readyW_spec _ _ _ m s1 s2 s3 (hm.ext extA)) (k := ?_)
            | refine st_callP (h := awake_spec _ _ _) (k := ?_)
            | fail)
          | (refine is_umcall ?_; first
            | refine mj_callP (h := readyW_spec _ _ _ m s1 s2 s3 (hm.ext extA)) (k := ?_)
            | refine mj_callP (h := awake_spec _ _ _) (k := ?_)
            | fail)
          | refine W1 ?_ | refine Wc ?_ | refine W2c ?_ ?_ | refine Wg ?_ | refine W2 ?_ ?_ | exact Wdead | refine Wlive (fun hb => ?_) | intro _ _ _ _ _ _ _ _ | refine We ?_ | refine Wx ?_ | refine Wt ?_ | refine Wm ?_ | refine W2m ?_ ?_ | refine Wl ?_
          | fail)
        exact ⟨b ||| 2 ^ p, hlt, (by repeat' (first | exact Weak.nil | refine Weak.wild ?_ | refine Weak.same ?_ | refine Weak.intEq (by first | omega | (simp; done) | (push_cast; omega)) ?_)), rfl, rfl, hnext.symm⟩
      · obtain ⟨q, hqj⟩ : ∃ q, s[j - 1] = q := ⟨_, rfl⟩
        have hqp : q < p := by rw [← hqj, ← hpj]; exact List.pairwise_iff_getElem.1 hsp _ _ _ _ (by omega)
        have hel2 : (encI (leaveS m))[((j : Int) - 1).toNat]? = some [.int .i64 (q : Int)] := by rw [hs, show ((j : Int) - 1).toNat = j - 1 by omega]; simp [show j - 1 < s.length by omega, hqj]
        repeat' (first
          | (refine is_ucall ?_; first
            | refine st_callP (h := readyW_spec _ _ _ m s1 s2 s3 (hm.ext extA)) (k := ?_)
            | refine st_callP (h := awake_spec _ _ _) (k := ?_)
            | fail)
          | (refine is_umcall ?_; first
            | refine mj_callP (h := readyW_spec _ _ _ m s1 s2 s3 (hm.ext extA)) (k := ?_)
            | refine mj_callP (h := awake_spec _ _ _) (k := ?_)
            | fail)
          | refine W1 ?_ | refine Wc ?_ | refine W2c ?_ ?_ | refine Wg ?_ | refine W2 ?_ ?_ | exact Wdead | refine Wlive (fun hb => ?_) | intro _ _ _ _ _ _ _ _ | refine We ?_ | refine Wx ?_ | refine Wt ?_ | refine Wm ?_ | refine W2m ?_ ?_ | refine Wl ?_
          | fail)
        refine WPJ.draw 31 mixed (by kernel_rfl) (by kernel_rfl) (by kernel_rfl) (by decide) ?_
        refine MonoJ.normA ?_
        repeat' (first
          | (refine is_ucall ?_; first
            | refine st_callP (h := readyW_spec _ _ _ m s1 s2 s3 (hm.ext extA)) (k := ?_)
            | refine st_callP (h := awake_spec _ _ _) (k := ?_)
            | fail)
          | (refine is_umcall ?_; first
            | refine mj_callP (h := readyW_spec _ _ _ m s1 s2 s3 (hm.ext extA)) (k := ?_)
            | refine mj_callP (h := awake_spec _ _ _) (k := ?_)
            | fail)
          | refine W1 ?_ | refine Wc ?_ | refine W2c ?_ ?_ | refine Wg ?_ | refine W2 ?_ ?_ | exact Wdead | refine Wlive (fun hb => ?_) | intro _ _ _ _ _ _ _ _ | refine We ?_ | refine Wx ?_ | refine Wt ?_ | refine Wm ?_ | refine W2m ?_ ?_ | refine Wl ?_
          | fail)
        rw [wrap_u64 (n := (p : Int)) (by omega) (by omega)]
        refine OpsJ.normA ?_
        refine st_shl rfl rfl (by omega) ?_
        rw [ep']
        refine OpsJ.normA ?_
        refine st_bits rfl rfl hor ?_
        refine OpsJ.normA ?_
        repeat' (first
          | (refine is_ucall ?_; first
            | refine st_callP (h := readyW_spec _ _ _ m s1 s2 s3 (hm.ext extA)) (k := ?_)
            | refine st_callP (h := awake_spec _ _ _) (k := ?_)
            | fail)
          | (refine is_umcall ?_; first
            | refine mj_callP (h := readyW_spec _ _ _ m s1 s2 s3 (hm.ext extA)) (k := ?_)
            | refine mj_callP (h := awake_spec _ _ _) (k := ?_)
            | fail)
          | refine W1 ?_ | refine Wc ?_ | refine W2c ?_ ?_ | refine Wg ?_ | refine W2 ?_ ?_ | exact Wdead | refine Wlive (fun hb => ?_) | intro _ _ _ _ _ _ _ _ | refine We ?_ | refine Wx ?_ | refine Wt ?_ | refine Wm ?_ | refine W2m ?_ ?_ | refine Wl ?_
          | fail)
        exact ⟨b ||| 2 ^ p, hlt, (by repeat' (first | exact Weak.nil | refine Weak.wild ?_ | refine Weak.same ?_ | refine Weak.intEq (by first | omega | (simp; done) | (push_cast; omega)) ?_)), rfl, rfl, hnext.symm⟩
    · obtain rfl : j = s.length := by omega
      rw [List.take_length] at hbm
      rw [← hbm] at hss
      have hwr : IntKind.i64.wrap w = ((w.toNat : Nat) : Int) := by rw [wrap64_eq ⟨by omega, by omega⟩]; omega
      have hand := and_nat (a := w.toNat) (b := 2 ^ m.clips.length - 1) (by omega) (by omega)
      obtain ⟨N, hNN⟩ : ∃ N, w.toNat &&& (2 ^ m.clips.length - 1) = N := ⟨_, rfl⟩
      have hNl : N < 2 ^ m.clips.length := by rw [← hNN]; exact Nat.and_lt_two_pow _ (by omega)
      rw [hNN] at hand
      have hz1 := Option.some.inj (and_not hb30 hss.1)
      have hz2 := Option.some.inj (and_not hb30 hNl)
      have hT1 : checkT (subM m ((2 ^ m.clips.length - 1) ^^^ b)) = 0 := by
        rw [checkT_sub hG, sub_not hss.1, hss.2, ← hs]
        unfold okWithout at hok1
        rw [hok1]; rfl
      have hl9 := hleast N
      have hT2 := checkT_sub hG ((2 ^ m.clips.length - 1) ^^^ N)
      rw [sub_not hNl] at hT2
      unfold okWithout at hl9
      have hLn : (leaveS m).length ≤ 1000000 := by omega
      have hBn : (bitsN N m.clips.length).length ≤ 1000000 := by have := bitsN_len N m.clips.length; omega
      clear hsp hslt hsub hleast
      repeat' (first
        | (refine is_ucall ?_; first
          | refine st_callP (h := readyW_spec _ _ _ m s1 s2 s3 (hm.ext extA)) (k := ?_)
          | refine st_callP (h := awake_spec _ _ _) (k := ?_)
          | fail)
        | (refine is_umcall ?_; first
          | refine mj_callP (h := readyW_spec _ _ _ m s1 s2 s3 (hm.ext extA)) (k := ?_)
          | refine mj_callP (h := awake_spec _ _ _) (k := ?_)
          | fail)
        | refine W1 ?_ | refine Wc ?_ | refine W2c ?_ ?_ | refine Wg ?_ | refine W2 ?_ ?_ | exact Wdead | refine Wlive (fun hb => ?_) | intro _ _ _ _ _ _ _ _ | refine We ?_ | refine Wx ?_ | refine Wt ?_ | refine Wm ?_ | refine W2m ?_ ?_ | refine Wl ?_
        | fail)
      rw [hwr]
      refine OpsJ.normA ?_
      refine st_callP (h := Full_spec E _ _ m s1 s2 s3 (hI.ext extA) hb30) (k := ?_)
      refine OpsJ.normA ?_
      refine st_bits rfl rfl hand ?_
      refine OpsJ.normA ?_
      repeat' (first
        | (refine is_ucall ?_; first
          | refine st_callP (h := readyW_spec _ _ _ m s1 s2 s3 (hm.ext extA)) (k := ?_)
          | refine st_callP (h := awake_spec _ _ _) (k := ?_)
          | refine st_callP (h := Full_spec _ _ _ m s1 s2 s3 (hI.ext extA) hb30) (k := ?_)
          | fail)
        | (refine is_umcall ?_; first
          | refine mj_callP (h := readyW_spec _ _ _ m s1 s2 s3 (hm.ext extA)) (k := ?_)
          | refine mj_callP (h := awake_spec _ _ _) (k := ?_)
          | refine mj_callP (h := Full_spec _ _ _ m s1 s2 s3 (hI.ext extA) hb30) (k := ?_)
          | fail)
        | refine W1 ?_ | refine Wc ?_ | refine W2c ?_ ?_ | refine Wg ?_ | refine W2 ?_ ?_ | exact Wdead | refine Wlive (fun hb => ?_) | intro _ _ _ _ _ _ _ _ | refine We ?_ | refine Wx ?_ | refine Wt ?_ | refine Wm ?_ | refine W2m ?_ ?_ | refine Wl ?_
        | fail)
      refine WPJ.drawX 5 9 (by decide) (by decide) mixed (by kernel_rfl) (by kernel_rfl) (by kernel_rfl) (by decide) ?_
      refine MonoJ.normA ?_
      repeat' (first
        | (refine is_ucall ?_; first
          | refine st_callP (h := readyW_spec _ _ _ m s1 s2 s3 (hm.ext extA)) (k := ?_)
          | refine st_callP (h := awake_spec _ _ _) (k := ?_)
          | refine st_callP (h := Full_spec _ _ _ m s1 s2 s3 (hI.ext extA) hb30) (k := ?_)
          | fail)
        | (refine is_umcall ?_; first
          | refine mj_callP (h := readyW_spec _ _ _ m s1 s2 s3 (hm.ext extA)) (k := ?_)
          | refine mj_callP (h := awake_spec _ _ _) (k := ?_)
          | refine mj_callP (h := Full_spec _ _ _ m s1 s2 s3 (hI.ext extA) hb30) (k := ?_)
          | fail)
        | refine W1 ?_ | refine Wc ?_ | refine W2c ?_ ?_ | refine Wg ?_ | refine W2 ?_ ?_ | exact Wdead | refine Wlive (fun hb => ?_) | intro _ _ _ _ _ _ _ _ | refine We ?_ | refine Wx ?_ | refine Wt ?_ | refine Wm ?_ | refine W2m ?_ ?_ | refine Wl ?_
        | fail)
      refine st_call rfl (someZ E _ _ m s1 s2 s3 _ _ hz1 (hI.ext x2) hb30) ?_
      rintro _ H5 g5 ⟨⟨w1, w2, w3, rfl, hm5, e5⟩, rfl⟩
      refine OpsJ.normA ?_
      repeat' (first
        | (refine is_ucall ?_; first
          | refine st_callP (h := readyW_spec _ _ _ m s1 s2 s3 (hm.ext extA)) (k := ?_)
          | refine st_callP (h := awake_spec _ _ _) (k := ?_)
          | refine st_callP (h := Full_spec _ _ _ m s1 s2 s3 (hI.ext extA) hb30) (k := ?_)
          | fail)
        | (refine is_umcall ?_; first
          | refine mj_callP (h := readyW_spec _ _ _ m s1 s2 s3 (hm.ext extA)) (k := ?_)
          | refine mj_callP (h := awake_spec _ _ _) (k := ?_)
          | refine mj_callP (h := Full_spec _ _ _ m s1 s2 s3 (hI.ext extA) hb30) (k := ?_)
          | fail)
        | refine W1 ?_ | refine Wc ?_ | refine W2c ?_ ?_ | refine Wg ?_ | refine W2 ?_ ?_ | exact Wdead | refine Wlive (fun hb => ?_) | intro _ _ _ _ _ _ _ _ | refine We ?_ | refine Wx ?_ | refine Wt ?_ | refine Wm ?_ | refine W2m ?_ ?_ | refine Wl ?_
        | fail)
      refine st_call rfl (House_w E _ _ (subM m ((2 ^ m.clips.length - 1) ^^^ b)) w1 w2 w3 (hm5.ext extA) (thin_sub hr.1 _)) ?_
      rintro _ H6 g6 ⟨⟨v1, v2, v3, rfl, hm6, e6⟩, rfl⟩
      refine OpsJ.normA ?_
      repeat' (first
        | (refine is_ucall ?_; first
          | refine st_callP (h := readyW_spec _ _ _ m s1 s2 s3 (hm.ext extA)) (k := ?_)
          | refine st_callP (h := awake_spec _ _ _) (k := ?_)
          | refine st_callP (h := Full_spec _ _ _ m s1 s2 s3 (hI.ext extA) hb30) (k := ?_)
          | fail)
        | (refine is_umcall ?_; first
          | refine mj_callP (h := readyW_spec _ _ _ m s1 s2 s3 (hm.ext extA)) (k := ?_)
          | refine mj_callP (h := awake_spec _ _ _) (k := ?_)
          | refine mj_callP (h := Full_spec _ _ _ m s1 s2 s3 (hI.ext extA) hb30) (k := ?_)
          | fail)
        | refine W1 ?_ | refine Wc ?_ | refine W2c ?_ ?_ | refine Wg ?_ | refine W2 ?_ ?_ | exact Wdead | refine Wlive (fun hb => ?_) | intro _ _ _ _ _ _ _ _ | refine We ?_ | refine Wx ?_ | refine Wt ?_ | refine Wm ?_ | refine W2m ?_ ?_ | refine Wl ?_
        | fail)
      refine st_call rfl (ClocksT_spec E _ _ (subM m ((2 ^ m.clips.length - 1) ^^^ b)) v1 v2 v3 hT1 (hm6.ext extA)) ?_
      rintro _ H7 g7 ⟨⟨sv, rfl, e7⟩, rfl⟩
      have x7 : Ext H H7 := x2.trans (Ext.trans (Ext.trans e5 e6) e7)
      have hb7 := (Ext.trans (Ext.trans e5 e6) e7).get hb2
      replace hq := hq.ext (Ext.trans (Ext.trans e5 e6) e7)
      clear e5 e6 e7 hm5 hm6 x2 hb2 hz1 hT1
      refine OpsJ.normA ?_
      refine st_move ?_
      refine OpsJ.normA ?_
      refine PairJ.at_ ?_
      refine PairJ.intro (o0 := ⟨some 85, _, _, _, _, _⟩) (o1 := ⟨some 86, _, _, _, _, _⟩) (o2 := ⟨some 10, _, _, _, _, _⟩) (u := sv) (v := .int .i64 0) (x := sv) rfl rfl rfl rfl rfl rfl rfl rfl rfl (runs_extract rfl rfl) (runs_extract rfl rfl) (runs_extract rfl rfl) (runs_extract rfl rfl) (putT_comm (fun d h => by cases h; decide)) runs_assign (runs_extract rfl rfl) runs_assign (putT_comm (fun d h => by cases h; decide)) ?_
      refine OpsJ.normA ?_
      repeat' (first
        | (refine is_ucall ?_; first
          | refine st_callP (h := readyW_spec _ _ _ m s1 s2 s3 (hm.ext extA)) (k := ?_)
          | refine st_callP (h := awake_spec _ _ _) (k := ?_)
          | refine st_callP (h := Full_spec _ _ _ m s1 s2 s3 (hI.ext extA) hb30) (k := ?_)
          | fail)
        | (refine is_umcall ?_; first
          | refine mj_callP (h := readyW_spec _ _ _ m s1 s2 s3 (hm.ext extA)) (k := ?_)
          | refine mj_callP (h := awake_spec _ _ _) (k := ?_)
          | refine mj_callP (h := Full_spec _ _ _ m s1 s2 s3 (hI.ext extA) hb30) (k := ?_)
          | fail)
        | refine W1 ?_ | refine Wc ?_ | refine W2c ?_ ?_ | refine Wg ?_ | refine W2 ?_ ?_ | exact Wdead | refine Wlive (fun hb => ?_) | intro _ _ _ _ _ _ _ _ | refine We ?_ | refine Wx ?_ | refine Wt ?_ | refine Wm ?_ | refine W2m ?_ ?_ | refine Wl ?_
        | fail)
      refine WPJ.drawX 5 9 (by decide) (by decide) mixed (by kernel_rfl) (by kernel_rfl) (by kernel_rfl) (by decide) ?_
      refine MonoJ.normA ?_
      repeat' (first
        | (refine is_ucall ?_; first
          | refine st_callP (h := readyW_spec _ _ _ m s1 s2 s3 (hm.ext extA)) (k := ?_)
          | refine st_callP (h := awake_spec _ _ _) (k := ?_)
          | refine st_callP (h := Full_spec _ _ _ m s1 s2 s3 (hI.ext extA) hb30) (k := ?_)
          | fail)
        | (refine is_umcall ?_; first
          | refine mj_callP (h := readyW_spec _ _ _ m s1 s2 s3 (hm.ext extA)) (k := ?_)
          | refine mj_callP (h := awake_spec _ _ _) (k := ?_)
          | refine mj_callP (h := Full_spec _ _ _ m s1 s2 s3 (hI.ext extA) hb30) (k := ?_)
          | fail)
        | refine W1 ?_ | refine Wc ?_ | refine W2c ?_ ?_ | refine Wg ?_ | refine W2 ?_ ?_ | exact Wdead | refine Wlive (fun hb => ?_) | intro _ _ _ _ _ _ _ _ | refine We ?_ | refine Wx ?_ | refine Wt ?_ | refine Wm ?_ | refine W2m ?_ ?_ | refine Wl ?_
        | fail)
      refine st_call rfl (someZ E _ _ m s1 s2 s3 _ _ hz2 (hI.ext x7) hb30) ?_
      rintro _ H5 g5 ⟨⟨w1, w2, w3, rfl, hm5, e5⟩, rfl⟩
      refine OpsJ.normA ?_
      repeat' (first
        | (refine is_ucall ?_; first
          | refine st_callP (h := readyW_spec _ _ _ m s1 s2 s3 (hm.ext extA)) (k := ?_)
          | refine st_callP (h := awake_spec _ _ _) (k := ?_)
          | refine st_callP (h := Full_spec _ _ _ m s1 s2 s3 (hI.ext extA) hb30) (k := ?_)
          | fail)
        | (refine is_umcall ?_; first
          | refine mj_callP (h := readyW_spec _ _ _ m s1 s2 s3 (hm.ext extA)) (k := ?_)
          | refine mj_callP (h := awake_spec _ _ _) (k := ?_)
          | refine mj_callP (h := Full_spec _ _ _ m s1 s2 s3 (hI.ext extA) hb30) (k := ?_)
          | fail)
        | refine W1 ?_ | refine Wc ?_ | refine W2c ?_ ?_ | refine Wg ?_ | refine W2 ?_ ?_ | exact Wdead | refine Wlive (fun hb => ?_) | intro _ _ _ _ _ _ _ _ | refine We ?_ | refine Wx ?_ | refine Wt ?_ | refine Wm ?_ | refine W2m ?_ ?_ | refine Wl ?_
        | fail)
      refine st_call rfl (House_w E _ _ (subM m ((2 ^ m.clips.length - 1) ^^^ N)) w1 w2 w3 (hm5.ext extA) (thin_sub hr.1 _)) ?_
      rintro _ H6 g6 ⟨⟨v1, v2, v3, rfl, hm6, e6⟩, rfl⟩
      refine OpsJ.normA ?_
      repeat' (first
        | (refine is_ucall ?_; first
          | refine st_callP (h := readyW_spec _ _ _ m s1 s2 s3 (hm.ext extA)) (k := ?_)
          | refine st_callP (h := awake_spec _ _ _) (k := ?_)
          | refine st_callP (h := Full_spec _ _ _ m s1 s2 s3 (hI.ext extA) hb30) (k := ?_)
          | fail)
        | (refine is_umcall ?_; first
          | refine mj_callP (h := readyW_spec _ _ _ m s1 s2 s3 (hm.ext extA)) (k := ?_)
          | refine mj_callP (h := awake_spec _ _ _) (k := ?_)
          | refine mj_callP (h := Full_spec _ _ _ m s1 s2 s3 (hI.ext extA) hb30) (k := ?_)
          | fail)
        | refine W1 ?_ | refine Wc ?_ | refine W2c ?_ ?_ | refine Wg ?_ | refine W2 ?_ ?_ | exact Wdead | refine Wlive (fun hb => ?_) | intro _ _ _ _ _ _ _ _ | refine We ?_ | refine Wx ?_ | refine Wt ?_ | refine Wm ?_ | refine W2m ?_ ?_ | refine Wl ?_
        | fail)
      cases hH : hasS (without m (bitsN N m.clips.length)) with
      | true =>
        have hshort := hl9 hH
        rw [← sub_not hNl] at hT2
        refine st_call rfl (ClocksT_spec E _ _ (subM m ((2 ^ m.clips.length - 1) ^^^ N)) v1 v2 v3 (by rw [hT2, sub_not hNl, hH]; rfl) (hm6.ext extA)) ?_
        rintro _ H8 g8 ⟨⟨sv2, rfl, e8⟩, rfl⟩
        have x8 : Ext H H8 := x7.trans (Ext.trans (Ext.trans e5 e6) e8)
        replace hq := hq.ext (Ext.trans (Ext.trans e5 e6) e8)
        clear e5 e6 e8 hm5 hm6 x7 hb7
        refine OpsJ.normA ?_
        refine st_move ?_
        refine OpsJ.normA ?_
        refine PairJ.at_ ?_
        refine PairJ.intro (o0 := ⟨some 96, _, _, _, _, _⟩) (o1 := ⟨some 97, _, _, _, _, _⟩) (o2 := ⟨some 12, _, _, _, _, _⟩) (u := sv2) (v := .int .i64 0) (x := sv2) rfl rfl rfl rfl rfl rfl rfl rfl rfl (runs_extract rfl rfl) (runs_extract rfl rfl) (runs_extract rfl rfl) (runs_extract rfl rfl) (putT_comm (fun d h => by cases h; decide)) runs_assign (runs_extract rfl rfl) runs_assign (putT_comm (fun d h => by cases h; decide)) ?_
        refine OpsJ.normA ?_
        repeat' (first
          | (refine is_ucall ?_; first
            | refine st_callP (h := readyW_spec _ _ _ m s1 s2 s3 (hm.ext extA)) (k := ?_)
            | refine st_callP (h := awake_spec _ _ _) (k := ?_)
            | refine st_callP (h := Full_spec _ _ _ m s1 s2 s3 (hI.ext extA) hb30) (k := ?_)
            | fail)
          | (refine is_umcall ?_; first
            | refine mj_callP (h := readyW_spec _ _ _ m s1 s2 s3 (hm.ext extA)) (k := ?_)
            | refine mj_callP (h := awake_spec _ _ _) (k := ?_)
            | refine mj_callP (h := Full_spec _ _ _ m s1 s2 s3 (hI.ext extA) hb30) (k := ?_)
            | fail)
          | refine W1 ?_ | refine Wc ?_ | refine W2c ?_ ?_ | refine Wg ?_ | refine W2 ?_ ?_ | exact Wdead | refine Wlive (fun hb => ?_) | intro _ _ _ _ _ _ _ _ | refine We ?_ | refine Wx ?_ | refine Wt ?_ | refine Wm ?_ | refine W2m ?_ ?_ | refine Wl ?_
          | fail)
        refine st_call rfl (BitsR E _ _ N m.clips.length hNl hb30) ?_
        rintro bv H9 g9 ⟨⟨hrb, e9⟩, rfl⟩
        have x9 : Ext H H9 := x8.trans e9
        replace hq := hq.ext e9
        clear e9 x8
        refine OpsJ.normA ?_
        repeat' (first
          | (refine is_ucall ?_; first
            | refine st_callP (h := readyW_spec _ _ _ m s1 s2 s3 (hm.ext extA)) (k := ?_)
            | refine st_callP (h := awake_spec _ _ _) (k := ?_)
            | refine st_callP (h := Full_spec _ _ _ m s1 s2 s3 (hI.ext extA) hb30) (k := ?_)
            | fail)
          | (refine is_umcall ?_; first
            | refine mj_callP (h := readyW_spec _ _ _ m s1 s2 s3 (hm.ext extA)) (k := ?_)
            | refine mj_callP (h := awake_spec _ _ _) (k := ?_)
            | refine mj_callP (h := Full_spec _ _ _ m s1 s2 s3 (hI.ext extA) hb30) (k := ?_)
            | fail)
          | refine W1 ?_ | refine Wc ?_ | refine W2c ?_ ?_ | refine Wg ?_ | refine W2 ?_ ?_ | exact Wdead | refine Wlive (fun hb => ?_) | intro _ _ _ _ _ _ _ _ | refine We ?_ | refine Wx ?_ | refine Wt ?_ | refine Wm ?_ | refine W2m ?_ ?_ | refine Wl ?_
          | fail)
        refine st_callP (h := ShorterE E _ _ bv qv _ _ false hshort (hrb.ext extA) (hq.ext extA) hBn hLn) (k := ?_)
        refine OpsJ.normA ?_
        repeat' (first
          | (refine is_ucall ?_; first
            | refine st_callP (h := readyW_spec _ _ _ m s1 s2 s3 (hm.ext extA)) (k := ?_)
            | refine st_callP (h := awake_spec _ _ _) (k := ?_)
            | refine st_callP (h := Full_spec _ _ _ m s1 s2 s3 (hI.ext extA) hb30) (k := ?_)
            | fail)
          | (refine is_umcall ?_; first
            | refine mj_callP (h := readyW_spec _ _ _ m s1 s2 s3 (hm.ext extA)) (k := ?_)
            | refine mj_callP (h := awake_spec _ _ _) (k := ?_)
            | refine mj_callP (h := Full_spec _ _ _ m s1 s2 s3 (hI.ext extA) hb30) (k := ?_)
            | fail)
          | refine W1 ?_ | refine Wc ?_ | refine W2c ?_ ?_ | refine Wg ?_ | refine W2 ?_ ?_ | exact Wdead | refine Wlive (fun hb => ?_) | intro _ _ _ _ _ _ _ _ | refine We ?_ | refine Wx ?_ | refine Wt ?_ | refine Wm ?_ | refine W2m ?_ ?_ | refine Wl ?_
          | fail)
        exact ⟨rfl, rfl, rfl⟩
      | false =>
        rw [← sub_not hNl] at hT2
        refine st_call rfl (ClocksN_spec E _ _ (subM m ((2 ^ m.clips.length - 1) ^^^ N)) v1 v2 v3 (by rw [hT2, sub_not hNl, hH]; rfl) (hm6.ext extA)) ?_
        rintro _ H8 g8 ⟨⟨sv2, rfl, e8⟩, rfl⟩
        have x8 : Ext H H8 := x7.trans (Ext.trans (Ext.trans e5 e6) e8)
        clear e5 e6 e8 hm5 hm6 x7 hb7
        refine OpsJ.normA ?_
        refine st_move ?_
        refine OpsJ.normA ?_
        refine PairJ.at_ ?_
        refine PairJ.intro (o0 := ⟨some 96, _, _, _, _, _⟩) (o1 := ⟨some 97, _, _, _, _, _⟩) (o2 := ⟨some 12, _, _, _, _, _⟩) (u := sv2) (v := .int .i64 11) (x := sv2) rfl rfl rfl rfl rfl rfl rfl rfl rfl (runs_extract rfl rfl) (runs_extract rfl rfl) (runs_extract rfl rfl) (runs_extract rfl rfl) (putT_comm (fun d h => by cases h; decide)) runs_assign (runs_extract rfl rfl) runs_assign (putT_comm (fun d h => by cases h; decide)) ?_
        refine OpsJ.normA ?_
        repeat' (first
          | (refine is_ucall ?_; first
            | refine st_callP (h := readyW_spec _ _ _ m s1 s2 s3 (hm.ext extA)) (k := ?_)
            | refine st_callP (h := awake_spec _ _ _) (k := ?_)
            | refine st_callP (h := Full_spec _ _ _ m s1 s2 s3 (hI.ext extA) hb30) (k := ?_)
            | fail)
          | (refine is_umcall ?_; first
            | refine mj_callP (h := readyW_spec _ _ _ m s1 s2 s3 (hm.ext extA)) (k := ?_)
            | refine mj_callP (h := awake_spec _ _ _) (k := ?_)
            | refine mj_callP (h := Full_spec _ _ _ m s1 s2 s3 (hI.ext extA) hb30) (k := ?_)
            | fail)
          | refine W1 ?_ | refine Wc ?_ | refine W2c ?_ ?_ | refine Wg ?_ | refine W2 ?_ ?_ | exact Wdead | refine Wlive (fun hb => ?_) | intro _ _ _ _ _ _ _ _ | refine We ?_ | refine Wx ?_ | refine Wt ?_ | refine Wm ?_ | refine W2m ?_ ?_ | refine Wl ?_
          | fail)
        exact ⟨rfl, rfl, rfl⟩
end
end Go.Proofs.Ytehobnpoeodhkaa
