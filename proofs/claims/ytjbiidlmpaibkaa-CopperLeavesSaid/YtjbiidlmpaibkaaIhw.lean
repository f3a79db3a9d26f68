import Derived.Test.YtjbiidlmpaibkaaIgw
namespace Go.Proofs.Ytjbiidlmpaibkaa
open Go Go.Abs Go.Proofs
set_option maxHeartbeats 8000000
set_option maxRecDepth 20000
attribute [local irreducible] CallJ OpsJ WPJ CallV MonoJ SpecJ

section
variable {P : Program} {T : List Value} {H : AHeap} {R : List Value → AHeap → Prop} {ops : Array Oper} {dst : Option Tmp} {ty : TypeId} {ps : String} {af : Array Edge} {rest : List Oper} {mm : Nat} {xs : Array Operand} {at_ : Array TypeId}
theorem mj_copperZ {m : CopM} {s1 s2 s3 s4 : Value} (ha : evalL T xs.toList = [cv m s1 s2 s3 s4]) (hm : CopY H m s1 s2 s3 s4) (hb3 : m.loss.length ≤ 1000) (hb4 : m.reads.length ≤ 1000)
    (k : ∀ H' t1 t2 t3 t4, CopIs H' m t1 t2 t3 t4 → Ext H H' → MonoJ Try.prog ops R mm rest (putT T dst (cv m t1 t2 t3 t4)) H') : MonoJ Try.prog ops R (mm + 1) (⟨dst, .call { callee := .value (.func 22), args := xs, argTypes := at_ }, ty, ps, af, none⟩ :: rest) T H :=
  mj_callL (ha := ha) (h := CopperO_spec trivE () H m s1 s2 s3 s4 hm hb3 hb4) (hL := copL_own m) (k := k _ _ _ _ _ (cop_madeO H m hm.n1 hm.n2 hm.n3 hm.n4) ⟨_, rfl⟩)
theorem mj_some {m : CopM} {s1 s2 s3 s4 : Value} {z : Int} {b : Nat} (ha : evalL T xs.toList = [cv m s1 s2 s3 s4, .int .i64 z]) (hz : z = b) (hm : CopIs H m s1 s2 s3 s4) (hb4 : m.reads.length ≤ 30)
    (k : ∀ H' t4, CopIs H' (subM m b) s1 s2 s3 t4 → Ext H H' → MonoJ Try.prog ops R mm rest (putT T dst (cv (subM m b) s1 s2 s3 t4)) H') : MonoJ Try.prog ops R (mm + 1) (⟨dst, .call { callee := .value (.func 72), args := xs, argTypes := at_ }, ty, ps, af, none⟩ :: rest) T H := by
  subst hz
  refine mj_callL (ha := ha) (h := some_subO trivE () H m s1 s2 s3 s4 b hm hb4) (hL := slH_own) (k := k _ _ (some_is (own := true) hm ⟨_, rfl⟩ fun h => ?_) ⟨_, rfl⟩)
  have hne' : (readsB m b).isEmpty = false := by cases hl : readsB m b <;> simp_all
  simp [slH, hne']
theorem mj_keeps {m : CopM} {s1 s2 s3 s4 : Value} {e : Int} (ha : evalL T xs.toList = [cv m s1 s2 s3 s4]) (he : checkT m = e) (hm : CopIs H m s1 s2 s3 s4)
    (k : ∀ H' sv, Ext H H' → MonoJ Try.prog ops R mm rest (putT T dst (.tuple #[sv, .int .i64 e])) H') : MonoJ Try.prog ops R (mm + 1) (⟨dst, .call { callee := .value (.func 35), args := xs, argTypes := at_ }, ty, ps, af, none⟩ :: rest) T H := by
  by_cases hz : e = 0
  · subst hz
    exact mj_callL (ha := ha) (h := (Keeps_spec trivE () H m s1 s2 s3 s4 hm).mono (by rintro v H' g' ⟨h, rfl⟩; unfold IntsA at h; rw [if_pos he] at h; exact ⟨h.1, h.2, rfl⟩)) (k := k _ _ ⟨_, rfl⟩)
  · exact mj_callP (ha := ha) (h := (Keeps_spec trivE () H m s1 s2 s3 s4 hm).mono (by rintro v H' g' ⟨h, rfl⟩; unfold IntsA at h; rw [he, if_neg hz] at h; exact ⟨h.1, h.2, rfl⟩)) (k := k _ _ (Ext.refl _))
end
section
variable {γ : Type} (E : Env γ) (g : γ) (H : AHeap)
theorem LeaveQ_spec (m : CopM) (s1 s2 s3 s4 : Value) (hS : checkS m = 0) (hm : CopIs H m s1 s2 s3 s4) : CallJ Try.prog E 48 [cv m s1 s2 s3 s4] (fun v H' g' => (∃ qv, v = .tuple #[qv, .int .i64 0] ∧ RdS H' qv 1 (encI (leaveS m)) ∧ Ext H H') ∧ g' = g) H g :=
  (Leave_own E g H m s1 s2 s3 s4 hm).mono (by
    rintro v H' g' ⟨h, rfl⟩
    unfold LeaveO at h
    rw [if_pos hS] at h
    rcases h with ⟨h0, rfl, rfl⟩ | ⟨cs, cap, rfl, rfl, h1, h2⟩
    · exact ⟨⟨_, rfl, by rw [h0]; exact ⟨fun x hx => (List.not_mem_nil hx).elim, .inr ⟨rfl, .inl rfl⟩⟩, Ext.refl _⟩, rfl⟩
    · exact ⟨⟨_, rfl, rd_encE (own := true) List.getElem?_concat_length h1, ⟨_, rfl⟩⟩, rfl⟩)
theorem BitsR (b n : Nat) (hb : b < 2 ^ n) (hn : n ≤ 30) : CallJ Try.prog E 75 [.int .i64 b] (fun v H' g' => (RdS H' v 1 (encI (bitsN b n)) ∧ Ext H H') ∧ g' = g) H g :=
  (Bits_spec E g H b n hb hn).mono (by
    rintro v H' g' ⟨rfl, rfl, rfl⟩
    exact ⟨⟨by rw [encI_eq]; exact sl_rd (enc := enc1) (w := 1) (fun _ => rfl) H (bitsN b n), ⟨_, rfl⟩⟩, rfl⟩)
theorem left_law (m : CopM) (s1 s2 s3 s4 : Value) (w : Int) (hm : CopZ H m s1 s2 s3 s4) (hw : 0 ≤ w ∧ w ≤ 255) : CallJ Try.prog E 18 [cv m s1 s2 s3 s4, .int .u8 w] (fun v H' g' => v = .bool true ∧ H' = H ∧ g' = g) H g := by
  have hok := hm.cells
  refine CallJ.tidy ?_
  unfold cv
  refine CallJ.enter Try.func18 rfl (by simp only [Try.ntmps18, List.length_cons, List.length_nil, Nat.zero_add, Nat.reduceAdd, Nat.reduceSub, List.replicate_succ, List.replicate_zero, List.cons_append, List.nil_append]; rfl) ?_
  repeat' (first
    | (refine is_ucall ?_; first
      | refine st_callP (h := readyZ_spec _ _ _ m s1 s2 s3 s4 (hm.ext extA)) (k := ?_)
      | refine st_callP (h := awake_spec _ _ _) (k := ?_)
      | fail)
    | (refine is_umcall ?_; first
      | refine mj_callP (h := readyZ_spec _ _ _ m s1 s2 s3 s4 (hm.ext extA)) (k := ?_)
      | refine mj_callP (h := awake_spec _ _ _) (k := ?_)
      | fail)
    | ((fail_if_success (first | refine is_ucall ?_ | refine is_umcall ?_)); first | refine W1 ?_ | refine Wc ?_ | refine W2c ?_ ?_ | refine Wg ?_ | refine W2 ?_ ?_ | exact Wdead | refine Wlive (fun hb => ?_) | intro _ _ _ _ _ _ _ _ | refine We ?_ | refine Wx ?_ | refine Wt ?_ | refine Wm ?_ | refine W2m ?_ ?_ | refine Wl ?_)
    | fail)
  · exact ⟨rfl, rfl, rfl⟩
  · have hr : thinS m = true ∧ checkS m = 0 := by assumption
    have hI := hm.is hr.1
    have hr4 := hI.reads
    have hG := good_of hr.2
    have hN := hG.nr
    obtain ⟨hn5, hnl⟩ := hrs_le hG.w
    have hll := hG.ll
    have hb30 : m.reads.length ≤ 30 := by omega
    have hpow : 1 ≤ 2 ^ m.reads.length ∧ 2 ^ m.reads.length ≤ 2 ^ 5 := ⟨Nat.two_pow_pos _, Nat.pow_le_pow_right (by decide) hN⟩
    obtain ⟨hok1, ⟨s, hs, hsub⟩, hleast⟩ := leave_least hG
    have hss := bits_of_sub hsub
    have hsl : s.length ≤ m.reads.length := by have := hsub.length_le; simpa using this
    have hslt : ∀ p ∈ s, p < m.reads.length := fun p hp => List.mem_range.1 (hsub.subset hp)
    have hsp : s.Pairwise (· < ·) := List.pairwise_lt_range.sublist hsub
    refine st_call rfl (Copper_w E _ _ m s1 s2 s3 s4 ?_ (by omega) (by omega)) ?_
    · exact (hI.ext extA).y
    rintro _ H1 g1 ⟨⟨t1, t2, t3, t4, rfl, hm1, e1⟩, rfl⟩
    have hb1 : H1[H.length]? = some (.row (ccells m s1 s2 s3 s4) 1 true) := e1.get getA
    have x1 : Ext H H1 := Ext.trans extA e1
    refine OpsJ.normA ?_
    repeat' (first
      | (refine is_ucall ?_; first
        | refine st_callP (h := readyZ_spec _ _ _ m s1 s2 s3 s4 (hm.ext extA)) (k := ?_)
        | refine st_callP (h := awake_spec _ _ _) (k := ?_)
        | fail)
      | (refine is_umcall ?_; first
        | refine mj_callP (h := readyZ_spec _ _ _ m s1 s2 s3 s4 (hm.ext extA)) (k := ?_)
        | refine mj_callP (h := awake_spec _ _ _) (k := ?_)
        | fail)
      | ((fail_if_success (first | refine is_ucall ?_ | refine is_umcall ?_)); first | refine W1 ?_ | refine Wc ?_ | refine W2c ?_ ?_ | refine Wg ?_ | refine W2 ?_ ?_ | exact Wdead | refine Wlive (fun hb => ?_) | intro _ _ _ _ _ _ _ _ | refine We ?_ | refine Wx ?_ | refine Wt ?_ | refine Wm ?_ | refine W2m ?_ ?_ | refine Wl ?_)
      | fail)
    refine st_call rfl (LeaveQ_spec E _ _ m t1 t2 t3 t4 hr.2 (hm1.ext extA)) ?_
    rintro _ H2 g2 ⟨⟨qv, rfl, hq, e2⟩, rfl⟩
    have x2 : Ext H H2 := x1.trans e2
    have hb2 := e2.get hb1
    clear e1 e2 hm1 x1 hb1
    refine OpsJ.normA ?_
    repeat' (first
      | (refine is_ucall ?_; first
        | refine st_callP (h := readyZ_spec _ _ _ m s1 s2 s3 s4 (hm.ext extA)) (k := ?_)
        | refine st_callP (h := awake_spec _ _ _) (k := ?_)
        | fail)
      | (refine is_umcall ?_; first
        | refine mj_callP (h := readyZ_spec _ _ _ m s1 s2 s3 s4 (hm.ext extA)) (k := ?_)
        | refine mj_callP (h := awake_spec _ _ _) (k := ?_)
        | fail)
      | ((fail_if_success (first | refine is_ucall ?_ | refine is_umcall ?_)); first | refine W1 ?_ | refine Wc ?_ | refine W2c ?_ ?_ | refine Wg ?_ | refine W2 ?_ ?_ | exact Wdead | refine Wlive (fun hb => ?_) | intro _ _ _ _ _ _ _ _ | refine We ?_ | refine Wx ?_ | refine Wt ?_ | refine Wm ?_ | refine W2m ?_ ?_ | refine Wl ?_)
      | fail)
    have hLl : (leaveS m).length = s.length := by rw [hs, List.length_map]
    refine WPJ.loopT s.length [26, 27, 28, 29, 32, 33, 34, 35, 36, 37, 38, 39, 40, 41, 42, 43, 44, 45, 46, 47, 48, 49, 50, 51, 52, 53, 54, 55, 56, 57, 58, 59, 60, 61, 62, 63, 64, 65, 30, 31] (fun j (b : Nat) => [(8, .int .i64 j), (7, .int .i64 b)])
      (fun j b H4 g4 => g4 = g2 ∧ H4 = H2 ∧ b = maskOf (s.take j)) 0 0 (Nat.zero_le _)
      (by intro p hp; simp at hp; rcases hp with rfl | rfl <;> rfl) ⟨rfl, rfl, rfl⟩ ?_
    rintro j b H4 g4 hj ⟨rfl, rfl, hbm⟩ hl0
    simp only [updT, maskT, List.set_cons_zero, List.set_cons_succ]
    rcases Nat.lt_or_ge j s.length with hlt | hge
    · obtain ⟨p, hpj⟩ : ∃ p, s[j] = p := ⟨_, rfl⟩
      have hpn : p < m.reads.length := by rw [← hpj]; exact hslt _ (List.getElem_mem hlt)
      have hel : (encI (leaveS m))[(j : Int).toNat]? = some [.int .i64 (p : Int)] := by rw [hs]; simp [hlt, hpj]
      have htk : s.take (j + 1) = s.take j ++ [p] := by rw [List.take_succ_eq_append_getElem hlt, hpj]
      have hbl : b < 2 ^ 30 := by
        rw [hbm]; exact mask_lt _ _ fun q hq => by have := hslt q (List.mem_of_mem_take hq); omega
      have hp30 : 2 ^ p ≤ 2 ^ 29 := Nat.pow_le_pow_right (by decide) (by omega)
      have hor := or_nat hbl (b := 2 ^ p) (by omega)
      have hnext : maskOf (s.take (j + 1)) = b ||| 2 ^ p := by rw [htk, mask_snoc, hbm]
      have ep := shl_eq (a := 1) (j := p) (k := p) (p := 2 ^ p) rfl (by rw [Nat.one_mul]) (by omega) (by omega)
      have ep' : IntKind.i64.wrap (1 * 2 ^ (min ((p : Int)).toNat IntKind.i64.bits)) = ((2 ^ p : Nat) : Int) := ep
      have hin : inR 0 ((m.reads.length : Int) - 1) (p : Int) = true := by unfold inR; simp; omega
      clear ep hsub hss hok1 hleast
      rcases Nat.eq_zero_or_pos j with h0 | h0
      · skip
        repeat' (first
          | (refine is_ucall ?_; first
            | refine st_callP (h := readyZ_spec _ _ _ m s1 s2 s3 s4 (hm.ext extA)) (k := ?_)
            | refine st_callP (h := awake_spec _ _ _) (k := ?_)
            | fail)
          | (refine is_umcall ?_; first
            | refine mj_callP (h := readyZ_spec _ _ _ m s1 s2 s3 s4 (hm.ext extA)) (k := ?_)
            | refine mj_callP (h := awake_spec _ _ _) (k := ?_)
            | fail)
          | ((fail_if_success (first | refine is_ucall ?_ | refine is_umcall ?_)); first | refine W1 ?_ | refine Wc ?_ | refine W2c ?_ ?_ | refine Wg ?_ | refine W2 ?_ ?_ | exact Wdead | refine Wlive (fun hb => ?_) | intro _ _ _ _ _ _ _ _ | refine We ?_ | refine Wx ?_ | refine Wt ?_ | refine Wm ?_ | refine W2m ?_ ?_ | refine Wl ?_)
          | fail)
        refine WPJ.draw 26 mixed (by kernel_rfl) (by kernel_rfl) (by kernel_rfl) (by decide) ?_
        refine MonoJ.normA ?_
        repeat' (first
          | (refine is_ucall ?_; first
            | refine st_callP (h := readyZ_spec _ _ _ m s1 s2 s3 s4 (hm.ext extA)) (k := ?_)
            | refine st_callP (h := awake_spec _ _ _) (k := ?_)
            | fail)
          | (refine is_umcall ?_; first
            | refine mj_callP (h := readyZ_spec _ _ _ m s1 s2 s3 s4 (hm.ext extA)) (k := ?_)
            | refine mj_callP (h := awake_spec _ _ _) (k := ?_)
            | fail)
          | ((fail_if_success (first | refine is_ucall ?_ | refine is_umcall ?_)); first | refine W1 ?_ | refine Wc ?_ | refine W2c ?_ ?_ | refine Wg ?_ | refine W2 ?_ ?_ | exact Wdead | refine Wlive (fun hb => ?_) | intro _ _ _ _ _ _ _ _ | refine We ?_ | refine Wx ?_ | refine Wt ?_ | refine Wm ?_ | refine W2m ?_ ?_ | refine Wl ?_)
          | fail)
        refine mj_callP (h := In_spec _ _ _ (p : Int) 0 ((m.reads.length : Int) - 1)) (k := ?_)
        rw [hin]
        refine MonoJ.normA ?_
        repeat' (first
          | (refine is_ucall ?_; first
            | refine st_callP (h := readyZ_spec _ _ _ m s1 s2 s3 s4 (hm.ext extA)) (k := ?_)
            | refine st_callP (h := awake_spec _ _ _) (k := ?_)
            | fail)
          | (refine is_umcall ?_; first
            | refine mj_callP (h := readyZ_spec _ _ _ m s1 s2 s3 s4 (hm.ext extA)) (k := ?_)
            | refine mj_callP (h := awake_spec _ _ _) (k := ?_)
            | fail)
          | ((fail_if_success (first | refine is_ucall ?_ | refine is_umcall ?_)); first | refine W1 ?_ | refine Wc ?_ | refine W2c ?_ ?_ | refine Wg ?_ | refine W2 ?_ ?_ | exact Wdead | refine Wlive (fun hb => ?_) | intro _ _ _ _ _ _ _ _ | refine We ?_ | refine Wx ?_ | refine Wt ?_ | refine Wm ?_ | refine W2m ?_ ?_ | refine Wl ?_)
          | fail)
        all_goals try exact absurd trivial (by assumption)
        rw [wrap_u64 (n := (p : Int)) (by omega) (by omega)]
        refine OpsJ.normA ?_
        refine st_shl rfl rfl (by omega) ?_
        rw [ep']
        refine OpsJ.normA ?_
        refine st_bits rfl rfl hor ?_
        refine OpsJ.normA ?_
        repeat' (first
          | (refine is_ucall ?_; first
            | refine st_callP (h := readyZ_spec _ _ _ m s1 s2 s3 s4 (hm.ext extA)) (k := ?_)
            | refine st_callP (h := awake_spec _ _ _) (k := ?_)
            | fail)
          | (refine is_umcall ?_; first
            | refine mj_callP (h := readyZ_spec _ _ _ m s1 s2 s3 s4 (hm.ext extA)) (k := ?_)
            | refine mj_callP (h := awake_spec _ _ _) (k := ?_)
            | fail)
          | ((fail_if_success (first | refine is_ucall ?_ | refine is_umcall ?_)); first | refine W1 ?_ | refine Wc ?_ | refine W2c ?_ ?_ | refine Wg ?_ | refine W2 ?_ ?_ | exact Wdead | refine Wlive (fun hb => ?_) | intro _ _ _ _ _ _ _ _ | refine We ?_ | refine Wx ?_ | refine Wt ?_ | refine Wm ?_ | refine W2m ?_ ?_ | refine Wl ?_)
          | fail)
        exact ⟨b ||| 2 ^ p, hlt, (by repeat' (first | exact Weak.nil | refine Weak.wild ?_ | refine Weak.same ?_ | refine Weak.intEq (by first | omega | (simp; done) | (push_cast; omega)) ?_)), rfl, rfl, hnext.symm⟩
      · obtain ⟨q, hqj⟩ : ∃ q, s[j - 1] = q := ⟨_, rfl⟩
        have hqp : q < p := by rw [← hqj, ← hpj]; exact List.pairwise_iff_getElem.1 hsp _ _ _ _ (by omega)
        have hel2 : (encI (leaveS m))[((j : Int) - 1).toNat]? = some [.int .i64 (q : Int)] := by rw [hs, show ((j : Int) - 1).toNat = j - 1 by omega]; simp [show j - 1 < s.length by omega, hqj]
        repeat' (first
          | (refine is_ucall ?_; first
            | refine st_callP (h := readyZ_spec _ _ _ m s1 s2 s3 s4 (hm.ext extA)) (k := ?_)
            | refine st_callP (h := awake_spec _ _ _) (k := ?_)
            | fail)
          | (refine is_umcall ?_; first
            | refine mj_callP (h := readyZ_spec _ _ _ m s1 s2 s3 s4 (hm.ext extA)) (k := ?_)
            | refine mj_callP (h := awake_spec _ _ _) (k := ?_)
            | fail)
          | ((fail_if_success (first | refine is_ucall ?_ | refine is_umcall ?_)); first | refine W1 ?_ | refine Wc ?_ | refine W2c ?_ ?_ | refine Wg ?_ | refine W2 ?_ ?_ | exact Wdead | refine Wlive (fun hb => ?_) | intro _ _ _ _ _ _ _ _ | refine We ?_ | refine Wx ?_ | refine Wt ?_ | refine Wm ?_ | refine W2m ?_ ?_ | refine Wl ?_)
          | fail)
        refine WPJ.draw 26 mixed (by kernel_rfl) (by kernel_rfl) (by kernel_rfl) (by decide) ?_
        refine MonoJ.normA ?_
        repeat' (first
          | (refine is_ucall ?_; first
            | refine st_callP (h := readyZ_spec _ _ _ m s1 s2 s3 s4 (hm.ext extA)) (k := ?_)
            | refine st_callP (h := awake_spec _ _ _) (k := ?_)
            | fail)
          | (refine is_umcall ?_; first
            | refine mj_callP (h := readyZ_spec _ _ _ m s1 s2 s3 s4 (hm.ext extA)) (k := ?_)
            | refine mj_callP (h := awake_spec _ _ _) (k := ?_)
            | fail)
          | ((fail_if_success (first | refine is_ucall ?_ | refine is_umcall ?_)); first | refine W1 ?_ | refine Wc ?_ | refine W2c ?_ ?_ | refine Wg ?_ | refine W2 ?_ ?_ | exact Wdead | refine Wlive (fun hb => ?_) | intro _ _ _ _ _ _ _ _ | refine We ?_ | refine Wx ?_ | refine Wt ?_ | refine Wm ?_ | refine W2m ?_ ?_ | refine Wl ?_)
          | fail)
        refine mj_callP (h := In_spec _ _ _ (p : Int) 0 ((m.reads.length : Int) - 1)) (k := ?_)
        rw [hin]
        refine MonoJ.normA ?_
        repeat' (first
          | (refine is_ucall ?_; first
            | refine st_callP (h := readyZ_spec _ _ _ m s1 s2 s3 s4 (hm.ext extA)) (k := ?_)
            | refine st_callP (h := awake_spec _ _ _) (k := ?_)
            | fail)
          | (refine is_umcall ?_; first
            | refine mj_callP (h := readyZ_spec _ _ _ m s1 s2 s3 s4 (hm.ext extA)) (k := ?_)
            | refine mj_callP (h := awake_spec _ _ _) (k := ?_)
            | fail)
          | ((fail_if_success (first | refine is_ucall ?_ | refine is_umcall ?_)); first | refine W1 ?_ | refine Wc ?_ | refine W2c ?_ ?_ | refine Wg ?_ | refine W2 ?_ ?_ | exact Wdead | refine Wlive (fun hb => ?_) | intro _ _ _ _ _ _ _ _ | refine We ?_ | refine Wx ?_ | refine Wt ?_ | refine Wm ?_ | refine W2m ?_ ?_ | refine Wl ?_)
          | fail)
        all_goals try exact absurd trivial (by assumption)
        rw [wrap_u64 (n := (p : Int)) (by omega) (by omega)]
        refine OpsJ.normA ?_
        refine st_shl rfl rfl (by omega) ?_
        rw [ep']
        refine OpsJ.normA ?_
        refine st_bits rfl rfl hor ?_
        refine OpsJ.normA ?_
        repeat' (first
          | (refine is_ucall ?_; first
            | refine st_callP (h := readyZ_spec _ _ _ m s1 s2 s3 s4 (hm.ext extA)) (k := ?_)
            | refine st_callP (h := awake_spec _ _ _) (k := ?_)
            | fail)
          | (refine is_umcall ?_; first
            | refine mj_callP (h := readyZ_spec _ _ _ m s1 s2 s3 s4 (hm.ext extA)) (k := ?_)
            | refine mj_callP (h := awake_spec _ _ _) (k := ?_)
            | fail)
          | ((fail_if_success (first | refine is_ucall ?_ | refine is_umcall ?_)); first | refine W1 ?_ | refine Wc ?_ | refine W2c ?_ ?_ | refine Wg ?_ | refine W2 ?_ ?_ | exact Wdead | refine Wlive (fun hb => ?_) | intro _ _ _ _ _ _ _ _ | refine We ?_ | refine Wx ?_ | refine Wt ?_ | refine Wm ?_ | refine W2m ?_ ?_ | refine Wl ?_)
          | fail)
        exact ⟨b ||| 2 ^ p, hlt, (by repeat' (first | exact Weak.nil | refine Weak.wild ?_ | refine Weak.same ?_ | refine Weak.intEq (by first | omega | (simp; done) | (push_cast; omega)) ?_)), rfl, rfl, hnext.symm⟩
    · obtain rfl : j = s.length := by omega
      rw [List.take_length] at hbm
      rw [← hbm] at hss
      have hwr : IntKind.i64.wrap w = ((w.toNat : Nat) : Int) := by rw [wrap64_eq ⟨by omega, by omega⟩]; omega
      have hand := and_nat (a := w.toNat) (b := 2 ^ m.reads.length - 1) (by omega) (by omega)
      obtain ⟨N, hNN⟩ : ∃ N, w.toNat &&& (2 ^ m.reads.length - 1) = N := ⟨_, rfl⟩
      have hNl : N < 2 ^ m.reads.length := by rw [← hNN]; exact Nat.and_lt_two_pow _ (by omega)
      rw [hNN] at hand
      have hz1 := Option.some.inj (and_not hb30 hss.1)
      have hz2 := Option.some.inj (and_not hb30 hNl)
      have hT1 : checkT (subM m ((2 ^ m.reads.length - 1) ^^^ b)) = 0 := by
        rw [checkT_good (sub_good hG _), sub_not hss.1, hss.2, ← hs]
        unfold okWithout at hok1
        rw [hok1]; rfl
      have hl9 := hleast N
      have hT2 := checkT_good (sub_good hG ((2 ^ m.reads.length - 1) ^^^ N))
      rw [sub_not hNl] at hT2
      unfold okWithout at hl9
      have hLn : (leaveS m).length ≤ 1000000 := by omega
      have hBn : (bitsN N m.reads.length).length ≤ 1000000 := by have := bitsN_len N m.reads.length; omega
      clear hsp hslt hsub hleast
      repeat' (first
        | (refine is_ucall ?_; first
          | refine st_callP (h := readyZ_spec _ _ _ m s1 s2 s3 s4 (hm.ext extA)) (k := ?_)
          | refine st_callP (h := awake_spec _ _ _) (k := ?_)
          | fail)
        | (refine is_umcall ?_; first
          | refine mj_callP (h := readyZ_spec _ _ _ m s1 s2 s3 s4 (hm.ext extA)) (k := ?_)
          | refine mj_callP (h := awake_spec _ _ _) (k := ?_)
          | fail)
        | ((fail_if_success (first | refine is_ucall ?_ | refine is_umcall ?_)); first | refine W1 ?_ | refine Wc ?_ | refine W2c ?_ ?_ | refine Wg ?_ | refine W2 ?_ ?_ | exact Wdead | refine Wlive (fun hb => ?_) | intro _ _ _ _ _ _ _ _ | refine We ?_ | refine Wx ?_ | refine Wt ?_ | refine Wm ?_ | refine W2m ?_ ?_ | refine Wl ?_)
        | fail)
      rw [hwr]
      refine OpsJ.normA ?_
      repeat' (first
        | (refine is_ucall ?_; first
          | refine st_callP (h := readyZ_spec _ _ _ m s1 s2 s3 s4 (hm.ext extA)) (k := ?_)
          | refine st_callP (h := awake_spec _ _ _) (k := ?_)
          | fail)
        | (refine is_umcall ?_; first
          | refine mj_callP (h := readyZ_spec _ _ _ m s1 s2 s3 s4 (hm.ext extA)) (k := ?_)
          | refine mj_callP (h := awake_spec _ _ _) (k := ?_)
          | fail)
        | ((fail_if_success (first | refine is_ucall ?_ | refine is_umcall ?_)); first | refine W1 ?_ | refine Wc ?_ | refine W2c ?_ ?_ | refine Wg ?_ | refine W2 ?_ ?_ | exact Wdead | refine Wlive (fun hb => ?_) | intro _ _ _ _ _ _ _ _ | refine We ?_ | refine Wx ?_ | refine Wt ?_ | refine Wm ?_ | refine W2m ?_ ?_ | refine Wl ?_)
        | fail)
      refine st_callP (h := Full_spec E _ _ m s1 s2 s3 s4 (hI.ext x2).y hb30) (k := ?_)
      refine OpsJ.normA ?_
      refine st_bits rfl rfl hand ?_
      refine OpsJ.normA ?_
      repeat' (first
        | (refine is_ucall ?_; first
          | refine st_callP (h := readyZ_spec _ _ _ m s1 s2 s3 s4 (hm.ext extA)) (k := ?_)
          | refine st_callP (h := awake_spec _ _ _) (k := ?_)
          | fail)
        | (refine is_umcall ?_; first
          | refine mj_callP (h := readyZ_spec _ _ _ m s1 s2 s3 s4 (hm.ext extA)) (k := ?_)
          | refine mj_callP (h := awake_spec _ _ _) (k := ?_)
          | fail)
        | ((fail_if_success (first | refine is_ucall ?_ | refine is_umcall ?_)); first | refine W1 ?_ | refine Wc ?_ | refine W2c ?_ ?_ | refine Wg ?_ | refine W2 ?_ ?_ | exact Wdead | refine Wlive (fun hb => ?_) | intro _ _ _ _ _ _ _ _ | refine We ?_ | refine Wx ?_ | refine Wt ?_ | refine Wm ?_ | refine W2m ?_ ?_ | refine Wl ?_)
        | fail)
      refine WPJ.draw 13 mixed (by kernel_rfl) (by kernel_rfl) (by kernel_rfl) (by decide) ?_
      refine MonoJ.normA ?_
      repeat' (first
        | (refine is_ucall ?_; first
          | refine st_callP (h := readyZ_spec _ _ _ m s1 s2 s3 s4 (hm.ext extA)) (k := ?_)
          | refine st_callP (h := awake_spec _ _ _) (k := ?_)
          | fail)
        | (refine is_umcall ?_; first
          | refine mj_callP (h := readyZ_spec _ _ _ m s1 s2 s3 s4 (hm.ext extA)) (k := ?_)
          | refine mj_callP (h := awake_spec _ _ _) (k := ?_)
          | fail)
        | ((fail_if_success (first | refine is_ucall ?_ | refine is_umcall ?_)); first | refine W1 ?_ | refine Wc ?_ | refine W2c ?_ ?_ | refine Wg ?_ | refine W2 ?_ ?_ | exact Wdead | refine Wlive (fun hb => ?_) | intro _ _ _ _ _ _ _ _ | refine We ?_ | refine Wx ?_ | refine Wt ?_ | refine Wm ?_ | refine W2m ?_ ?_ | refine Wl ?_)
        | fail)
      refine mj_callP (h := Full_spec _ _ _ m s1 s2 s3 s4 (hI.ext x2).y hb30) (k := ?_)
      refine MonoJ.normA ?_
      repeat' (first
        | (refine is_ucall ?_; first
          | refine st_callP (h := readyZ_spec _ _ _ m s1 s2 s3 s4 (hm.ext extA)) (k := ?_)
          | refine st_callP (h := awake_spec _ _ _) (k := ?_)
          | fail)
        | (refine is_umcall ?_; first
          | refine mj_callP (h := readyZ_spec _ _ _ m s1 s2 s3 s4 (hm.ext extA)) (k := ?_)
          | refine mj_callP (h := awake_spec _ _ _) (k := ?_)
          | fail)
        | ((fail_if_success (first | refine is_ucall ?_ | refine is_umcall ?_)); first | refine W1 ?_ | refine Wc ?_ | refine W2c ?_ ?_ | refine Wg ?_ | refine W2 ?_ ?_ | exact Wdead | refine Wlive (fun hb => ?_) | intro _ _ _ _ _ _ _ _ | refine We ?_ | refine Wx ?_ | refine Wt ?_ | refine Wm ?_ | refine W2m ?_ ?_ | refine Wl ?_)
        | fail)
      refine mj_some rfl hz1 (hI.ext x2) hb30 ?_
      intro H5 w4 hm5 e5
      refine MonoJ.normA ?_
      repeat' (first
        | (refine is_ucall ?_; first
          | refine st_callP (h := readyZ_spec _ _ _ m s1 s2 s3 s4 (hm.ext extA)) (k := ?_)
          | refine st_callP (h := awake_spec _ _ _) (k := ?_)
          | fail)
        | (refine is_umcall ?_; first
          | refine mj_callP (h := readyZ_spec _ _ _ m s1 s2 s3 s4 (hm.ext extA)) (k := ?_)
          | refine mj_callP (h := awake_spec _ _ _) (k := ?_)
          | fail)
        | ((fail_if_success (first | refine is_ucall ?_ | refine is_umcall ?_)); first | refine W1 ?_ | refine Wc ?_ | refine W2c ?_ ?_ | refine Wg ?_ | refine W2 ?_ ?_ | exact Wdead | refine Wlive (fun hb => ?_) | intro _ _ _ _ _ _ _ _ | refine We ?_ | refine Wx ?_ | refine Wt ?_ | refine Wm ?_ | refine W2m ?_ ?_ | refine Wl ?_)
        | fail)
      refine mj_copperZ (m := subM m ((2 ^ m.reads.length - 1) ^^^ b)) rfl hm5.y (by show m.loss.length ≤ 1000; omega) (by have := (readsB_sub m ((2 ^ m.reads.length - 1) ^^^ b)).length_le; show (readsB m _).length ≤ 1000; omega) ?_
      intro H6 v1 v2 v3 v4 hm6 e6
      refine MonoJ.normA ?_
      repeat' (first
        | (refine is_ucall ?_; first
          | refine st_callP (h := readyZ_spec _ _ _ m s1 s2 s3 s4 (hm.ext extA)) (k := ?_)
          | refine st_callP (h := awake_spec _ _ _) (k := ?_)
          | fail)
        | (refine is_umcall ?_; first
          | refine mj_callP (h := readyZ_spec _ _ _ m s1 s2 s3 s4 (hm.ext extA)) (k := ?_)
          | refine mj_callP (h := awake_spec _ _ _) (k := ?_)
          | fail)
        | ((fail_if_success (first | refine is_ucall ?_ | refine is_umcall ?_)); first | refine W1 ?_ | refine Wc ?_ | refine W2c ?_ ?_ | refine Wg ?_ | refine W2 ?_ ?_ | exact Wdead | refine Wlive (fun hb => ?_) | intro _ _ _ _ _ _ _ _ | refine We ?_ | refine Wx ?_ | refine Wt ?_ | refine Wm ?_ | refine W2m ?_ ?_ | refine Wl ?_)
        | fail)
      refine mj_keeps rfl hT1 hm6 ?_
      intro H7 sv e7
      have x7 : Ext H H7 := x2.trans (e5.trans (e6.trans e7))
      have hb7 := (e5.trans (e6.trans e7)).get hb2
      replace hq := hq.ext (e5.trans (e6.trans e7))
      clear e5 e6 e7 hm5 hm6 x2 hb2 hz1 hT1
      refine MonoJ.normA ?_
      repeat' (first
        | (refine is_ucall ?_; first
          | refine st_callP (h := readyZ_spec _ _ _ m s1 s2 s3 s4 (hm.ext extA)) (k := ?_)
          | refine st_callP (h := awake_spec _ _ _) (k := ?_)
          | fail)
        | (refine is_umcall ?_; first
          | refine mj_callP (h := readyZ_spec _ _ _ m s1 s2 s3 s4 (hm.ext extA)) (k := ?_)
          | refine mj_callP (h := awake_spec _ _ _) (k := ?_)
          | fail)
        | ((fail_if_success (first | refine is_ucall ?_ | refine is_umcall ?_)); first | refine W1 ?_ | refine Wc ?_ | refine W2c ?_ ?_ | refine Wg ?_ | refine W2 ?_ ?_ | exact Wdead | refine Wlive (fun hb => ?_) | intro _ _ _ _ _ _ _ _ | refine We ?_ | refine Wx ?_ | refine Wt ?_ | refine Wm ?_ | refine W2m ?_ ?_ | refine Wl ?_)
        | fail)
      refine WPJ.draw 13 mixed (by kernel_rfl) (by kernel_rfl) (by kernel_rfl) (by decide) ?_
      refine MonoJ.normA ?_
      repeat' (first
        | (refine is_ucall ?_; first
          | refine st_callP (h := readyZ_spec _ _ _ m s1 s2 s3 s4 (hm.ext extA)) (k := ?_)
          | refine st_callP (h := awake_spec _ _ _) (k := ?_)
          | fail)
        | (refine is_umcall ?_; first
          | refine mj_callP (h := readyZ_spec _ _ _ m s1 s2 s3 s4 (hm.ext extA)) (k := ?_)
          | refine mj_callP (h := awake_spec _ _ _) (k := ?_)
          | fail)
        | ((fail_if_success (first | refine is_ucall ?_ | refine is_umcall ?_)); first | refine W1 ?_ | refine Wc ?_ | refine W2c ?_ ?_ | refine Wg ?_ | refine W2 ?_ ?_ | exact Wdead | refine Wlive (fun hb => ?_) | intro _ _ _ _ _ _ _ _ | refine We ?_ | refine Wx ?_ | refine Wt ?_ | refine Wm ?_ | refine W2m ?_ ?_ | refine Wl ?_)
        | fail)
      refine mj_callP (h := Full_spec _ _ _ m s1 s2 s3 s4 (hI.ext x7).y hb30) (k := ?_)
      refine MonoJ.normA ?_
      repeat' (first
        | (refine is_ucall ?_; first
          | refine st_callP (h := readyZ_spec _ _ _ m s1 s2 s3 s4 (hm.ext extA)) (k := ?_)
          | refine st_callP (h := awake_spec _ _ _) (k := ?_)
          | fail)
        | (refine is_umcall ?_; first
          | refine mj_callP (h := readyZ_spec _ _ _ m s1 s2 s3 s4 (hm.ext extA)) (k := ?_)
          | refine mj_callP (h := awake_spec _ _ _) (k := ?_)
          | fail)
        | ((fail_if_success (first | refine is_ucall ?_ | refine is_umcall ?_)); first | refine W1 ?_ | refine Wc ?_ | refine W2c ?_ ?_ | refine Wg ?_ | refine W2 ?_ ?_ | exact Wdead | refine Wlive (fun hb => ?_) | intro _ _ _ _ _ _ _ _ | refine We ?_ | refine Wx ?_ | refine Wt ?_ | refine Wm ?_ | refine W2m ?_ ?_ | refine Wl ?_)
        | fail)
      refine mj_some rfl hz2 (hI.ext x7) hb30 ?_
      intro H5 w4 hm5 e5
      refine MonoJ.normA ?_
      repeat' (first
        | (refine is_ucall ?_; first
          | refine st_callP (h := readyZ_spec _ _ _ m s1 s2 s3 s4 (hm.ext extA)) (k := ?_)
          | refine st_callP (h := awake_spec _ _ _) (k := ?_)
          | fail)
        | (refine is_umcall ?_; first
          | refine mj_callP (h := readyZ_spec _ _ _ m s1 s2 s3 s4 (hm.ext extA)) (k := ?_)
          | refine mj_callP (h := awake_spec _ _ _) (k := ?_)
          | fail)
        | ((fail_if_success (first | refine is_ucall ?_ | refine is_umcall ?_)); first | refine W1 ?_ | refine Wc ?_ | refine W2c ?_ ?_ | refine Wg ?_ | refine W2 ?_ ?_ | exact Wdead | refine Wlive (fun hb => ?_) | intro _ _ _ _ _ _ _ _ | refine We ?_ | refine Wx ?_ | refine Wt ?_ | refine Wm ?_ | refine W2m ?_ ?_ | refine Wl ?_)
        | fail)
      refine mj_copperZ (m := subM m ((2 ^ m.reads.length - 1) ^^^ N)) rfl hm5.y (by show m.loss.length ≤ 1000; omega) (by have := (readsB_sub m ((2 ^ m.reads.length - 1) ^^^ N)).length_le; show (readsB m _).length ≤ 1000; omega) ?_
      intro H6 v1 v2 v3 v4 hm6 e6
      refine MonoJ.normA ?_
      repeat' (first
        | (refine is_ucall ?_; first
          | refine st_callP (h := readyZ_spec _ _ _ m s1 s2 s3 s4 (hm.ext extA)) (k := ?_)
          | refine st_callP (h := awake_spec _ _ _) (k := ?_)
          | fail)
        | (refine is_umcall ?_; first
          | refine mj_callP (h := readyZ_spec _ _ _ m s1 s2 s3 s4 (hm.ext extA)) (k := ?_)
          | refine mj_callP (h := awake_spec _ _ _) (k := ?_)
          | fail)
        | ((fail_if_success (first | refine is_ucall ?_ | refine is_umcall ?_)); first | refine W1 ?_ | refine Wc ?_ | refine W2c ?_ ?_ | refine Wg ?_ | refine W2 ?_ ?_ | exact Wdead | refine Wlive (fun hb => ?_) | intro _ _ _ _ _ _ _ _ | refine We ?_ | refine Wx ?_ | refine Wt ?_ | refine Wm ?_ | refine W2m ?_ ?_ | refine Wl ?_)
        | fail)
      cases hH : hasS (without m (bitsN N m.reads.length)) with
      | true =>
        have hshort := hl9 hH
        refine mj_keeps (e := 0) rfl (by rw [← sub_not hNl] at hT2 hH; rw [hT2, hH]; rfl) hm6 ?_
        intro H8 sv2 e8
        have x8 : Ext H H8 := x7.trans (e5.trans (e6.trans e8))
        replace hq := hq.ext (e5.trans (e6.trans e8))
        clear e5 e6 e8 hm5 hm6 x7 hb7
        refine MonoJ.normA ?_
        repeat' (first
          | (refine is_ucall ?_; first
            | refine st_callP (h := readyZ_spec _ _ _ m s1 s2 s3 s4 (hm.ext extA)) (k := ?_)
            | refine st_callP (h := awake_spec _ _ _) (k := ?_)
            | fail)
          | (refine is_umcall ?_; first
            | refine mj_callP (h := readyZ_spec _ _ _ m s1 s2 s3 s4 (hm.ext extA)) (k := ?_)
            | refine mj_callP (h := awake_spec _ _ _) (k := ?_)
            | fail)
          | ((fail_if_success (first | refine is_ucall ?_ | refine is_umcall ?_)); first | refine W1 ?_ | refine Wc ?_ | refine W2c ?_ ?_ | refine Wg ?_ | refine W2 ?_ ?_ | exact Wdead | refine Wlive (fun hb => ?_) | intro _ _ _ _ _ _ _ _ | refine We ?_ | refine Wx ?_ | refine Wt ?_ | refine Wm ?_ | refine W2m ?_ ?_ | refine Wl ?_)
          | fail)
        refine st_call rfl (BitsR E _ _ N m.reads.length hNl hb30) ?_
        rintro bv H9 g9 ⟨⟨hrb, e9⟩, rfl⟩
        have x9 : Ext H H9 := x8.trans e9
        replace hq := hq.ext e9
        clear e9 x8
        refine OpsJ.normA ?_
        repeat' (first
          | (refine is_ucall ?_; first
            | refine st_callP (h := readyZ_spec _ _ _ m s1 s2 s3 s4 (hm.ext extA)) (k := ?_)
            | refine st_callP (h := awake_spec _ _ _) (k := ?_)
            | fail)
          | (refine is_umcall ?_; first
            | refine mj_callP (h := readyZ_spec _ _ _ m s1 s2 s3 s4 (hm.ext extA)) (k := ?_)
            | refine mj_callP (h := awake_spec _ _ _) (k := ?_)
            | fail)
          | ((fail_if_success (first | refine is_ucall ?_ | refine is_umcall ?_)); first | refine W1 ?_ | refine Wc ?_ | refine W2c ?_ ?_ | refine Wg ?_ | refine W2 ?_ ?_ | exact Wdead | refine Wlive (fun hb => ?_) | intro _ _ _ _ _ _ _ _ | refine We ?_ | refine Wx ?_ | refine Wt ?_ | refine Wm ?_ | refine W2m ?_ ?_ | refine Wl ?_)
          | fail)
        refine st_callP (h := Shorter_spec E _ _ bv qv (bitsN N m.reads.length) (leaveS m) (hrb.ext extA) (hq.ext extA) hBn hLn) (k := ?_)
        rw [hshort]
        refine OpsJ.normA ?_
        repeat' (first
          | (refine is_ucall ?_; first
            | refine st_callP (h := readyZ_spec _ _ _ m s1 s2 s3 s4 (hm.ext extA)) (k := ?_)
            | refine st_callP (h := awake_spec _ _ _) (k := ?_)
            | fail)
          | (refine is_umcall ?_; first
            | refine mj_callP (h := readyZ_spec _ _ _ m s1 s2 s3 s4 (hm.ext extA)) (k := ?_)
            | refine mj_callP (h := awake_spec _ _ _) (k := ?_)
            | fail)
          | ((fail_if_success (first | refine is_ucall ?_ | refine is_umcall ?_)); first | refine W1 ?_ | refine Wc ?_ | refine W2c ?_ ?_ | refine Wg ?_ | refine W2 ?_ ?_ | exact Wdead | refine Wlive (fun hb => ?_) | intro _ _ _ _ _ _ _ _ | refine We ?_ | refine Wx ?_ | refine Wt ?_ | refine Wm ?_ | refine W2m ?_ ?_ | refine Wl ?_)
          | fail)
        exact ⟨rfl, rfl, rfl⟩
      | false =>
        refine mj_keeps (e := 11) rfl (by rw [← sub_not hNl] at hT2 hH; rw [hT2, hH]; rfl) hm6 ?_
        intro H8 sv2 e8
        have x8 : Ext H H8 := x7.trans (e5.trans (e6.trans e8))
        clear e5 e6 e8 hm5 hm6 x7 hb7
        refine MonoJ.normA ?_
        repeat' (first
          | (refine is_ucall ?_; first
            | refine st_callP (h := readyZ_spec _ _ _ m s1 s2 s3 s4 (hm.ext extA)) (k := ?_)
            | refine st_callP (h := awake_spec _ _ _) (k := ?_)
            | fail)
          | (refine is_umcall ?_; first
            | refine mj_callP (h := readyZ_spec _ _ _ m s1 s2 s3 s4 (hm.ext extA)) (k := ?_)
            | refine mj_callP (h := awake_spec _ _ _) (k := ?_)
            | fail)
          | ((fail_if_success (first | refine is_ucall ?_ | refine is_umcall ?_)); first | refine W1 ?_ | refine Wc ?_ | refine W2c ?_ ?_ | refine Wg ?_ | refine W2 ?_ ?_ | exact Wdead | refine Wlive (fun hb => ?_) | intro _ _ _ _ _ _ _ _ | refine We ?_ | refine Wx ?_ | refine Wt ?_ | refine Wm ?_ | refine W2m ?_ ?_ | refine Wl ?_)
          | fail)
        exact ⟨rfl, rfl, rfl⟩
end
end Go.Proofs.Ytjbiidlmpaibkaa
