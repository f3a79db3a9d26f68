import Derived.Test.YtehobnpoeodhkaaRy
namespace Go.Proofs.Ytehobnpoeodhkaa
open Go Go.Abs Go.Proofs
set_option maxHeartbeats 1600000
attribute [local irreducible] CallJ OpsJ WPJ CallV MonoJ SpecJ

/-! ### The reference's first wrong clip, and its smallest set -/
def firstR (m : HouseM) : Int := match firstA m with | some k => (k : Int) | none => -1
/-- the best of the first sets -/
def bestN (m : HouseM) : Nat → List Int
  | 0 => bitsN (2 ^ m.clips.length - 1) m.clips.length
  | j + 1 => if (shorterS (bitsN j m.clips.length) (bestN m j) && okWithout m (bitsN j m.clips.length)) = true then bitsN j m.clips.length else bestN m j
theorem full_ok {m : HouseM} (hG : Good m) : okWithout m (bitsN (2 ^ m.clips.length - 1) m.clips.length) = true := by
  unfold okWithout
  rw [← sub_not (by have := Nat.two_pow_pos m.clips.length; omega), Nat.xor_self]
  refine hasS_nil (sub_good hG _) ?_
  unfold subM clipsB
  simp
theorem best_inv {m : HouseM} (hG : Good m) : ∀ j, j ≤ 2 ^ m.clips.length → okWithout m (bestN m j) = true ∧ (∃ c, c < 2 ^ m.clips.length ∧ bitsN c m.clips.length = bestN m j) ∧ ∀ c < j, okWithout m (bitsN c m.clips.length) = true → shorterS (bitsN c m.clips.length) (bestN m j) = false
  | 0, _ => ⟨full_ok hG, ⟨_, by have := Nat.two_pow_pos m.clips.length; omega, rfl⟩, fun c hc => by omega⟩
  | j + 1, hj => by
    obtain ⟨h1, h2, h3⟩ := best_inv hG j (by omega)
    unfold bestN
    by_cases hq : (shorterS (bitsN j m.clips.length) (bestN m j) && okWithout m (bitsN j m.clips.length)) = true
    · rw [if_pos hq]
      rw [Bool.and_eq_true] at hq
      refine ⟨hq.2, ⟨j, by omega, rfl⟩, fun c hc hok => ?_⟩
      cases hx : shorterS (bitsN c m.clips.length) (bitsN j m.clips.length) with
      | false => rfl
      | true =>
        rcases Nat.lt_or_ge c j with hlt | hge
        · have h4 := h3 c hlt hok
          rw [shorter_trans hx hq.1] at h4; cases h4
        · obtain rfl : c = j := by omega
          rw [shorter_irr] at hx; cases hx
    · rw [if_neg hq]
      refine ⟨h1, h2, fun c hc hok => ?_⟩
      rcases Nat.lt_or_ge c j with hlt | hge
      · exact h3 c hlt hok
      · obtain rfl : c = j := by omega
        cases hx : shorterS (bitsN c m.clips.length) (bestN m c) with
        | false => rfl
        | true => exact absurd (by rw [hx, hok]; rfl) hq
theorem best_len {m : HouseM} (hG : Good m) {j : Nat} (hj : j ≤ 2 ^ m.clips.length) : (bestN m j).length ≤ 1000000 := by
  obtain ⟨_, ⟨c, _, e⟩, _⟩ := best_inv hG j hj
  have := bitsN_len c m.clips.length
  have := hG.n3
  rw [← e]; omega
theorem best_eq {m : HouseM} (hG : Good m) : bestN m (2 ^ m.clips.length) = leaveS m := by
  obtain ⟨h1, ⟨c, hc, e⟩, h3⟩ := best_inv hG _ (Nat.le_refl _)
  unfold leaveS
  cases hs : smallS m with
  | none =>
    unfold smallS at hs
    rw [List.find?_eq_none] at hs
    have h4 := hs _ (bits_in_upTo m (2 ^ m.clips.length - 1))
    rw [full_ok hG] at h4
    exact absurd rfl h4
  | some s =>
    obtain ⟨k1, ⟨d, hd, ed⟩, k3⟩ := small_least hs
    have h4 := h3 d hd (by rw [ed]; exact k1)
    have h5 := k3 c (by rw [e]; exact h1)
    rw [ed] at h4
    rw [e] at h5
    rcases shorter_total s (bestN m (2 ^ m.clips.length)) with h | h | h
    · rw [h4] at h; cases h
    · exact h.symm
    · rw [h5] at h; cases h
section
variable {γ : Type} (E : Env γ) (g : γ) (H : AHeap)
theorem BitsR (b n : Nat) (hb : b < 2 ^ n) (hn : n ≤ 30) : CallJ Try.prog E 76 [.int .i64 b] (fun v H' g' => (RdS H' v 1 (encI (bitsN b n)) ∧ Ext H H') ∧ g' = g) H g :=
  (Bits_spec E g H b n hb hn).mono (by rintro v H' g' ⟨rfl, rfl, rfl⟩; exact ⟨⟨sl_rd (enc := enc1) (w := 1) (fun _ => rfl) H _, ⟨_, rfl⟩⟩, rfl⟩)
theorem CanZ (m : HouseM) (s1 s2 s3 : Value) (z : Int) (b : Nat) (o : Bool) (hz : z = b) (ho : hasS (subM m b) = o) (hG : Good m) (hm : HouseIs H m s1 s2 s3) : CallJ Try.prog E 115 [hv m s1 s2 s3, .int .i64 z] (fun v H' g' => v = .bool o ∧ H' = H ∧ g' = g) H g := by
  rw [hz, ← ho]; exact Can_spec E g H m s1 s2 s3 b hm hG
theorem ShorterE (av bv : Value) (a b : List Int) (q : Bool) (hq : shorterS a b = q) (ha : RdS H av 1 (encI a)) (hbr : RdS H bv 1 (encI b)) (hal : a.length ≤ 1000000) (hbl : b.length ≤ 1000000) : CallJ Try.prog E 75 [av, bv] (fun v H' g' => v = .bool q ∧ H' = H ∧ g' = g) H g := by
  rw [← hq]; exact Shorter_spec E g H av bv a b ha hbr hal hbl
theorem FirstRef (m : HouseM) (s1 s2 s3 : Value) (hm : HouseIs H m s1 s2 s3) (hG : Good m) : CallJ Try.prog E 56 [hv m s1 s2 s3] (fun v H' g' => v = .int .i64 (firstR m) ∧ H' = H ∧ g' = g) H g := by
  have hok := hm.cells
  have hr3 := hm.clips
  have hn3 := hG.n3
  refine CallJ.tidy ?_
  unfold hv
  refine CallJ.enter Try.func56 rfl (by simp only [Try.ntmps56, List.length_cons, List.length_nil, Nat.zero_add, Nat.reduceSub, List.replicate_succ, List.replicate_zero, List.cons_append, List.nil_append]; rfl) ?_
  repeat' (first
    | (refine is_ucall ?_; first
      | refine st_callP (h := CanZ _ _ _ m s1 s2 s3 _ _ _ hzf hof hG (hm.ext extA)) (k := ?_)
      | fail)
    | (refine is_umcall ?_; first
      | refine mj_callP (h := CanZ _ _ _ m s1 s2 s3 _ _ _ hzf hof hG (hm.ext extA)) (k := ?_)
      | fail)
    | refine W1 ?_ | refine Wc ?_ | refine W2c ?_ ?_ | refine Wg ?_ | refine W2 ?_ ?_ | exact Wdead | refine Wlive (fun hb => ?_) | intro _ _ _ _ _ _ _ _ | refine We ?_ | refine Wx ?_ | refine Wt ?_ | refine Wm ?_ | refine W2m ?_ ?_ | refine Wl ?_
    | fail)
  refine WPJ.loopT m.clips.length [4, 5, 6, 7, 8, 11, 12, 13, 14, 15, 16, 17, 18, 9, 10] (fun j (_ : Unit) => [(3, .int .i64 j)])
    (fun j _ H1 g1 => g1 = g ∧ Ext H H1 ∧ H1[H.length]? = some (.row [.int .i64 m.hour, .int .i64 m.grace, s1, s2, s3] 1 true) ∧ ∀ k < j, hasS (upto m (k + 1)) = true) 0 () (Nat.zero_le _)
    (by intro p hp; simp at hp; rcases hp with rfl; rfl) ⟨rfl, extA, getA, by intro k hk; omega⟩ ?_
  rintro j _ H1 g1 hj ⟨rfl, he, hb0, hall⟩ hl0
  simp only [updT, maskT, List.set_cons_zero, List.set_cons_succ]
  rcases Nat.lt_or_ge j m.clips.length with hlt | hge
  · have huj : 0 ≤ IntKind.u64.wrap (j : Int) := by rw [wrap_u64 (by omega) (by omega)]; omega
    have hp1 : 1 ≤ 2 ^ (j + 1) ∧ 2 ^ (j + 1) ≤ 2 ^ 30 := ⟨Nat.two_pow_pos _, Nat.pow_le_pow_right (by decide) (by omega)⟩
    have hsh0 := shl_eq (a := 2) (j := j) (k := j + 1) (p := 2 ^ (j + 1)) rfl (by rw [Nat.pow_succ, Nat.mul_comm]) (by omega) (by omega)
    have hof0 := sub_low m (j + 1)
    obtain ⟨p, hp⟩ : ∃ p, p = 2 ^ (j + 1) := ⟨_, rfl⟩
    have hsh : IntKind.i64.wrap (2 * 2 ^ (min (IntKind.u64.wrap (j : Int)).toNat IntKind.i64.bits)) = (p : Int) := by
      rw [wrap_u64 (by omega) (by omega), hp]; exact hsh0
    rw [← hp] at hp1 hof0
    have hzf : IntKind.i64.wrap (2 * 2 ^ (min (IntKind.u64.wrap (j : Int)).toNat IntKind.i64.bits)) - 1 = ((p - 1 : Nat) : Int) := by rw [hsh]; omega
    obtain ⟨o, hof⟩ : ∃ o, hasS (subM m (p - 1)) = o := ⟨_, rfl⟩
    have hou : hasS (upto m (j + 1)) = o := by rw [← hof0]; exact hof
    clear hsh0
    cases o with
    | true =>
      repeat' (first
        | (refine is_ucall ?_; first
          | refine st_callP (h := CanZ _ _ _ m s1 s2 s3 _ _ _ hzf hof hG (hm.ext extA)) (k := ?_)
          | fail)
        | (refine is_umcall ?_; first
          | refine mj_callP (h := CanZ _ _ _ m s1 s2 s3 _ _ _ hzf hof hG (hm.ext extA)) (k := ?_)
          | fail)
        | refine W1 ?_ | refine Wc ?_ | refine W2c ?_ ?_ | refine Wg ?_ | refine W2 ?_ ?_ | exact Wdead | refine Wlive (fun hb => ?_) | intro _ _ _ _ _ _ _ _ | refine We ?_ | refine Wx ?_ | refine Wt ?_ | refine Wm ?_ | refine W2m ?_ ?_ | refine Wl ?_
        | fail)
      exact ⟨(), hlt, (by repeat' (first | exact Weak.nil | refine Weak.wild ?_ | refine Weak.same ?_ | refine Weak.intEq (by first | omega | (simp; done) | (push_cast; omega)) ?_)), rfl, extA, getA, fun k hk => by
        rcases Nat.lt_or_ge k j with h | h
        · exact hall k h
        · obtain rfl : k = j := by omega
          exact hou⟩
    | false =>
      repeat' (first
        | (refine is_ucall ?_; first
          | refine st_callP (h := CanZ _ _ _ m s1 s2 s3 _ _ _ hzf hof hG (hm.ext extA)) (k := ?_)
          | fail)
        | (refine is_umcall ?_; first
          | refine mj_callP (h := CanZ _ _ _ m s1 s2 s3 _ _ _ hzf hof hG (hm.ext extA)) (k := ?_)
          | fail)
        | refine W1 ?_ | refine Wc ?_ | refine W2c ?_ ?_ | refine Wg ?_ | refine W2 ?_ ?_ | exact Wdead | refine Wlive (fun hb => ?_) | intro _ _ _ _ _ _ _ _ | refine We ?_ | refine Wx ?_ | refine Wt ?_ | refine Wm ?_ | refine W2m ?_ ?_ | refine Wl ?_
        | fail)
      have e : firstA m = some j := firstS_some hlt (by simp [hou]) fun k hk => by simp [hall k hk]
      refine ⟨?_, rfl, rfl⟩
      simp [firstR, e]
  · obtain rfl : j = m.clips.length := by omega
    have e : firstA m = none := firstS_none fun k hk => by simp [hall k hk]
    repeat' (first
      | (refine is_ucall ?_; first
        | refine st_callP (h := CanZ _ _ _ m s1 s2 s3 _ _ _ hzf hof hG (hm.ext extA)) (k := ?_)
        | fail)
      | (refine is_umcall ?_; first
        | refine mj_callP (h := CanZ _ _ _ m s1 s2 s3 _ _ _ hzf hof hG (hm.ext extA)) (k := ?_)
        | fail)
      | refine W1 ?_ | refine Wc ?_ | refine W2c ?_ ?_ | refine Wg ?_ | refine W2 ?_ ?_ | exact Wdead | refine Wlive (fun hb => ?_) | intro _ _ _ _ _ _ _ _ | refine We ?_ | refine Wx ?_ | refine Wt ?_ | refine Wm ?_ | refine W2m ?_ ?_ | refine Wl ?_
      | fail)
    refine ⟨?_, rfl, rfl⟩
    simp [firstR, e]
theorem LeaveRef (m : HouseM) (s1 s2 s3 : Value) (hm : HouseIs H m s1 s2 s3) (hG : Good m) : CallJ Try.prog E 55 [hv m s1 s2 s3] (fun v H' g' => (RdS H' v 1 (encI (leaveS m)) ∧ Ext H H') ∧ g' = g) H g := by
  have hok := hm.cells
  have hn3 := hG.n3
  have hb30 : m.clips.length ≤ 30 := by omega
  have hpow : 1 ≤ 2 ^ m.clips.length ∧ 2 ^ m.clips.length ≤ 2 ^ 30 := ⟨Nat.two_pow_pos _, Nat.pow_le_pow_right (by decide) (by omega)⟩
  unfold hv
  refine CallJ.enter Try.func55 rfl (by simp only [Try.ntmps55, List.length_cons, List.length_nil, Nat.zero_add, Nat.reduceSub, List.replicate_succ, List.replicate_zero, List.cons_append, List.nil_append]; rfl) ?_
  repeat' (first
    | (refine is_ucall ?_; first
      | refine st_callP (h := Full_spec _ _ _ m s1 s2 s3 (hm.ext extA) hb30) (k := ?_)
      | refine st_callP (h := ShorterE _ _ _ x v _ _ _ hqq (hrx.ext extA) (hrv.ext extA) hxl hvl) (k := ?_)
      | refine st_callP (h := CanZ _ _ _ m s1 s2 s3 _ _ _ hzz hoo hG (hm.ext extA)) (k := ?_)
      | fail)
    | (refine is_umcall ?_; first
      | refine mj_callP (h := Full_spec _ _ _ m s1 s2 s3 (hm.ext extA) hb30) (k := ?_)
      | refine mj_callP (h := ShorterE _ _ _ x v _ _ _ hqq (hrx.ext extA) (hrv.ext extA) hxl hvl) (k := ?_)
      | refine mj_callP (h := CanZ _ _ _ m s1 s2 s3 _ _ _ hzz hoo hG (hm.ext extA)) (k := ?_)
      | fail)
    | refine W1 ?_ | refine Wc ?_ | refine W2c ?_ ?_ | refine Wg ?_ | refine W2 ?_ ?_ | exact Wdead | refine Wlive (fun hb => ?_) | intro _ _ _ _ _ _ _ _ | refine We ?_ | refine Wx ?_ | refine Wt ?_ | refine Wm ?_ | refine W2m ?_ ?_ | refine Wl ?_
    | fail)
  refine st_call rfl (BitsR E _ _ (2 ^ m.clips.length - 1) m.clips.length (by omega) hb30) ?_
  rintro v0 H0 g0 ⟨⟨hr0, e0⟩, rfl⟩
  have x0 : Ext H H0 := Ext.trans extA e0
  have hbx : H0[H.length]? = some (.row [.int .i64 m.hour, .int .i64 m.grace, s1, s2, s3] 1 true) := e0.get getA
  refine OpsJ.normA ?_
  repeat' (first
    | (refine is_ucall ?_; first
      | refine st_callP (h := Full_spec _ _ _ m s1 s2 s3 (hm.ext extA) hb30) (k := ?_)
      | refine st_callP (h := ShorterE _ _ _ x v _ _ _ hqq (hrx.ext extA) (hrv.ext extA) hxl hvl) (k := ?_)
      | refine st_callP (h := CanZ _ _ _ m s1 s2 s3 _ _ _ hzz hoo hG (hm.ext extA)) (k := ?_)
      | fail)
    | (refine is_umcall ?_; first
      | refine mj_callP (h := Full_spec _ _ _ m s1 s2 s3 (hm.ext extA) hb30) (k := ?_)
      | refine mj_callP (h := ShorterE _ _ _ x v _ _ _ hqq (hrx.ext extA) (hrv.ext extA) hxl hvl) (k := ?_)
      | refine mj_callP (h := CanZ _ _ _ m s1 s2 s3 _ _ _ hzz hoo hG (hm.ext extA)) (k := ?_)
      | fail)
    | refine W1 ?_ | refine Wc ?_ | refine W2c ?_ ?_ | refine Wg ?_ | refine W2 ?_ ?_ | exact Wdead | refine Wlive (fun hb => ?_) | intro _ _ _ _ _ _ _ _ | refine We ?_ | refine Wx ?_ | refine Wt ?_ | refine Wm ?_ | refine W2m ?_ ?_ | refine Wl ?_
    | fail)
  refine WPJ.loopT (2 ^ m.clips.length) [9, 10, 11, 12, 15, 16, 5, 17, 18, 19, 20, 21, 22, 23, 24, 25, 26, 27, 28, 13, 14] (fun j (v : Value) => [(4, .int .i64 j), (3, v)])
    (fun j v H1 g1 => g1 = g0 ∧ Ext H H1 ∧ H1[H.length]? = some (.row [.int .i64 m.hour, .int .i64 m.grace, s1, s2, s3] 1 true) ∧ RdS H1 v 1 (encI (bestN m j))) 0 v0 (Nat.zero_le _)
    (by intro p hp; simp at hp; rcases hp with rfl | rfl <;> rfl) ⟨rfl, x0, hbx, hr0⟩ ?_
  clear hbx x0 e0 hr0
  rintro j v H1 g1 hj ⟨rfl, he, hb0, hrv⟩ hl0
  simp only [updT, maskT, List.set_cons_zero, List.set_cons_succ]
  have hvl := best_len hG hj
  rcases Nat.lt_or_ge j (2 ^ m.clips.length) with hlt | hge
  · skip
    repeat' (first
      | (refine is_ucall ?_; first
        | refine st_callP (h := Full_spec _ _ _ m s1 s2 s3 (hm.ext extA) hb30) (k := ?_)
        | refine st_callP (h := ShorterE _ _ _ x v _ _ _ hqq (hrx.ext extA) (hrv.ext extA) hxl hvl) (k := ?_)
        | refine st_callP (h := CanZ _ _ _ m s1 s2 s3 _ _ _ hzz hoo hG (hm.ext extA)) (k := ?_)
        | fail)
      | (refine is_umcall ?_; first
        | refine mj_callP (h := Full_spec _ _ _ m s1 s2 s3 (hm.ext extA) hb30) (k := ?_)
        | refine mj_callP (h := ShorterE _ _ _ x v _ _ _ hqq (hrx.ext extA) (hrv.ext extA) hxl hvl) (k := ?_)
        | refine mj_callP (h := CanZ _ _ _ m s1 s2 s3 _ _ _ hzz hoo hG (hm.ext extA)) (k := ?_)
        | fail)
      | refine W1 ?_ | refine Wc ?_ | refine W2c ?_ ?_ | refine Wg ?_ | refine W2 ?_ ?_ | exact Wdead | refine Wlive (fun hb => ?_) | intro _ _ _ _ _ _ _ _ | refine We ?_ | refine Wx ?_ | refine Wt ?_ | refine Wm ?_ | refine W2m ?_ ?_ | refine Wl ?_
      | fail)
    refine st_call rfl (BitsR E _ _ j m.clips.length hlt hb30) ?_
    rintro x H2 g2 ⟨⟨hrx, e2⟩, rfl⟩
    have he2 : Ext H H2 := he.trans e2
    have hb2 := e2.get hb0
    replace hrv := hrv.ext e2
    clear e2 he hb0
    have hxl : (bitsN j m.clips.length).length ≤ 1000000 := by have := bitsN_len j m.clips.length; omega
    have hzz := Option.some.inj (and_not hb30 hlt)
    have hso := sub_not hlt
    obtain ⟨q, hqq⟩ : ∃ q, shorterS (bitsN j m.clips.length) (bestN m j) = q := ⟨_, rfl⟩
    obtain ⟨o, hoo⟩ : ∃ o, hasS (subM m ((2 ^ m.clips.length - 1) ^^^ j)) = o := ⟨_, rfl⟩
    have hok2 : okWithout m (bitsN j m.clips.length) = o := by unfold okWithout; rw [← hso]; exact hoo
    have hstep : bestN m (j + 1) = if (q && o) = true then bitsN j m.clips.length else bestN m j := by rw [← hqq, ← hok2]; rfl
    clear hso hok2
    refine OpsJ.normA ?_
    cases q with
    | false =>
      repeat' (first
        | (refine is_ucall ?_; first
          | refine st_callP (h := Full_spec _ _ _ m s1 s2 s3 (hm.ext extA) hb30) (k := ?_)
          | refine st_callP (h := ShorterE _ _ _ x v _ _ _ hqq (hrx.ext extA) (hrv.ext extA) hxl hvl) (k := ?_)
          | refine st_callP (h := CanZ _ _ _ m s1 s2 s3 _ _ _ hzz hoo hG (hm.ext extA)) (k := ?_)
          | fail)
        | (refine is_umcall ?_; first
          | refine mj_callP (h := Full_spec _ _ _ m s1 s2 s3 (hm.ext extA) hb30) (k := ?_)
          | refine mj_callP (h := ShorterE _ _ _ x v _ _ _ hqq (hrx.ext extA) (hrv.ext extA) hxl hvl) (k := ?_)
          | refine mj_callP (h := CanZ _ _ _ m s1 s2 s3 _ _ _ hzz hoo hG (hm.ext extA)) (k := ?_)
          | fail)
        | refine W1 ?_ | refine Wc ?_ | refine W2c ?_ ?_ | refine Wg ?_ | refine W2 ?_ ?_ | exact Wdead | refine Wlive (fun hb => ?_) | intro _ _ _ _ _ _ _ _ | refine We ?_ | refine Wx ?_ | refine Wt ?_ | refine Wm ?_ | refine W2m ?_ ?_ | refine Wl ?_
        | fail)
      refine WPJ.draw 11 mixed (by kernel_rfl) (by kernel_rfl) (by kernel_rfl) (by decide) ?_
      refine MonoJ.normA ?_
      repeat' (first
        | (refine is_ucall ?_; first
          | refine st_callP (h := Full_spec _ _ _ m s1 s2 s3 (hm.ext extA) hb30) (k := ?_)
          | refine st_callP (h := ShorterE _ _ _ x v _ _ _ hqq (hrx.ext extA) (hrv.ext extA) hxl hvl) (k := ?_)
          | refine st_callP (h := CanZ _ _ _ m s1 s2 s3 _ _ _ hzz hoo hG (hm.ext extA)) (k := ?_)
          | fail)
        | (refine is_umcall ?_; first
          | refine mj_callP (h := Full_spec _ _ _ m s1 s2 s3 (hm.ext extA) hb30) (k := ?_)
          | refine mj_callP (h := ShorterE _ _ _ x v _ _ _ hqq (hrx.ext extA) (hrv.ext extA) hxl hvl) (k := ?_)
          | refine mj_callP (h := CanZ _ _ _ m s1 s2 s3 _ _ _ hzz hoo hG (hm.ext extA)) (k := ?_)
          | fail)
        | refine W1 ?_ | refine Wc ?_ | refine W2c ?_ ?_ | refine Wg ?_ | refine W2 ?_ ?_ | exact Wdead | refine Wlive (fun hb => ?_) | intro _ _ _ _ _ _ _ _ | refine We ?_ | refine Wx ?_ | refine Wt ?_ | refine Wm ?_ | refine W2m ?_ ?_ | refine Wl ?_
        | fail)
      exact ⟨v, hlt, (by repeat' (first | exact Weak.nil | refine Weak.wild ?_ | refine Weak.same ?_ | refine Weak.intEq (by first | omega | (simp; done) | (push_cast; omega)) ?_)), rfl, he2, hb2, by rw [hstep]; exact hrv⟩
    | true =>
      cases o with
      | false =>
        repeat' (first
          | (refine is_ucall ?_; first
            | refine st_callP (h := Full_spec _ _ _ m s1 s2 s3 (hm.ext extA) hb30) (k := ?_)
            | refine st_callP (h := ShorterE _ _ _ x v _ _ _ hqq (hrx.ext extA) (hrv.ext extA) hxl hvl) (k := ?_)
            | refine st_callP (h := CanZ _ _ _ m s1 s2 s3 _ _ _ hzz hoo hG (hm.ext extA)) (k := ?_)
            | fail)
          | (refine is_umcall ?_; first
            | refine mj_callP (h := Full_spec _ _ _ m s1 s2 s3 (hm.ext extA) hb30) (k := ?_)
            | refine mj_callP (h := ShorterE _ _ _ x v _ _ _ hqq (hrx.ext extA) (hrv.ext extA) hxl hvl) (k := ?_)
            | refine mj_callP (h := CanZ _ _ _ m s1 s2 s3 _ _ _ hzz hoo hG (hm.ext extA)) (k := ?_)
            | fail)
          | refine W1 ?_ | refine Wc ?_ | refine W2c ?_ ?_ | refine Wg ?_ | refine W2 ?_ ?_ | exact Wdead | refine Wlive (fun hb => ?_) | intro _ _ _ _ _ _ _ _ | refine We ?_ | refine Wx ?_ | refine Wt ?_ | refine Wm ?_ | refine W2m ?_ ?_ | refine Wl ?_
          | fail)
        refine WPJ.draw 11 mixed (by kernel_rfl) (by kernel_rfl) (by kernel_rfl) (by decide) ?_
        refine MonoJ.normA ?_
        repeat' (first
          | (refine is_ucall ?_; first
            | refine st_callP (h := Full_spec _ _ _ m s1 s2 s3 (hm.ext extA) hb30) (k := ?_)
            | refine st_callP (h := ShorterE _ _ _ x v _ _ _ hqq (hrx.ext extA) (hrv.ext extA) hxl hvl) (k := ?_)
            | refine st_callP (h := CanZ _ _ _ m s1 s2 s3 _ _ _ hzz hoo hG (hm.ext extA)) (k := ?_)
            | fail)
          | (refine is_umcall ?_; first
            | refine mj_callP (h := Full_spec _ _ _ m s1 s2 s3 (hm.ext extA) hb30) (k := ?_)
            | refine mj_callP (h := ShorterE _ _ _ x v _ _ _ hqq (hrx.ext extA) (hrv.ext extA) hxl hvl) (k := ?_)
            | refine mj_callP (h := CanZ _ _ _ m s1 s2 s3 _ _ _ hzz hoo hG (hm.ext extA)) (k := ?_)
            | fail)
          | refine W1 ?_ | refine Wc ?_ | refine W2c ?_ ?_ | refine Wg ?_ | refine W2 ?_ ?_ | exact Wdead | refine Wlive (fun hb => ?_) | intro _ _ _ _ _ _ _ _ | refine We ?_ | refine Wx ?_ | refine Wt ?_ | refine Wm ?_ | refine W2m ?_ ?_ | refine Wl ?_
          | fail)
        exact ⟨v, hlt, (by repeat' (first | exact Weak.nil | refine Weak.wild ?_ | refine Weak.same ?_ | refine Weak.intEq (by first | omega | (simp; done) | (push_cast; omega)) ?_)), rfl, he2, hb2, by rw [hstep]; exact hrv⟩
      | true =>
        repeat' (first
          | (refine is_ucall ?_; first
            | refine st_callP (h := Full_spec _ _ _ m s1 s2 s3 (hm.ext extA) hb30) (k := ?_)
            | refine st_callP (h := ShorterE _ _ _ x v _ _ _ hqq (hrx.ext extA) (hrv.ext extA) hxl hvl) (k := ?_)
            | refine st_callP (h := CanZ _ _ _ m s1 s2 s3 _ _ _ hzz hoo hG (hm.ext extA)) (k := ?_)
            | fail)
          | (refine is_umcall ?_; first
            | refine mj_callP (h := Full_spec _ _ _ m s1 s2 s3 (hm.ext extA) hb30) (k := ?_)
            | refine mj_callP (h := ShorterE _ _ _ x v _ _ _ hqq (hrx.ext extA) (hrv.ext extA) hxl hvl) (k := ?_)
            | refine mj_callP (h := CanZ _ _ _ m s1 s2 s3 _ _ _ hzz hoo hG (hm.ext extA)) (k := ?_)
            | fail)
          | refine W1 ?_ | refine Wc ?_ | refine W2c ?_ ?_ | refine Wg ?_ | refine W2 ?_ ?_ | exact Wdead | refine Wlive (fun hb => ?_) | intro _ _ _ _ _ _ _ _ | refine We ?_ | refine Wx ?_ | refine Wt ?_ | refine Wm ?_ | refine W2m ?_ ?_ | refine Wl ?_
          | fail)
        refine WPJ.draw 11 mixed (by kernel_rfl) (by kernel_rfl) (by kernel_rfl) (by decide) ?_
        refine MonoJ.normA ?_
        repeat' (first
          | (refine is_ucall ?_; first
            | refine st_callP (h := Full_spec _ _ _ m s1 s2 s3 (hm.ext extA) hb30) (k := ?_)
            | refine st_callP (h := ShorterE _ _ _ x v _ _ _ hqq (hrx.ext extA) (hrv.ext extA) hxl hvl) (k := ?_)
            | refine st_callP (h := CanZ _ _ _ m s1 s2 s3 _ _ _ hzz hoo hG (hm.ext extA)) (k := ?_)
            | fail)
          | (refine is_umcall ?_; first
            | refine mj_callP (h := Full_spec _ _ _ m s1 s2 s3 (hm.ext extA) hb30) (k := ?_)
            | refine mj_callP (h := ShorterE _ _ _ x v _ _ _ hqq (hrx.ext extA) (hrv.ext extA) hxl hvl) (k := ?_)
            | refine mj_callP (h := CanZ _ _ _ m s1 s2 s3 _ _ _ hzz hoo hG (hm.ext extA)) (k := ?_)
            | fail)
          | refine W1 ?_ | refine Wc ?_ | refine W2c ?_ ?_ | refine Wg ?_ | refine W2 ?_ ?_ | exact Wdead | refine Wlive (fun hb => ?_) | intro _ _ _ _ _ _ _ _ | refine We ?_ | refine Wx ?_ | refine Wt ?_ | refine Wm ?_ | refine W2m ?_ ?_ | refine Wl ?_
          | fail)
        exact ⟨x, hlt, (by repeat' (first | exact Weak.nil | refine Weak.wild ?_ | refine Weak.same ?_ | refine Weak.intEq (by first | omega | (simp; done) | (push_cast; omega)) ?_)), rfl, he2, hb2, by rw [hstep]; exact hrx⟩
  · obtain rfl : j = 2 ^ m.clips.length := by omega
    rw [best_eq hG] at hrv
    repeat' (first
      | (refine is_ucall ?_; first
        | refine st_callP (h := Full_spec _ _ _ m s1 s2 s3 (hm.ext extA) hb30) (k := ?_)
        | refine st_callP (h := ShorterE _ _ _ x v _ _ _ hqq (hrx.ext extA) (hrv.ext extA) hxl hvl) (k := ?_)
        | refine st_callP (h := CanZ _ _ _ m s1 s2 s3 _ _ _ hzz hoo hG (hm.ext extA)) (k := ?_)
        | fail)
      | (refine is_umcall ?_; first
        | refine mj_callP (h := Full_spec _ _ _ m s1 s2 s3 (hm.ext extA) hb30) (k := ?_)
        | refine mj_callP (h := ShorterE _ _ _ x v _ _ _ hqq (hrx.ext extA) (hrv.ext extA) hxl hvl) (k := ?_)
        | refine mj_callP (h := CanZ _ _ _ m s1 s2 s3 _ _ _ hzz hoo hG (hm.ext extA)) (k := ?_)
        | fail)
      | refine W1 ?_ | refine Wc ?_ | refine W2c ?_ ?_ | refine Wg ?_ | refine W2 ?_ ?_ | exact Wdead | refine Wlive (fun hb => ?_) | intro _ _ _ _ _ _ _ _ | refine We ?_ | refine Wx ?_ | refine Wt ?_ | refine Wm ?_ | refine W2m ?_ ?_ | refine Wl ?_
      | fail)
    exact ⟨⟨hrv, he⟩, rfl⟩
end
end Go.Proofs.Ytehobnpoeodhkaa
