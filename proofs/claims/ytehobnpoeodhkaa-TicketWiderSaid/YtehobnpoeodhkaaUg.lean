import Derived.Test.YtehobnpoeodhkaaUb
import Derived.Test.YtehobnpoeodhkaaUf
import Derived.Test.YtehobnpoeodhkaaTw
namespace Go.Proofs.Ytehobnpoeodhkaa
open Go Go.Abs Go.Proofs
set_option maxHeartbeats 8000000
set_option maxRecDepth 20000
attribute [local irreducible] CallJ OpsJ WPJ CallV MonoJ SpecJ

theorem flat_get1 : ∀ (l : List (Int × Int)) {k : Nat} {a b : Int}, l[k]? = some (a, b) → (l.map encR).flatten[k * 2]? = some (.int .i64 a)
  | x :: l, 0, a, b, h => by
    simp at h; subst h; simp [encR]
  | x :: l, k + 1, a, b, h => by
    have ih := flat_get1 l (k := k) (a := a) (b := b) (by simpa using h)
    rw [show (k + 1) * 2 = k * 2 + 2 by omega]
    simpa [encR] using ih
theorem flat_set1 : ∀ (l : List (Int × Int)) {k : Nat} {a b c d : Int}, l[k]? = some (a, b) → ((l.map encR).flatten.set (k * 2) (.int .i64 c)).set (k * 2 + 1) (.int .i64 d) = ((l.set k (c, d)).map encR).flatten
  | x :: l, 0, a, b, c, d, h => by
    simp at h; subst h; simp [encR]
  | x :: l, k + 1, a, b, c, d, h => by
    have ih := flat_set1 l (k := k) (a := a) (b := b) (c := c) (d := d) (by simpa using h)
    rw [show (k + 1) * 2 + 1 = (k * 2 + 1) + 2 by omega, show (k + 1) * 2 = k * 2 + 2 by omega]
    simp only [List.map_cons, List.flatten_cons, List.set_cons_succ, encR, List.cons_append, List.nil_append] at ih ⊢
    rw [ih]
theorem splice1 {l : List Value} {k : Nat} {v : Value} (h : k < l.length) : splice l k [v] = l.set k v := by
  unfold splice
  rw [List.set_eq_take_append_cons_drop, if_pos h]
  simp
theorem house_yw {H : AHeap} {m x : HouseM} {s1 s2 s3 : Value} {j c : Nat} (hI : HouseIs H m s1 s2 s3) (hl : Wide m x) (hj : H[j]? = some (.row (x.clocks.map encR).flatten 2 true)) : HouseY H x (.slice (some ⟨j, 0, none⟩) m.clocks.length c) s2 s3 := by
  have hok := hI.ok
  refine ⟨by rw [← hl.len]; exact rowY encR_len hj, by rw [hl.tickets]; exact hI.tickets, by rw [hl.clips]; exact hI.clips, ?_, by rw [hl.len]; exact hI.n1, by rw [hl.tickets]; exact hI.n2, by rw [hl.clips]; exact hI.n3⟩
  simp [cellOk] at hok ⊢
  exact hok.2
section
variable {γ : Type} (E : Env γ) (g : γ) (H : AHeap)
theorem wider_law (m : HouseM) (s1 s2 s3 : Value) (a b : Int) (hm : HouseW H m s1 s2 s3) (ha : 0 ≤ a ∧ a ≤ 255) (hb8 : 0 ≤ b ∧ b ≤ 255) : CallJ Try.prog E 16 [hv m s1 s2 s3, .int .u8 a, .int .u8 b] (fun v H' g' => v = .bool true ∧ H' = H ∧ g' = g) H g := by
  have hok : [Value.int .i64 m.hour, Value.int .i64 m.grace, s1, s2, s3].all cellOk = true := by have := hm.ok; simp [cellOk] at this ⊢; exact this
  have hwa : IntKind.i64.wrap a = a := wrap64_eq ⟨by omega, by omega⟩
  have hwb : IntKind.i64.wrap b = b := wrap64_eq ⟨by omega, by omega⟩
  refine CallJ.tidy ?_
  unfold hv
  refine CallJ.enter Try.func16 rfl (by simp only [Try.ntmps16, List.length_cons, List.length_nil, Nat.zero_add, Nat.reduceAdd, Nat.reduceSub, List.replicate_succ, List.replicate_zero, List.cons_append, List.nil_append]; rfl) ?_
  repeat' (first
    | (refine is_ucall ?_; first
      | refine st_callP (h := readyW_spec _ _ _ m s1 s2 s3 (hm.ext extA)) (k := ?_)
      | refine st_callP (h := awake_spec _ _ _) (k := ?_)
      | fail)
    | (refine is_umcall ?_; first
      | refine mj_callP (h := readyW_spec _ _ _ m s1 s2 s3 (hm.ext extA)) (k := ?_)
      | refine mj_callP (h := awake_spec _ _ _) (k := ?_)
      | fail)
    | refine W1 ?_ | refine Wc ?_ | refine W2c ?_ ?_ | refine Wg ?_ | refine W2 ?_ ?_ | exact Wdead | refine Wlive (fun hb => ?_) | intro _ _ _ _ _ _ _ _ | refine We ?_ | refine Wx ?_ | refine Wt ?_ | refine Wm ?_ | refine W2m ?_ ?_ | refine Wl ?_
    | fail)
  · have hr : thinS m = true ∧ checkS m = 0 := by assumption
    have hI := hm.is hr.1
    have hsc := hI.clocks
    have hG := good_of hr.2
    have hn1 := hG.n1
    repeat' (first
      | (refine is_ucall ?_; first
        | refine st_callP (h := readyW_spec _ _ _ m s1 s2 s3 (hm.ext extA)) (k := ?_)
        | refine st_callP (h := awake_spec _ _ _) (k := ?_)
        | fail)
      | (refine is_umcall ?_; first
        | refine mj_callP (h := readyW_spec _ _ _ m s1 s2 s3 (hm.ext extA)) (k := ?_)
        | refine mj_callP (h := awake_spec _ _ _) (k := ?_)
        | fail)
      | refine W1 ?_ | refine Wc ?_ | refine W2c ?_ ?_ | refine Wg ?_ | refine W2 ?_ ?_ | exact Wdead | refine Wlive (fun hb => ?_) | intro _ _ _ _ _ _ _ _ | refine We ?_ | refine Wx ?_ | refine Wt ?_ | refine Wm ?_ | refine W2m ?_ ?_ | refine Wl ?_
      | fail)
    · exact ⟨rfl, rfl, rfl⟩
    have hl0 : 0 < m.clocks.length := by omega
    refine st_appendCopyW (l := m.clocks) (enc := encR) (w := 2) (hsc.ext extA) (Ext.refl _) rfl (fun _ => rfl) rfl ?_ rfl (by omega) (by decide) ?_
    · exact get_new rfl
    intro j c H2 hj hrow hE hK hL
    have e0 := hK H.length _ (by omega) (show (H ++ [AObj.row [.int .i64 m.hour, .int .i64 m.grace, s1, s2, s3] 1 true, .row [.int .i64 m.hour, .int .i64 m.grace, s1, s2, s3] 1 true, .row [] 2 true])[H.length]? = _ from getA)
    have e1 := hK (H.length + 1) _ (by omega) (show (H ++ [AObj.row [.int .i64 m.hour, .int .i64 m.grace, s1, s2, s3] 1 true, .row [.int .i64 m.hour, .int .i64 m.grace, s1, s2, s3] 1 true, .row [] 2 true])[H.length + 1]? = _ from getA)
    have x2 : Ext H H2 := hE H extA (by omega)
    have hjl := (List.getElem?_eq_some_iff.1 hrow).1
    simp only [List.length_append, List.length_cons, List.length_nil] at hL
    clear hE hK
    have hkb : 0 ≤ (IntKind.i64.wrap a).tmod m.clocks.length ∧ (IntKind.i64.wrap a).tmod m.clocks.length < m.clocks.length := by
      rw [hwa, Int.tmod_eq_emod_of_nonneg ha.1]
      exact ⟨Int.emod_nonneg _ (by omega), Int.emod_lt_of_pos _ (by omega)⟩
    obtain ⟨k, hk, hkl⟩ : ∃ k : Nat, (IntKind.i64.wrap a).tmod m.clocks.length = k ∧ k < m.clocks.length := ⟨_, (Int.toNat_of_nonneg hkb.1).symm, by omega⟩
    have hke : IntKind.i64.wrap a % (m.clocks.length : Int) = k := by rw [← hk, hwa, Int.tmod_eq_emod_of_nonneg ha.1]
    have hkb2 : 0 ≤ IntKind.i64.wrap a % (m.clocks.length : Int) ∧ IntKind.i64.wrap a % (m.clocks.length : Int) < m.clocks.length := by rw [hke]; omega
    refine OpsJ.normA ?_
    repeat' (first
      | (refine is_ucall ?_; first
        | refine st_callP (h := readyW_spec _ _ _ m s1 s2 s3 (hm.ext extA)) (k := ?_)
        | refine st_callP (h := awake_spec _ _ _) (k := ?_)
        | fail)
      | (refine is_umcall ?_; first
        | refine mj_callP (h := readyW_spec _ _ _ m s1 s2 s3 (hm.ext extA)) (k := ?_)
        | refine mj_callP (h := awake_spec _ _ _) (k := ?_)
        | fail)
      | refine W1 ?_ | refine Wc ?_ | refine W2c ?_ ?_ | refine Wg ?_ | refine W2 ?_ ?_ | exact Wdead | refine Wlive (fun hb => ?_) | intro _ _ _ _ _ _ _ _ | refine We ?_ | refine Wx ?_ | refine Wt ?_ | refine Wm ?_ | refine W2m ?_ ?_ | refine Wl ?_
      | fail)
    refine WPJ.draw 10 mixed (by kernel_rfl) (by kernel_rfl) (by kernel_rfl) (by decide) ?_
    refine MonoJ.normA ?_
    repeat' (first
      | (refine is_ucall ?_; first
        | refine st_callP (h := readyW_spec _ _ _ m s1 s2 s3 (hm.ext extA)) (k := ?_)
        | refine st_callP (h := awake_spec _ _ _) (k := ?_)
        | fail)
      | (refine is_umcall ?_; first
        | refine mj_callP (h := readyW_spec _ _ _ m s1 s2 s3 (hm.ext extA)) (k := ?_)
        | refine mj_callP (h := awake_spec _ _ _) (k := ?_)
        | fail)
      | refine W1 ?_ | refine Wc ?_ | refine W2c ?_ ?_ | refine Wg ?_ | refine W2 ?_ ?_ | exact Wdead | refine Wlive (fun hb => ?_) | intro _ _ _ _ _ _ _ _ | refine We ?_ | refine Wx ?_ | refine Wt ?_ | refine Wm ?_ | refine W2m ?_ ?_ | refine Wl ?_
      | fail)
    have hrk : m.clocks[k]? = some (m.clocks[k].1, m.clocks[k].2) := by rw [List.getElem?_eq_getElem hkl]
    have hc0 := flat_get1 _ hrk
    have hc1 := flat_get2 _ hrk
    have hfl : (m.clocks.map encR).flatten.length = m.clocks.length * 2 := flatten_lenG encR_len _
    have hset := fun p q => flat_set1 (c := p) (d := q) _ hrk
    have hcr := hG.clock _ (List.getElem_mem hkl)
    have hwd := fun (p q : Int) h1 h2 => wide_is (m := m) (k := k) (r := (p, q)) hkl ⟨h1, h2⟩
    have hrf := rng_flat m.clocks
    generalize hfr : (m.clocks.map encR).flatten = row at *
    rw [hk, show ((k : Int)).toNat = k from rfl]
    obtain ⟨lo, hlo⟩ : ∃ lo, max (-30) (m.clocks[k].1 - b % 2) = lo := ⟨_, rfl⟩
    obtain ⟨hi, hhi⟩ : ∃ hi, min 30 (m.clocks[k].2 + b / 2 % 3) = hi := ⟨_, rfl⟩
    generalize m.clocks[k] = r at *
    have hflat : flatRow (AObj.row (row.set (k * 2) (.int .i64 lo)) 2 true) = true := by
      show (row.set (k * 2) (.int .i64 lo)).all flat1 = true
      rw [List.all_eq_true] at hrf ⊢
      intro u hu
      rcases List.mem_or_eq_of_mem_set hu with h | rfl
      · exact hrf u h
      · rfl
    have hX : (if IntKind.i64.wrap (r.1 - (IntKind.i64.wrap b).tmod 2) > -30 then IntKind.i64.wrap (r.1 - (IntKind.i64.wrap b).tmod 2) else -30) = lo := by
      rw [hwb, Int.tmod_eq_emod_of_nonneg hb8.1, show IntKind.i64.wrap (r.1 - b % 2) = r.1 - b % 2 from wrap64_eq ⟨by omega, by omega⟩, ← hlo]
      split <;> omega
    have hY : (if r.2 + IntKind.i64.wrap b / 2 % 3 < 30 then r.2 + IntKind.i64.wrap b / 2 % 3 else 30) = hi := by
      rw [hwb, ← hhi]
      split <;> omega
    refine WPJ.drawS 24 23 j (.row row 2 true) (.row (row.set (k * 2) (.int .i64 lo)) 2 true) mixed (by kernel_rfl) (by kernel_rfl) (by kernel_rfl) (by decide) (by decide) rfl (by first | rfl | (simp [flatRow, flat1]; done) | assumption) (by first | exact .inl rfl | exact .inr (by first | omega | (simp; omega))) ?_
    refine SpecJ.normA ?_
    refine SpecJ.seg 1 (by kernel_rfl) (by decide) ?_
    repeat' (first
      | (refine is_ucall ?_; first
        | refine st_callP (h := readyW_spec _ _ _ m s1 s2 s3 (hm.ext extA)) (k := ?_)
        | refine st_callP (h := awake_spec _ _ _) (k := ?_)
        | fail)
      | (refine is_umcall ?_; first
        | refine mj_callP (h := readyW_spec _ _ _ m s1 s2 s3 (hm.ext extA)) (k := ?_)
        | refine mj_callP (h := awake_spec _ _ _) (k := ?_)
        | fail)
      | refine W1 ?_ | refine Wc ?_ | refine W2c ?_ ?_ | refine Wg ?_ | refine W2 ?_ ?_ | exact Wdead | refine Wlive (fun hb => ?_) | intro _ _ _ _ _ _ _ _ | refine We ?_ | refine Wx ?_ | refine Wt ?_ | refine Wm ?_ | refine W2m ?_ ?_ | refine Wl ?_
      | fail)
    refine sj_move rfl ?_
    refine SpecJ.normA ?_
    refine SpecJ.seg 13 (by kernel_rfl) (by decide) ?_
    repeat' (first
      | (refine is_ucall ?_; first
        | refine st_callP (h := readyW_spec _ _ _ m s1 s2 s3 (hm.ext extA)) (k := ?_)
        | refine st_callP (h := awake_spec _ _ _) (k := ?_)
        | fail)
      | (refine is_umcall ?_; first
        | refine mj_callP (h := readyW_spec _ _ _ m s1 s2 s3 (hm.ext extA)) (k := ?_)
        | refine mj_callP (h := awake_spec _ _ _) (k := ?_)
        | fail)
      | refine W1 ?_ | refine Wc ?_ | refine W2c ?_ ?_ | refine Wg ?_ | refine W2 ?_ ?_ | exact Wdead | refine Wlive (fun hb => ?_) | intro _ _ _ _ _ _ _ _ | refine We ?_ | refine Wx ?_ | refine Wt ?_ | refine Wm ?_ | refine W2m ?_ ?_ | refine Wl ?_
      | fail)
    rw [hX]
    refine sj_move rfl ?_
    refine SpecJ.normA ?_
    refine sj_conv rfl rfl ?_
    refine SpecJ.normA ?_
    refine sj_quo0 rfl rfl rfl (by omega) ?_
    refine SpecJ.normA ?_
    refine sj_rem0 rfl rfl rfl (by omega) ?_
    refine SpecJ.normA ?_
    refine sj_add rfl rfl rfl (by omega) ?_
    refine SpecJ.normA ?_
    refine sj_min rfl rfl rfl ?_
    refine SpecJ.normA ?_
    rw [hY]
    refine SpecJ.seg 2 (by kernel_rfl) (by decide) ?_
    repeat' (first
      | (refine is_ucall ?_; first
        | refine st_callP (h := readyW_spec _ _ _ m s1 s2 s3 (hm.ext extA)) (k := ?_)
        | refine st_callP (h := awake_spec _ _ _) (k := ?_)
        | fail)
      | (refine is_umcall ?_; first
        | refine mj_callP (h := readyW_spec _ _ _ m s1 s2 s3 (hm.ext extA)) (k := ?_)
        | refine mj_callP (h := awake_spec _ _ _) (k := ?_)
        | fail)
      | refine W1 ?_ | refine Wc ?_ | refine W2c ?_ ?_ | refine Wg ?_ | refine W2 ?_ ?_ | exact Wdead | refine Wlive (fun hb => ?_) | intro _ _ _ _ _ _ _ _ | refine We ?_ | refine Wx ?_ | refine Wt ?_ | refine Wm ?_ | refine W2m ?_ ?_ | refine Wl ?_
      | fail)
    refine SpecJ.spec (n := 0) undef [] getA rfl rfl ?_ ?_
    · simp only [List.append_nil]
      exact runs_store TyC.ty rfl rfl rfl rfl rfl getA (by omega) (splice1 (by omega))
    refine SpecJ.normA ?_
    refine SpecJ.done ?_
    repeat' (first
      | (refine is_ucall ?_; first
        | refine st_callP (h := readyW_spec _ _ _ m s1 s2 s3 (hm.ext extA)) (k := ?_)
        | refine st_callP (h := awake_spec _ _ _) (k := ?_)
        | fail)
      | (refine is_umcall ?_; first
        | refine mj_callP (h := readyW_spec _ _ _ m s1 s2 s3 (hm.ext extA)) (k := ?_)
        | refine mj_callP (h := awake_spec _ _ _) (k := ?_)
        | fail)
      | refine W1 ?_ | refine Wc ?_ | refine W2c ?_ ?_ | refine Wg ?_ | refine W2 ?_ ?_ | exact Wdead | refine Wlive (fun hb => ?_) | intro _ _ _ _ _ _ _ _ | refine We ?_ | refine Wx ?_ | refine Wt ?_ | refine Wm ?_ | refine W2m ?_ ?_ | refine Wl ?_
      | fail)
    rw [hset lo hi]
    have hlx : Wide m (wideM m k (lo, hi)) := hwd lo hi (by omega) (by omega)
    have hjl2 : j ≠ H.length + 1 := by omega
    refine st_callP (h := ready_y E _ _ (wideM m k (lo, hi)) (.slice (some ⟨j, 0, none⟩) m.clocks.length c) s2 s3 (house_yw (hI.ext extA) hlx getA)) (k := ?_)
    refine OpsJ.normA ?_
    repeat' (first
      | (refine is_ucall ?_; first
        | refine st_callP (h := readyW_spec _ _ _ m s1 s2 s3 (hm.ext extA)) (k := ?_)
        | refine st_callP (h := awake_spec _ _ _) (k := ?_)
        | fail)
      | (refine is_umcall ?_; first
        | refine mj_callP (h := readyW_spec _ _ _ m s1 s2 s3 (hm.ext extA)) (k := ?_)
        | refine mj_callP (h := awake_spec _ _ _) (k := ?_)
        | fail)
      | refine W1 ?_ | refine Wc ?_ | refine W2c ?_ ?_ | refine Wg ?_ | refine W2 ?_ ?_ | exact Wdead | refine Wlive (fun hb => ?_) | intro _ _ _ _ _ _ _ _ | refine We ?_ | refine Wx ?_ | refine Wt ?_ | refine Wm ?_ | refine W2m ?_ ?_ | refine Wl ?_
      | fail)
    · exact ⟨rfl, rfl, rfl⟩
    have hrx : thinS (wideM m k (lo, hi)) = true ∧ checkS (wideM m k (lo, hi)) = 0 := by assumption
    obtain ⟨x, hx⟩ : ∃ x : HouseM, x = wideM m k (lo, hi) := ⟨_, rfl⟩
    rw [← hx] at hlx hrx
    have hthx := hrx.1
    have hgx := good_of hrx.2
    refine st_call rfl (House_w E _ _ m s1 s2 s3 (hI.ext extA) hr.1) ?_
    rintro _ H6 g6 ⟨⟨t1, t2, t3, rfl, hmh, e6⟩, rfl⟩
    have x6 : Ext H H6 := Ext.trans extA e6
    have hb6 : H6[H.length]? = some (.row [.int .i64 m.hour, .int .i64 m.grace, s1, s2, s3] 1 true) := e6.get getA
    have hc6 : H6[H.length + 1]? = some (.row [.int .i64 x.hour, .int .i64 x.grace, .slice (some ⟨j, 0, none⟩) m.clocks.length c, s2, s3] 1 true) := by rw [hx]; exact e6.get getA
    have hj6 : H6[j]? = some (.row (x.clocks.map encR).flatten 2 true) := by rw [hx]; exact e6.get getA
    have hY := house_yw (c := c) (hI.ext x6) hlx hj6
    have hle := hlx.leave hG hgx
    have hz := leave_zero hG
    clear e0 e1 x2 hrow hjl hL e6 hj6 hx hset hwd hX hflat hc0 hc1 hfl hrf hke hkb hkb2 hk
    refine OpsJ.normA ?_
    repeat' (first
      | (refine is_ucall ?_; first
        | refine st_callP (h := readyW_spec _ _ _ m s1 s2 s3 (hm.ext extA)) (k := ?_)
        | refine st_callP (h := awake_spec _ _ _) (k := ?_)
        | fail)
      | (refine is_umcall ?_; first
        | refine mj_callP (h := readyW_spec _ _ _ m s1 s2 s3 (hm.ext extA)) (k := ?_)
        | refine mj_callP (h := awake_spec _ _ _) (k := ?_)
        | fail)
      | refine W1 ?_ | refine Wc ?_ | refine W2c ?_ ?_ | refine Wg ?_ | refine W2 ?_ ?_ | exact Wdead | refine Wlive (fun hb => ?_) | intro _ _ _ _ _ _ _ _ | refine We ?_ | refine Wx ?_ | refine Wt ?_ | refine Wm ?_ | refine W2m ?_ ?_ | refine Wl ?_
      | fail)
    refine st_call rfl (LeaveY E _ _ m t1 t2 t3 hr.2 (hmh.ext extA)) ?_
    rintro _ H7 g7 ⟨⟨lv, rfl, hLm, e7⟩, rfl⟩
    have x7 : Ext H H7 := x6.trans e7
    have hb7 := e7.get hb6
    have hc7 := e7.get hc6
    replace hY := hY.ext e7
    refine OpsJ.normA ?_
    repeat' (first
      | (refine is_ucall ?_; first
        | refine st_callP (h := readyW_spec _ _ _ m s1 s2 s3 (hm.ext extA)) (k := ?_)
        | refine st_callP (h := awake_spec _ _ _) (k := ?_)
        | fail)
      | (refine is_umcall ?_; first
        | refine mj_callP (h := readyW_spec _ _ _ m s1 s2 s3 (hm.ext extA)) (k := ?_)
        | refine mj_callP (h := awake_spec _ _ _) (k := ?_)
        | fail)
      | refine W1 ?_ | refine Wc ?_ | refine W2c ?_ ?_ | refine Wg ?_ | refine W2 ?_ ?_ | exact Wdead | refine Wlive (fun hb => ?_) | intro _ _ _ _ _ _ _ _ | refine We ?_ | refine Wx ?_ | refine Wt ?_ | refine Wm ?_ | refine W2m ?_ ?_ | refine Wl ?_
      | fail)
    refine st_call rfl (House_wy E _ _ x _ _ _ hY hthx) ?_
    rintro _ H8 g8 ⟨⟨t1, t2, t3, rfl, hmh, e8⟩, rfl⟩
    have x8 : Ext H H8 := x7.trans e8
    have hb8 := e8.get hb7
    have hc8 := e8.get hc7
    replace hY := hY.ext e8
    replace hLm := hLm.ext e8
    refine OpsJ.normA ?_
    repeat' (first
      | (refine is_ucall ?_; first
        | refine st_callP (h := readyW_spec _ _ _ m s1 s2 s3 (hm.ext extA)) (k := ?_)
        | refine st_callP (h := awake_spec _ _ _) (k := ?_)
        | fail)
      | (refine is_umcall ?_; first
        | refine mj_callP (h := readyW_spec _ _ _ m s1 s2 s3 (hm.ext extA)) (k := ?_)
        | refine mj_callP (h := awake_spec _ _ _) (k := ?_)
        | fail)
      | refine W1 ?_ | refine Wc ?_ | refine W2c ?_ ?_ | refine Wg ?_ | refine W2 ?_ ?_ | exact Wdead | refine Wlive (fun hb => ?_) | intro _ _ _ _ _ _ _ _ | refine We ?_ | refine Wx ?_ | refine Wt ?_ | refine Wm ?_ | refine W2m ?_ ?_ | refine Wl ?_
      | fail)
    refine st_call rfl (LeaveY E _ _ x t1 t2 t3 hrx.2 (hmh.ext extA)) ?_
    rintro _ H9 g9 ⟨⟨mv, rfl, hLx, e9⟩, rfl⟩
    have x9 : Ext H H9 := x8.trans e9
    have hb9 := e9.get hb8
    have hc9 := e9.get hc8
    replace hY := hY.ext e9
    replace hLm := hLm.ext e9
    have hel : (encI (leaveS m)).length = (leaveS m).length := by simp [encI]
    have hel2 : (encI (leaveS x)).length = (leaveS x).length := by simp [encI]
    cases hT : hasS m with
    | false =>
      have hz2 : (leaveS m).length ≠ 0 := fun e => by rw [hz.1 e] at hT; cases hT
      refine OpsJ.normA ?_
      repeat' (first
        | (refine is_ucall ?_; first
          | refine st_callP (h := readyW_spec _ _ _ m s1 s2 s3 (hm.ext extA)) (k := ?_)
          | refine st_callP (h := awake_spec _ _ _) (k := ?_)
          | fail)
        | (refine is_umcall ?_; first
          | refine mj_callP (h := readyW_spec _ _ _ m s1 s2 s3 (hm.ext extA)) (k := ?_)
          | refine mj_callP (h := awake_spec _ _ _) (k := ?_)
          | fail)
        | refine W1 ?_ | refine Wc ?_ | refine W2c ?_ ?_ | refine Wg ?_ | refine W2 ?_ ?_ | exact Wdead | refine Wlive (fun hb => ?_) | intro _ _ _ _ _ _ _ _ | refine We ?_ | refine Wx ?_ | refine Wt ?_ | refine Wm ?_ | refine W2m ?_ ?_ | refine Wl ?_
        | fail)
      all_goals first | exact ⟨rfl, rfl, rfl⟩ | (exfalso; omega)
    | true =>
      have hz2 := hz.2 hT
      have hTX := hlx.has hT
      have hT0 : checkT m = 0 := by unfold checkT; rw [if_pos hr.2, if_pos hT]
      have hTx : checkT x = 0 := by unfold checkT; rw [if_pos hrx.2, if_pos hTX]
      refine OpsJ.normA ?_
      repeat' (first
        | (refine is_ucall ?_; first
          | refine st_callP (h := readyW_spec _ _ _ m s1 s2 s3 (hm.ext extA)) (k := ?_)
          | refine st_callP (h := awake_spec _ _ _) (k := ?_)
          | fail)
        | (refine is_umcall ?_; first
          | refine mj_callP (h := readyW_spec _ _ _ m s1 s2 s3 (hm.ext extA)) (k := ?_)
          | refine mj_callP (h := awake_spec _ _ _) (k := ?_)
          | fail)
        | refine W1 ?_ | refine Wc ?_ | refine W2c ?_ ?_ | refine Wg ?_ | refine W2 ?_ ?_ | exact Wdead | refine Wlive (fun hb => ?_) | intro _ _ _ _ _ _ _ _ | refine We ?_ | refine Wx ?_ | refine Wt ?_ | refine Wm ?_ | refine W2m ?_ ?_ | refine Wl ?_
        | fail)
      clear hLm hLx hel hel2 hle hz
      refine st_call rfl (House_w E _ _ m s1 s2 s3 (hI.ext x9) hr.1) ?_
      rintro _ H10 g10 ⟨⟨t1, t2, t3, rfl, hmh, e10⟩, rfl⟩
      have x10 : Ext H H10 := x9.trans e10
      have hb10 := e10.get hb9
      have hc10 := e10.get hc9
      replace hY := hY.ext e10
      refine OpsJ.normA ?_
      repeat' (first
        | (refine is_ucall ?_; first
          | refine st_callP (h := readyW_spec _ _ _ m s1 s2 s3 (hm.ext extA)) (k := ?_)
          | refine st_callP (h := awake_spec _ _ _) (k := ?_)
          | fail)
        | (refine is_umcall ?_; first
          | refine mj_callP (h := readyW_spec _ _ _ m s1 s2 s3 (hm.ext extA)) (k := ?_)
          | refine mj_callP (h := awake_spec _ _ _) (k := ?_)
          | fail)
        | refine W1 ?_ | refine Wc ?_ | refine W2c ?_ ?_ | refine Wg ?_ | refine W2 ?_ ?_ | exact Wdead | refine Wlive (fun hb => ?_) | intro _ _ _ _ _ _ _ _ | refine We ?_ | refine Wx ?_ | refine Wt ?_ | refine Wm ?_ | refine W2m ?_ ?_ | refine Wl ?_
        | fail)
      refine st_call rfl (ClocksRY E _ _ m t1 t2 t3 hT0 (hmh.ext extA)) ?_
      rintro _ H11 g11 ⟨⟨cv, rfl, hC, e11⟩, rfl⟩
      have x11 : Ext H H11 := x10.trans e11
      have hb11 := e11.get hb10
      have hc11 := e11.get hc10
      replace hY := hY.ext e11
      refine OpsJ.normA ?_
      repeat' (first
        | (refine is_ucall ?_; first
          | refine st_callP (h := readyW_spec _ _ _ m s1 s2 s3 (hm.ext extA)) (k := ?_)
          | refine st_callP (h := awake_spec _ _ _) (k := ?_)
          | fail)
        | (refine is_umcall ?_; first
          | refine mj_callP (h := readyW_spec _ _ _ m s1 s2 s3 (hm.ext extA)) (k := ?_)
          | refine mj_callP (h := awake_spec _ _ _) (k := ?_)
          | fail)
        | refine W1 ?_ | refine Wc ?_ | refine W2c ?_ ?_ | refine Wg ?_ | refine W2 ?_ ?_ | exact Wdead | refine Wlive (fun hb => ?_) | intro _ _ _ _ _ _ _ _ | refine We ?_ | refine Wx ?_ | refine Wt ?_ | refine Wm ?_ | refine W2m ?_ ?_ | refine Wl ?_
        | fail)
      refine st_call rfl (House_wy E _ _ x _ _ _ hY hthx) ?_
      rintro _ H12 g12 ⟨⟨t1, t2, t3, rfl, hmh, e12⟩, rfl⟩
      have x12 : Ext H H12 := x11.trans e12
      have hb12 := e12.get hb11
      have hc12 := e12.get hc11
      replace hY := hY.ext e12
      replace hC := hC.ext e12
      refine OpsJ.normA ?_
      repeat' (first
        | (refine is_ucall ?_; first
          | refine st_callP (h := readyW_spec _ _ _ m s1 s2 s3 (hm.ext extA)) (k := ?_)
          | refine st_callP (h := awake_spec _ _ _) (k := ?_)
          | fail)
        | (refine is_umcall ?_; first
          | refine mj_callP (h := readyW_spec _ _ _ m s1 s2 s3 (hm.ext extA)) (k := ?_)
          | refine mj_callP (h := awake_spec _ _ _) (k := ?_)
          | fail)
        | refine W1 ?_ | refine Wc ?_ | refine W2c ?_ ?_ | refine Wg ?_ | refine W2 ?_ ?_ | exact Wdead | refine Wlive (fun hb => ?_) | intro _ _ _ _ _ _ _ _ | refine We ?_ | refine Wx ?_ | refine Wt ?_ | refine Wm ?_ | refine W2m ?_ ?_ | refine Wl ?_
        | fail)
      refine st_call rfl (ClocksRY E _ _ x t1 t2 t3 hTx (hmh.ext extA)) ?_
      rintro _ H13 g13 ⟨⟨dv, rfl, hD, e13⟩, rfl⟩
      have x13 : Ext H H13 := x12.trans e13
      have hb13 := e13.get hb12
      have hc13 := e13.get hc12
      replace hY := hY.ext e13
      replace hC := hC.ext e13
      refine OpsJ.normA ?_
      repeat' (first
        | (refine is_ucall ?_; first
          | refine st_callP (h := readyW_spec _ _ _ m s1 s2 s3 (hm.ext extA)) (k := ?_)
          | refine st_callP (h := awake_spec _ _ _) (k := ?_)
          | fail)
        | (refine is_umcall ?_; first
          | refine mj_callP (h := readyW_spec _ _ _ m s1 s2 s3 (hm.ext extA)) (k := ?_)
          | refine mj_callP (h := awake_spec _ _ _) (k := ?_)
          | fail)
        | refine W1 ?_ | refine Wc ?_ | refine W2c ?_ ?_ | refine Wg ?_ | refine W2 ?_ ?_ | exact Wdead | refine Wlive (fun hb => ?_) | intro _ _ _ _ _ _ _ _ | refine We ?_ | refine Wx ?_ | refine Wt ?_ | refine Wm ?_ | refine W2m ?_ ?_ | refine Wl ?_
        | fail)
      refine st_call rfl (House_w E _ _ m s1 s2 s3 (hI.ext x13) hr.1) ?_
      rintro _ H14 g14 ⟨⟨t1, t2, t3, rfl, hmh, e14⟩, rfl⟩
      have x14 : Ext H H14 := x13.trans e14
      have hb14 := e14.get hb13
      have hc14 := e14.get hc13
      replace hY := hY.ext e14
      replace hC := hC.ext e14
      replace hD := hD.ext e14
      refine OpsJ.normA ?_
      repeat' (first
        | (refine is_ucall ?_; first
          | refine st_callP (h := readyW_spec _ _ _ m s1 s2 s3 (hm.ext extA)) (k := ?_)
          | refine st_callP (h := awake_spec _ _ _) (k := ?_)
          | fail)
        | (refine is_umcall ?_; first
          | refine mj_callP (h := readyW_spec _ _ _ m s1 s2 s3 (hm.ext extA)) (k := ?_)
          | refine mj_callP (h := awake_spec _ _ _) (k := ?_)
          | fail)
        | refine W1 ?_ | refine Wc ?_ | refine W2c ?_ ?_ | refine Wg ?_ | refine W2 ?_ ?_ | exact Wdead | refine Wlive (fun hb => ?_) | intro _ _ _ _ _ _ _ _ | refine We ?_ | refine Wx ?_ | refine Wt ?_ | refine Wm ?_ | refine W2m ?_ ?_ | refine Wl ?_
        | fail)
      refine st_call rfl (HoursRY E _ _ m t1 t2 t3 hT0 (hmh.ext extA)) ?_
      rintro _ H15 g15 ⟨⟨sv, rfl, hS, e15⟩, rfl⟩
      have x15 : Ext H H15 := x14.trans e15
      have hb15 := e15.get hb14
      have hc15 := e15.get hc14
      replace hY := hY.ext e15
      replace hC := hC.ext e15
      replace hD := hD.ext e15
      refine OpsJ.normA ?_
      repeat' (first
        | (refine is_ucall ?_; first
          | refine st_callP (h := readyW_spec _ _ _ m s1 s2 s3 (hm.ext extA)) (k := ?_)
          | refine st_callP (h := awake_spec _ _ _) (k := ?_)
          | fail)
        | (refine is_umcall ?_; first
          | refine mj_callP (h := readyW_spec _ _ _ m s1 s2 s3 (hm.ext extA)) (k := ?_)
          | refine mj_callP (h := awake_spec _ _ _) (k := ?_)
          | fail)
        | refine W1 ?_ | refine Wc ?_ | refine W2c ?_ ?_ | refine Wg ?_ | refine W2 ?_ ?_ | exact Wdead | refine Wlive (fun hb => ?_) | intro _ _ _ _ _ _ _ _ | refine We ?_ | refine Wx ?_ | refine Wt ?_ | refine Wm ?_ | refine W2m ?_ ?_ | refine Wl ?_
        | fail)
      refine st_call rfl (House_wy E _ _ x _ _ _ hY hthx) ?_
      rintro _ H16 g16 ⟨⟨t1, t2, t3, rfl, hmh, e16⟩, rfl⟩
      have x16 : Ext H H16 := x15.trans e16
      have hb16 := e16.get hb15
      have hc16 := e16.get hc15
      replace hY := hY.ext e16
      replace hC := hC.ext e16
      replace hD := hD.ext e16
      replace hS := hS.ext e16
      refine OpsJ.normA ?_
      repeat' (first
        | (refine is_ucall ?_; first
          | refine st_callP (h := readyW_spec _ _ _ m s1 s2 s3 (hm.ext extA)) (k := ?_)
          | refine st_callP (h := awake_spec _ _ _) (k := ?_)
          | fail)
        | (refine is_umcall ?_; first
          | refine mj_callP (h := readyW_spec _ _ _ m s1 s2 s3 (hm.ext extA)) (k := ?_)
          | refine mj_callP (h := awake_spec _ _ _) (k := ?_)
          | fail)
        | refine W1 ?_ | refine Wc ?_ | refine W2c ?_ ?_ | refine Wg ?_ | refine W2 ?_ ?_ | exact Wdead | refine Wlive (fun hb => ?_) | intro _ _ _ _ _ _ _ _ | refine We ?_ | refine Wx ?_ | refine Wt ?_ | refine Wm ?_ | refine W2m ?_ ?_ | refine Wl ?_
        | fail)
      refine st_call rfl (HoursRY E _ _ x t1 t2 t3 hTx (hmh.ext extA)) ?_
      rintro _ H17 g17 ⟨⟨tv, rfl, hTv, e17⟩, rfl⟩
      have x17 : Ext H H17 := x16.trans e17
      have hb17 := e17.get hb16
      have hc17 := e17.get hc16
      replace hY := hY.ext e17
      replace hC := hC.ext e17
      replace hD := hD.ext e17
      replace hS := hS.ext e17
      refine OpsJ.normA ?_
      repeat' (first
        | (refine is_ucall ?_; first
          | refine st_callP (h := readyW_spec _ _ _ m s1 s2 s3 (hm.ext extA)) (k := ?_)
          | refine st_callP (h := awake_spec _ _ _) (k := ?_)
          | fail)
        | (refine is_umcall ?_; first
          | refine mj_callP (h := readyW_spec _ _ _ m s1 s2 s3 (hm.ext extA)) (k := ?_)
          | refine mj_callP (h := awake_spec _ _ _) (k := ?_)
          | fail)
        | refine W1 ?_ | refine Wc ?_ | refine W2c ?_ ?_ | refine Wg ?_ | refine W2 ?_ ?_ | exact Wdead | refine Wlive (fun hb => ?_) | intro _ _ _ _ _ _ _ _ | refine We ?_ | refine Wx ?_ | refine Wt ?_ | refine Wm ?_ | refine W2m ?_ ?_ | refine Wl ?_
        | fail)
      refine st_call rfl (House_w E _ _ m s1 s2 s3 (hI.ext x17) hr.1) ?_
      rintro _ H18 g18 ⟨⟨t1, t2, t3, rfl, hmh, e18⟩, rfl⟩
      have x18 : Ext H H18 := x17.trans e18
      have hb18 := e18.get hb17
      have hc18 := e18.get hc17
      replace hY := hY.ext e18
      replace hC := hC.ext e18
      replace hD := hD.ext e18
      replace hS := hS.ext e18
      replace hTv := hTv.ext e18
      refine OpsJ.normA ?_
      repeat' (first
        | (refine is_ucall ?_; first
          | refine st_callP (h := readyW_spec _ _ _ m s1 s2 s3 (hm.ext extA)) (k := ?_)
          | refine st_callP (h := awake_spec _ _ _) (k := ?_)
          | fail)
        | (refine is_umcall ?_; first
          | refine mj_callP (h := readyW_spec _ _ _ m s1 s2 s3 (hm.ext extA)) (k := ?_)
          | refine mj_callP (h := awake_spec _ _ _) (k := ?_)
          | fail)
        | refine W1 ?_ | refine Wc ?_ | refine W2c ?_ ?_ | refine Wg ?_ | refine W2 ?_ ?_ | exact Wdead | refine Wlive (fun hb => ?_) | intro _ _ _ _ _ _ _ _ | refine We ?_ | refine Wx ?_ | refine Wt ?_ | refine Wm ?_ | refine W2m ?_ ?_ | refine Wl ?_
        | fail)
      refine st_call rfl (LongRY E _ _ m t1 t2 t3 hT0 (hmh.ext extA)) ?_
      rintro _ H19 g19 ⟨⟨uv, rfl, hU, e19⟩, rfl⟩
      have x19 : Ext H H19 := x18.trans e19
      have hb19 := e19.get hb18
      have hc19 := e19.get hc18
      replace hY := hY.ext e19
      replace hC := hC.ext e19
      replace hD := hD.ext e19
      replace hS := hS.ext e19
      replace hTv := hTv.ext e19
      refine OpsJ.normA ?_
      repeat' (first
        | (refine is_ucall ?_; first
          | refine st_callP (h := readyW_spec _ _ _ m s1 s2 s3 (hm.ext extA)) (k := ?_)
          | refine st_callP (h := awake_spec _ _ _) (k := ?_)
          | fail)
        | (refine is_umcall ?_; first
          | refine mj_callP (h := readyW_spec _ _ _ m s1 s2 s3 (hm.ext extA)) (k := ?_)
          | refine mj_callP (h := awake_spec _ _ _) (k := ?_)
          | fail)
        | refine W1 ?_ | refine Wc ?_ | refine W2c ?_ ?_ | refine Wg ?_ | refine W2 ?_ ?_ | exact Wdead | refine Wlive (fun hb => ?_) | intro _ _ _ _ _ _ _ _ | refine We ?_ | refine Wx ?_ | refine Wt ?_ | refine Wm ?_ | refine W2m ?_ ?_ | refine Wl ?_
        | fail)
      refine st_call rfl (House_wy E _ _ x _ _ _ hY hthx) ?_
      rintro _ H20 g20 ⟨⟨t1, t2, t3, rfl, hmh, e20⟩, rfl⟩
      have x20 : Ext H H20 := x19.trans e20
      have hb20 := e20.get hb19
      have hc20 := e20.get hc19
      replace hY := hY.ext e20
      replace hC := hC.ext e20
      replace hD := hD.ext e20
      replace hS := hS.ext e20
      replace hTv := hTv.ext e20
      replace hU := hU.ext e20
      refine OpsJ.normA ?_
      repeat' (first
        | (refine is_ucall ?_; first
          | refine st_callP (h := readyW_spec _ _ _ m s1 s2 s3 (hm.ext extA)) (k := ?_)
          | refine st_callP (h := awake_spec _ _ _) (k := ?_)
          | fail)
        | (refine is_umcall ?_; first
          | refine mj_callP (h := readyW_spec _ _ _ m s1 s2 s3 (hm.ext extA)) (k := ?_)
          | refine mj_callP (h := awake_spec _ _ _) (k := ?_)
          | fail)
        | refine W1 ?_ | refine Wc ?_ | refine W2c ?_ ?_ | refine Wg ?_ | refine W2 ?_ ?_ | exact Wdead | refine Wlive (fun hb => ?_) | intro _ _ _ _ _ _ _ _ | refine We ?_ | refine Wx ?_ | refine Wt ?_ | refine Wm ?_ | refine W2m ?_ ?_ | refine Wl ?_
        | fail)
      refine st_call rfl (LongRY E _ _ x t1 t2 t3 hTx (hmh.ext extA)) ?_
      rintro _ H21 g21 ⟨⟨vv, rfl, hV, e21⟩, rfl⟩
      have x21 : Ext H H21 := x20.trans e21
      have hb21 := e21.get hb20
      have hc21 := e21.get hc20
      replace hY := hY.ext e21
      replace hC := hC.ext e21
      replace hD := hD.ext e21
      replace hS := hS.ext e21
      replace hTv := hTv.ext e21
      replace hU := hU.ext e21
      refine OpsJ.normA ?_
      repeat' (first
        | (refine is_ucall ?_; first
          | refine st_callP (h := readyW_spec _ _ _ m s1 s2 s3 (hm.ext extA)) (k := ?_)
          | refine st_callP (h := awake_spec _ _ _) (k := ?_)
          | fail)
        | (refine is_umcall ?_; first
          | refine mj_callP (h := readyW_spec _ _ _ m s1 s2 s3 (hm.ext extA)) (k := ?_)
          | refine mj_callP (h := awake_spec _ _ _) (k := ?_)
          | fail)
        | refine W1 ?_ | refine Wc ?_ | refine W2c ?_ ?_ | refine Wg ?_ | refine W2 ?_ ?_ | exact Wdead | refine Wlive (fun hb => ?_) | intro _ _ _ _ _ _ _ _ | refine We ?_ | refine Wx ?_ | refine Wt ?_ | refine Wm ?_ | refine W2m ?_ ?_ | refine Wl ?_
        | fail)
      clear e7 e8 e9 e10 e11 e12 e13 e14 e15 e16 e17 e18 e19 e20 x7 hb7 hc7 x8 hb8 hc8 x9 hb9 hc9 x10 hb10 hc10 x11 hb11 hc11 x12 hb12 hc12 x13 hb13 hc13 x14 hb14 hc14 x15 hb15 hc15 x16 hb16 hc16 x17 hb17 hc17 x18 hb18 hc18 x19 hb19 hc19
      refine st_call rfl (House_w E _ _ m s1 s2 s3 (hI.ext x21) hr.1) ?_
      rintro _ H22 g22 ⟨⟨t1, t2, t3, rfl, hmh, e22⟩, rfl⟩
      have x22 : Ext H H22 := x21.trans e22
      have hb22 := e22.get hb21
      have hc22 := e22.get hc21
      replace hY := hY.ext e22
      replace hC := hC.ext e22
      replace hD := hD.ext e22
      replace hS := hS.ext e22
      replace hTv := hTv.ext e22
      replace hU := hU.ext e22
      replace hV := hV.ext e22
      refine OpsJ.normA ?_
      repeat' (first
        | (refine is_ucall ?_; first
          | refine st_callP (h := readyW_spec _ _ _ m s1 s2 s3 (hm.ext extA)) (k := ?_)
          | refine st_callP (h := awake_spec _ _ _) (k := ?_)
          | fail)
        | (refine is_umcall ?_; first
          | refine mj_callP (h := readyW_spec _ _ _ m s1 s2 s3 (hm.ext extA)) (k := ?_)
          | refine mj_callP (h := awake_spec _ _ _) (k := ?_)
          | fail)
        | refine W1 ?_ | refine Wc ?_ | refine W2c ?_ ?_ | refine Wg ?_ | refine W2 ?_ ?_ | exact Wdead | refine Wlive (fun hb => ?_) | intro _ _ _ _ _ _ _ _ | refine We ?_ | refine Wx ?_ | refine Wt ?_ | refine Wm ?_ | refine W2m ?_ ?_ | refine Wl ?_
        | fail)
      obtain ⟨p, hp⟩ : ∃ p, paidV m = p := ⟨_, rfl⟩
      refine st_callP (h := PaidPY E _ _ m t1 t2 t3 p hT0 hp (hmh.ext extA)) (k := ?_)
      refine OpsJ.normA ?_
      repeat' (first
        | (refine is_ucall ?_; first
          | refine st_callP (h := readyW_spec _ _ _ m s1 s2 s3 (hm.ext extA)) (k := ?_)
          | refine st_callP (h := awake_spec _ _ _) (k := ?_)
          | fail)
        | (refine is_umcall ?_; first
          | refine mj_callP (h := readyW_spec _ _ _ m s1 s2 s3 (hm.ext extA)) (k := ?_)
          | refine mj_callP (h := awake_spec _ _ _) (k := ?_)
          | fail)
        | refine W1 ?_ | refine Wc ?_ | refine W2c ?_ ?_ | refine Wg ?_ | refine W2 ?_ ?_ | exact Wdead | refine Wlive (fun hb => ?_) | intro _ _ _ _ _ _ _ _ | refine We ?_ | refine Wx ?_ | refine Wt ?_ | refine Wm ?_ | refine W2m ?_ ?_ | refine Wl ?_
        | fail)
      refine st_call rfl (House_wy E _ _ x _ _ _ hY hthx) ?_
      rintro _ H23 g23 ⟨⟨t1, t2, t3, rfl, hmh, e23⟩, rfl⟩
      have x23 : Ext H H23 := x22.trans e23
      have hb23 := e23.get hb22
      have hc23 := e23.get hc22
      replace hY := hY.ext e23
      replace hC := hC.ext e23
      replace hD := hD.ext e23
      replace hS := hS.ext e23
      replace hTv := hTv.ext e23
      replace hU := hU.ext e23
      replace hV := hV.ext e23
      refine OpsJ.normA ?_
      repeat' (first
        | (refine is_ucall ?_; first
          | refine st_callP (h := readyW_spec _ _ _ m s1 s2 s3 (hm.ext extA)) (k := ?_)
          | refine st_callP (h := awake_spec _ _ _) (k := ?_)
          | fail)
        | (refine is_umcall ?_; first
          | refine mj_callP (h := readyW_spec _ _ _ m s1 s2 s3 (hm.ext extA)) (k := ?_)
          | refine mj_callP (h := awake_spec _ _ _) (k := ?_)
          | fail)
        | refine W1 ?_ | refine Wc ?_ | refine W2c ?_ ?_ | refine Wg ?_ | refine W2 ?_ ?_ | exact Wdead | refine Wlive (fun hb => ?_) | intro _ _ _ _ _ _ _ _ | refine We ?_ | refine Wx ?_ | refine Wt ?_ | refine Wm ?_ | refine W2m ?_ ?_ | refine Wl ?_
        | fail)
      obtain ⟨q, hq⟩ : ∃ q, paidV x = q := ⟨_, rfl⟩
      refine st_callP (h := PaidPY E _ _ x t1 t2 t3 q hTx hq (hmh.ext extA)) (k := ?_)
      have hn2 := hG.n2
      have hcl : (clocksS m).length = m.clocks.length := by simp [clocksS]
      have hdl : (clocksS x).length = (clocksS m).length := by simp [clocksS, hlx.len]
      have hsl : (hrsS m).length = m.tickets.length := by simp [hrsS]
      have htl : (hrsS x).length = (hrsS m).length := by simp [hrsS, hlx.tickets]
      have hul : (longS m).length = m.tickets.length := by simp [longS]
      have hvl : (longS x).length = m.tickets.length := by simp [longS, hlx.tickets]
      have hq1 : [q].length ≤ 1000000 := by simp
      have hcn : (clocksS m).length ≤ 1000000 := by omega
      have hsn : (hrsS m).length ≤ 1000000 := by omega
      have hvn : (longS x).length ≤ 1000000 := by omega
      have huv : (longS m).length = (longS x).length := by omega
      have hci := fun j (h : j < (clocksS m).length) => hlx.clock_at (t := j) (by omega)
      have hsi := fun j (h : j < (hrsS m).length) => hlx.hours_at (t := j) (by omega)
      have hvi : ∀ j, j < (longS x).length → ∃ u v : Int, (encI (longS x))[(j : Int).toNat]? = some [.int .i64 v] ∧ (encI (longS m))[(j : Int).toNat]? = some [.int .i64 u] ∧ (v = 3 ∨ u = v) := fun j h => by
          obtain ⟨u, v, h1, h2, h3⟩ := hlx.long_at hT (t := j) (by omega)
          exact ⟨u, v, h2, h1, h3⟩
      have hpi : ∀ j, j < [q].length → ∃ u v : Int, (encI [q])[(j : Int).toNat]? = some [.int .i64 v] ∧ (encI [p])[(j : Int).toNat]? = some [.int .i64 u] ∧ (v = 3 ∨ u = v) := fun j h => by
          obtain rfl : j = 0 := by simpa using h
          exact ⟨p, q, rfl, rfl, by rw [← hp, ← hq]; exact hlx.paid_at hT⟩
      clear e22 e23 x22 hb21 hb22 hc21 hc22 hmh
      refine OpsJ.normA ?_
      repeat' (first
        | (refine is_ucall ?_; first
          | refine st_callP (h := awake_spec _ _ _) (k := ?_)
          | refine st_callP (h := inside_true _ _ _ cv dv _ _ (hC.ext extA) (hD.ext extA) hcn hdl hci) (k := ?_)
          | refine st_callP (h := inside_true _ _ _ sv tv _ _ (hS.ext extA) (hTv.ext extA) hsn htl hsi) (k := ?_)
          | refine st_callP (h := kept_true _ _ _ vv uv _ _ (hV.ext extA) (hU.ext extA) hvn huv hvi) (k := ?_)
          | refine st_callP (h := kept_true _ _ _ _ _ [q] [p] (rd_at getA) (rd_at getA) hq1 rfl hpi) (k := ?_)
          | fail)
        | (refine is_umcall ?_; first
          | refine mj_callP (h := awake_spec _ _ _) (k := ?_)
          | refine mj_callP (h := inside_true _ _ _ cv dv _ _ (hC.ext extA) (hD.ext extA) hcn hdl hci) (k := ?_)
          | refine mj_callP (h := inside_true _ _ _ sv tv _ _ (hS.ext extA) (hTv.ext extA) hsn htl hsi) (k := ?_)
          | refine mj_callP (h := kept_true _ _ _ vv uv _ _ (hV.ext extA) (hU.ext extA) hvn huv hvi) (k := ?_)
          | refine mj_callP (h := kept_true _ _ _ _ _ [q] [p] (rd_at getA) (rd_at getA) hq1 rfl hpi) (k := ?_)
          | fail)
        | refine W1 ?_ | refine Wc ?_ | refine W2c ?_ ?_ | refine Wg ?_ | refine W2 ?_ ?_ | exact Wdead | refine Wlive (fun hb => ?_) | intro _ _ _ _ _ _ _ _ | refine We ?_ | refine Wx ?_ | refine Wt ?_ | refine Wm ?_ | refine W2m ?_ ?_ | refine Wl ?_
        | fail)
      exact ⟨rfl, rfl, rfl⟩
  · exact ⟨rfl, rfl, rfl⟩
end
end Go.Proofs.Ytehobnpoeodhkaa
