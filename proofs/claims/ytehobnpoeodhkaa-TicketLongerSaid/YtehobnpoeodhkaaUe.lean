import Derived.Test.YtehobnpoeodhkaaUa
import Derived.Test.YtehobnpoeodhkaaTy
namespace Go.Proofs.Ytehobnpoeodhkaa
open Go Go.Abs Go.Proofs
set_option maxHeartbeats 8000000
set_option maxRecDepth 20000
attribute [local irreducible] CallJ OpsJ WPJ CallV MonoJ SpecJ

theorem thin_of_good {m : HouseM} (hG : Good m) : thinS m = true := by
  have h1 := hG.n1; have h2 := hG.n2; have h3 := hG.n3
  simp [thinS]; omega
theorem house_y {H : AHeap} {m x : HouseM} {s1 s2 s3 : Value} {j c : Nat} (hI : HouseIs H m s1 s2 s3) (hl : Longer m x) (hG : Good x) (hj : H[j]? = some (.row (x.tickets.map encR).flatten 2 true)) : HouseY H x s1 (.slice (some ⟨j, 0, none⟩) x.tickets.length c) s3 := by
  have h1 := hG.n1; have h2 := hG.n2; have h3 := hG.n3
  have hok := hI.ok
  refine ⟨by rw [hl.clocks]; exact hI.clocks, rowY encR_len hj, by rw [hl.clips]; exact hI.clips, ?_, by omega, by omega, by omega⟩
  simp [cellOk] at hok ⊢
  exact ⟨hok.1, hok.2.2⟩
theorem min_lt (a b : Int) : (if a < b then a else b) = min b a := by split <;> omega
section
variable {γ : Type} (E : Env γ) (g : γ) (H : AHeap)
theorem longer_law (m : HouseM) (s1 s2 s3 : Value) (a b : Int) (hm : HouseW H m s1 s2 s3) (_ha : 0 ≤ a ∧ a ≤ 255) (hb8 : 0 ≤ b ∧ b ≤ 255) : CallJ Try.prog E 17 [hv m s1 s2 s3, .int .u8 a, .int .u8 b] (fun v H' g' => v = .bool true ∧ H' = H ∧ g' = g) H g := by
  have hok : [Value.int .i64 m.hour, Value.int .i64 m.grace, s1, s2, s3].all cellOk = true := by have := hm.ok; simp [cellOk] at this ⊢; exact this
  have hwb : IntKind.i64.wrap b = b := wrap64_eq ⟨by omega, by omega⟩
  refine CallJ.tidy ?_
  unfold hv
  refine CallJ.enter Try.func17 rfl (by simp only [Try.ntmps17, List.length_cons, List.length_nil, Nat.zero_add, Nat.reduceAdd, Nat.reduceSub, List.replicate_succ, List.replicate_zero, List.cons_append, List.nil_append]; rfl) ?_
  repeat' (first
    | (refine is_ucall ?_; first
      | refine st_callP (h := readyW_spec _ _ _ m s1 s2 s3 (hm.ext extA)) (k := ?_)
      | refine st_callP (h := awake_spec _ _ _) (k := ?_)
      | fail)
    | (refine is_umcall ?_; first
      | refine mj_callP (h := readyW_spec _ _ _ m s1 s2 s3 (hm.ext extA)) (k := ?_)
      | refine mj_callP (h := awake_spec _ _ _) (k := ?_)
      | fail)
    | refine W1 ?_ | refine Wc ?_ | refine W2c ?_ ?_ | refine Wg ?_ | refine W2 ?_ ?_ | exact Wdead | refine Wlive (fun hb => ?_) | intro _ _ _ _ _ _ _ _ | refine We ?_ | refine Wx ?_ | refine Wt ?_ | refine Wm ?_ | refine W2m ?_ ?_ | refine Wl ?_
    | fail)
  · exact ⟨rfl, rfl, rfl⟩
  · have hr : thinS m = true ∧ checkS m = 0 := by assumption
    have hI := hm.is hr.1
    have hst := hI.tickets
    have hG := good_of hr.2
    have hn2 := hG.n2
    have hhour := hG.hour
    have hgrace := hG.grace
    refine st_appendCopyW (l := m.tickets) (enc := encR) (w := 2) (hst.ext extA) (Ext.refl _) rfl (fun _ => rfl) rfl ?_ rfl (by omega) (by decide) ?_
    · exact get_new rfl
    intro j c H2 hj hrow hE hK hL
    have e0 := hK H.length _ (by omega) (show (H ++ [AObj.row [.int .i64 m.hour, .int .i64 m.grace, s1, s2, s3] 1 true, .row [.int .i64 m.hour, .int .i64 m.grace, s1, s2, s3] 1 true, .row [] 2 true])[H.length]? = _ from getA)
    have e1 := hK (H.length + 1) _ (by omega) (show (H ++ [AObj.row [.int .i64 m.hour, .int .i64 m.grace, s1, s2, s3] 1 true, .row [.int .i64 m.hour, .int .i64 m.grace, s1, s2, s3] 1 true, .row [] 2 true])[H.length + 1]? = _ from getA)
    have x2 : Ext H H2 := hE H extA (by omega)
    have hjl := (List.getElem?_eq_some_iff.1 hrow).1
    simp only [List.length_append, List.length_cons, List.length_nil] at hL
    clear hE hK
    refine OpsJ.normA ?_
    repeat' (first
      | (refine is_ucall ?_; first
        | refine st_callP (h := readyW_spec _ _ _ m s1 s2 s3 (hm.ext extA)) (k := ?_)
        | refine st_callP (h := awake_spec _ _ _) (k := ?_)
        | fail)
      | (refine is_umcall ?_; first
        | refine mj_callP (h := readyW_spec _ _ _ m s1 s2 s3 (hm.ext extA)) (k := ?_)
        | refine mj_callP (h := awake_spec _ _ _) (k := ?_)
        | fail)
      | refine W1 ?_ | refine Wc ?_ | refine W2c ?_ ?_ | refine Wg ?_ | refine W2 ?_ ?_ | exact Wdead | refine Wlive (fun hb => ?_) | intro _ _ _ _ _ _ _ _ | refine We ?_ | refine Wx ?_ | refine Wt ?_ | refine Wm ?_ | refine W2m ?_ ?_ | refine Wl ?_
      | fail)
    case' _ =>
      generalize hd : IntKind.i64.wrap b % 20 = d
      have hd0 : 0 ≤ d ∧ d < 20 := by omega
      have hd3 : 0 ≤ d % 3 ∧ d % 3 < 3 := by omega
      refine WPJ.loopT m.tickets.length [35, 36, 37, 38, 39, 40, 41, 42, 43, 44, 45, 46, 47, 48, 49, 50, 51, 52, 53, 54, 55, 56] (fun k (_ : Unit) => [(9, .int .i64 k)])
        (fun k _ Hx gx => gx = g ∧ Ext H Hx ∧ Hx[H.length]? = some (.row [.int .i64 m.hour, .int .i64 m.grace, s1, s2, s3] 1 true) ∧ Hx[H.length + 1]? = some (.row [.int .i64 m.hour, .int .i64 m.grace, s1, (.slice (some ⟨j, 0, none⟩) m.tickets.length c), s3] 1 true) ∧ Hx[j]? = some (.row ((setF (paidF (d % 3)) m.tickets k).map encR).flatten 2 true)) 0 () (Nat.zero_le _)
        (by intro p hp; simp at hp; rcases hp with rfl; rfl) ⟨rfl, extA, getA, getA, by rw [setF_zero]; exact getA⟩ ?_
      rintro k _ Hx gx hk ⟨rfl, hex, hbx, hcx, hjx⟩ hlx0
      simp only [updT, maskT, List.set_cons_zero, List.set_cons_succ]
      rcases Nat.lt_or_ge k m.tickets.length with hlt | hge
      · have hcell : ((setF (paidF (d % 3)) m.tickets k).map encR).flatten[k * 2 + 1]? = some (.int .i64 m.tickets[k].2) := flat_get2 _ (setF_at _ _ hlt)
        have hfl : ((setF (paidF (d % 3)) m.tickets k).map encR).flatten.length = m.tickets.length * 2 := by rw [flatten_lenG encR_len, setF_len]
        have hps := paid_store (d := d % 3) hlt
        have htk := hG.ticket _ (List.getElem_mem hlt)
        generalize m.tickets[k] = r at *
        repeat' (first
          | (refine is_ucall ?_; first
            | refine st_callP (h := readyW_spec _ _ _ m s1 s2 s3 (hm.ext extA)) (k := ?_)
            | refine st_callP (h := awake_spec _ _ _) (k := ?_)
            | fail)
          | (refine is_umcall ?_; first
            | refine mj_callP (h := readyW_spec _ _ _ m s1 s2 s3 (hm.ext extA)) (k := ?_)
            | refine mj_callP (h := awake_spec _ _ _) (k := ?_)
            | fail)
          | refine W1 ?_ | refine Wc ?_ | refine W2c ?_ ?_ | refine Wg ?_ | refine W2 ?_ ?_ | exact Wdead | refine Wlive (fun hb => ?_) | intro _ _ _ _ _ _ _ _ | refine We ?_ | refine Wx ?_ | refine Wt ?_ | refine Wm ?_ | refine W2m ?_ ?_ | refine Wl ?_
          | fail)
        refine WPJ.draw 15 mixed (by kernel_rfl) (by kernel_rfl) (by kernel_rfl) (by decide) ?_
        refine MonoJ.normA ?_
        repeat' (first
          | (refine is_ucall ?_; first
            | refine st_callP (h := readyW_spec _ _ _ m s1 s2 s3 (hm.ext extA)) (k := ?_)
            | refine st_callP (h := awake_spec _ _ _) (k := ?_)
            | fail)
          | (refine is_umcall ?_; first
            | refine mj_callP (h := readyW_spec _ _ _ m s1 s2 s3 (hm.ext extA)) (k := ?_)
            | refine mj_callP (h := awake_spec _ _ _) (k := ?_)
            | fail)
          | refine W1 ?_ | refine Wc ?_ | refine W2c ?_ ?_ | refine Wg ?_ | refine W2 ?_ ?_ | exact Wdead | refine Wlive (fun hb => ?_) | intro _ _ _ _ _ _ _ _ | refine We ?_ | refine Wx ?_ | refine Wt ?_ | refine Wm ?_ | refine W2m ?_ ?_ | refine Wl ?_
          | fail)
        rw [Int.tmod_eq_emod_of_nonneg hd0.1, show IntKind.i64.wrap (r.2 + d % 3) = r.2 + d % 3 from wrap64_eq ⟨by omega, by omega⟩, min_lt, hps]
        exact ⟨(), hlt, (by repeat' (first | exact Weak.nil | refine Weak.wild ?_ | refine Weak.same ?_ | refine Weak.intEq (by first | omega | (simp; done) | (push_cast; omega)) ?_)), rfl, extA, getA, getA, getA⟩
      obtain rfl : k = m.tickets.length := by omega
      rw [setF_all] at hjx
      have hjlx := (List.getElem?_eq_some_iff.1 hjx).1
      repeat' (first
        | (refine is_ucall ?_; first
          | refine st_callP (h := readyW_spec _ _ _ m s1 s2 s3 (hm.ext extA)) (k := ?_)
          | refine st_callP (h := awake_spec _ _ _) (k := ?_)
          | fail)
        | (refine is_umcall ?_; first
          | refine mj_callP (h := readyW_spec _ _ _ m s1 s2 s3 (hm.ext extA)) (k := ?_)
          | refine mj_callP (h := awake_spec _ _ _) (k := ?_)
          | fail)
        | refine W1 ?_ | refine Wc ?_ | refine W2c ?_ ?_ | refine Wg ?_ | refine W2 ?_ ?_ | exact Wdead | refine Wlive (fun hb => ?_) | intro _ _ _ _ _ _ _ _ | refine We ?_ | refine Wx ?_ | refine Wt ?_ | refine Wm ?_ | refine W2m ?_ ?_ | refine Wl ?_
        | fail)
      obtain ⟨x, hx⟩ : ∃ x : HouseM, x = { m with tickets := m.tickets.map (paidF (d % 3)) } := ⟨_, rfl⟩
      have hlx : Longer m x := by rw [hx]; exact longer_paid hG hd3.1
      have hgx : Good x := by rw [hx]; exact good_paid hG hd3.1
      refine st_call rfl (House_w E _ _ m s1 s2 s3 (hI.ext extA) hr.1) ?_
      rintro _ H6 g6 ⟨⟨t1, t2, t3, rfl, hmh, e6⟩, rfl⟩
      have x6 : Ext H H6 := Ext.trans extA e6
      have hb6 : H6[H.length]? = some (.row [.int .i64 m.hour, .int .i64 m.grace, s1, s2, s3] 1 true) := e6.get getA
      have hc6 : H6[H.length + 1]? = some (.row [.int .i64 x.hour, .int .i64 x.grace, s1, (.slice (some ⟨j, 0, none⟩) m.tickets.length c), s3] 1 true) := by rw [hx]; exact e6.get getA
      have hj6 : H6[j]? = some (.row (x.tickets.map encR).flatten 2 true) := by rw [hx]; exact e6.get getA
      have hY : HouseY H6 x s1 (.slice (some ⟨j, 0, none⟩) m.tickets.length c) s3 := by rw [← hlx.len]; exact house_y (hI.ext x6) hlx hgx hj6
      clear e6 hj6 hx
    rotate_left
    case' _ =>
      generalize hd : IntKind.i64.wrap b % 20 = d
      have hd0 : 0 ≤ d ∧ d < 20 := by omega
      rw [min_lt]
      obtain ⟨x, hx⟩ : ∃ x : HouseM, x = { m with grace := min 60 (m.grace + d) } := ⟨_, rfl⟩
      have hlx : Longer m x := by rw [hx]; exact longer_grace hG hd0.1
      have hgx : Good x := by rw [hx]; exact good_grace hG hd0.1
      refine st_call rfl (House_w E _ _ m s1 s2 s3 (hI.ext extA) hr.1) ?_
      rintro _ H6 g6 ⟨⟨t1, t2, t3, rfl, hmh, e6⟩, rfl⟩
      have x6 : Ext H H6 := Ext.trans extA e6
      have hb6 : H6[H.length]? = some (.row [.int .i64 m.hour, .int .i64 m.grace, s1, s2, s3] 1 true) := e6.get getA
      have hc6 : H6[H.length + 1]? = some (.row [.int .i64 x.hour, .int .i64 x.grace, s1, (.slice (some ⟨j, 0, none⟩) m.tickets.length c), s3] 1 true) := by rw [hx]; exact e6.get getA
      have hj6 : H6[j]? = some (.row (x.tickets.map encR).flatten 2 true) := by rw [hx]; exact e6.get getA
      have hY : HouseY H6 x s1 (.slice (some ⟨j, 0, none⟩) m.tickets.length c) s3 := by rw [← hlx.len]; exact house_y (hI.ext x6) hlx hgx hj6
      clear e6 hj6 hx
    rotate_left
    case' _ =>
      generalize hd : IntKind.i64.wrap b % 20 = d
      have hd0 : 0 ≤ d ∧ d < 20 := by omega
      rw [min_lt]
      obtain ⟨x, hx⟩ : ∃ x : HouseM, x = { m with hour := min 120 (m.hour + d) } := ⟨_, rfl⟩
      have hlx : Longer m x := by rw [hx]; exact longer_hour hG hd0.1
      have hgx : Good x := by rw [hx]; exact good_hour hG hd0.1
      refine st_call rfl (House_w E _ _ m s1 s2 s3 (hI.ext extA) hr.1) ?_
      rintro _ H6 g6 ⟨⟨t1, t2, t3, rfl, hmh, e6⟩, rfl⟩
      have x6 : Ext H H6 := Ext.trans extA e6
      have hb6 : H6[H.length]? = some (.row [.int .i64 m.hour, .int .i64 m.grace, s1, s2, s3] 1 true) := e6.get getA
      have hc6 : H6[H.length + 1]? = some (.row [.int .i64 x.hour, .int .i64 x.grace, s1, (.slice (some ⟨j, 0, none⟩) m.tickets.length c), s3] 1 true) := by rw [hx]; exact e6.get getA
      have hj6 : H6[j]? = some (.row (x.tickets.map encR).flatten 2 true) := by rw [hx]; exact e6.get getA
      have hY : HouseY H6 x s1 (.slice (some ⟨j, 0, none⟩) m.tickets.length c) s3 := by rw [← hlx.len]; exact house_y (hI.ext x6) hlx hgx hj6
      clear e6 hj6 hx
    rotate_left
    all_goals
      have hthx := thin_of_good hgx
      clear e0 e1 x2 hrow hjl hL
      refine OpsJ.normA ?_
      repeat' (first
        | (refine is_ucall ?_; first
          | refine st_callP (h := readyW_spec _ _ _ m s1 s2 s3 (hm.ext extA)) (k := ?_)
          | refine st_callP (h := awake_spec _ _ _) (k := ?_)
          | fail)
        | (refine is_umcall ?_; first
          | refine mj_callP (h := readyW_spec _ _ _ m s1 s2 s3 (hm.ext extA)) (k := ?_)
          | refine mj_callP (h := awake_spec _ _ _) (k := ?_)
          | fail)
        | refine W1 ?_ | refine Wc ?_ | refine W2c ?_ ?_ | refine Wg ?_ | refine W2 ?_ ?_ | exact Wdead | refine Wlive (fun hb => ?_) | intro _ _ _ _ _ _ _ _ | refine We ?_ | refine Wx ?_ | refine Wt ?_ | refine Wm ?_ | refine W2m ?_ ?_ | refine Wl ?_
        | fail)
      have hhx := hlx.has
      cases hT : hasS m with
      | true =>
        have hT0 : checkT m = 0 := by unfold checkT; rw [if_pos hr.2, if_pos hT]
        have hTx : checkT x = 0 := by unfold checkT; rw [if_pos (checkY hgx), hhx, if_pos hT]
        refine st_call rfl (HoursRY E _ _ m t1 t2 t3 hT0 (hmh.ext extA)) ?_
        rintro _ H7 g7 ⟨⟨av, rfl, hA, e7⟩, rfl⟩
        have x7 : Ext H H7 := x6.trans e7
        have hb7 := e7.get hb6
        have hc7 := e7.get hc6
        replace hY := hY.ext e7
        refine OpsJ.normA ?_
        repeat' (first
          | (refine is_ucall ?_; first
            | refine st_callP (h := readyW_spec _ _ _ m s1 s2 s3 (hm.ext extA)) (k := ?_)
            | refine st_callP (h := awake_spec _ _ _) (k := ?_)
            | fail)
          | (refine is_umcall ?_; first
            | refine mj_callP (h := readyW_spec _ _ _ m s1 s2 s3 (hm.ext extA)) (k := ?_)
            | refine mj_callP (h := awake_spec _ _ _) (k := ?_)
            | fail)
          | refine W1 ?_ | refine Wc ?_ | refine W2c ?_ ?_ | refine Wg ?_ | refine W2 ?_ ?_ | exact Wdead | refine Wlive (fun hb => ?_) | intro _ _ _ _ _ _ _ _ | refine We ?_ | refine Wx ?_ | refine Wt ?_ | refine Wm ?_ | refine W2m ?_ ?_ | refine Wl ?_
          | fail)
        refine st_call rfl (House_wy E _ _ x _ _ _ hY hthx) ?_
        rintro _ H8 g8 ⟨⟨t1, t2, t3, rfl, hmh, e8⟩, rfl⟩
        have x8 : Ext H H8 := x7.trans e8
        have hb8 := e8.get hb7
        have hc8 := e8.get hc7
        replace hY := hY.ext e8
        replace hA := hA.ext e8
        refine OpsJ.normA ?_
        repeat' (first
          | (refine is_ucall ?_; first
            | refine st_callP (h := readyW_spec _ _ _ m s1 s2 s3 (hm.ext extA)) (k := ?_)
            | refine st_callP (h := awake_spec _ _ _) (k := ?_)
            | fail)
          | (refine is_umcall ?_; first
            | refine mj_callP (h := readyW_spec _ _ _ m s1 s2 s3 (hm.ext extA)) (k := ?_)
            | refine mj_callP (h := awake_spec _ _ _) (k := ?_)
            | fail)
          | refine W1 ?_ | refine Wc ?_ | refine W2c ?_ ?_ | refine Wg ?_ | refine W2 ?_ ?_ | exact Wdead | refine Wlive (fun hb => ?_) | intro _ _ _ _ _ _ _ _ | refine We ?_ | refine Wx ?_ | refine Wt ?_ | refine Wm ?_ | refine W2m ?_ ?_ | refine Wl ?_
          | fail)
        refine st_call rfl (HoursRY E _ _ x t1 t2 t3 hTx (hmh.ext extA)) ?_
        rintro _ H9 g9 ⟨⟨bv, rfl, hB, e9⟩, rfl⟩
        have x9 : Ext H H9 := x8.trans e9
        have hb9 := e9.get hb8
        have hc9 := e9.get hc8
        replace hY := hY.ext e9
        replace hA := hA.ext e9
        refine OpsJ.normA ?_
        repeat' (first
          | (refine is_ucall ?_; first
            | refine st_callP (h := readyW_spec _ _ _ m s1 s2 s3 (hm.ext extA)) (k := ?_)
            | refine st_callP (h := awake_spec _ _ _) (k := ?_)
            | fail)
          | (refine is_umcall ?_; first
            | refine mj_callP (h := readyW_spec _ _ _ m s1 s2 s3 (hm.ext extA)) (k := ?_)
            | refine mj_callP (h := awake_spec _ _ _) (k := ?_)
            | fail)
          | refine W1 ?_ | refine Wc ?_ | refine W2c ?_ ?_ | refine Wg ?_ | refine W2 ?_ ?_ | exact Wdead | refine Wlive (fun hb => ?_) | intro _ _ _ _ _ _ _ _ | refine We ?_ | refine Wx ?_ | refine Wt ?_ | refine Wm ?_ | refine W2m ?_ ?_ | refine Wl ?_
          | fail)
        refine st_call rfl (House_w E _ _ m s1 s2 s3 (hI.ext x9) hr.1) ?_
        rintro _ H10 g10 ⟨⟨t1, t2, t3, rfl, hmh, e10⟩, rfl⟩
        have x10 : Ext H H10 := x9.trans e10
        have hb10 := e10.get hb9
        have hc10 := e10.get hc9
        replace hY := hY.ext e10
        replace hA := hA.ext e10
        replace hB := hB.ext e10
        refine OpsJ.normA ?_
        repeat' (first
          | (refine is_ucall ?_; first
            | refine st_callP (h := readyW_spec _ _ _ m s1 s2 s3 (hm.ext extA)) (k := ?_)
            | refine st_callP (h := awake_spec _ _ _) (k := ?_)
            | fail)
          | (refine is_umcall ?_; first
            | refine mj_callP (h := readyW_spec _ _ _ m s1 s2 s3 (hm.ext extA)) (k := ?_)
            | refine mj_callP (h := awake_spec _ _ _) (k := ?_)
            | fail)
          | refine W1 ?_ | refine Wc ?_ | refine W2c ?_ ?_ | refine Wg ?_ | refine W2 ?_ ?_ | exact Wdead | refine Wlive (fun hb => ?_) | intro _ _ _ _ _ _ _ _ | refine We ?_ | refine Wx ?_ | refine Wt ?_ | refine Wm ?_ | refine W2m ?_ ?_ | refine Wl ?_
          | fail)
        refine st_call rfl (LongRY E _ _ m t1 t2 t3 hT0 (hmh.ext extA)) ?_
        rintro _ H11 g11 ⟨⟨uv, rfl, hU, e11⟩, rfl⟩
        have x11 : Ext H H11 := x10.trans e11
        have hb11 := e11.get hb10
        have hc11 := e11.get hc10
        replace hY := hY.ext e11
        replace hA := hA.ext e11
        replace hB := hB.ext e11
        refine OpsJ.normA ?_
        repeat' (first
          | (refine is_ucall ?_; first
            | refine st_callP (h := readyW_spec _ _ _ m s1 s2 s3 (hm.ext extA)) (k := ?_)
            | refine st_callP (h := awake_spec _ _ _) (k := ?_)
            | fail)
          | (refine is_umcall ?_; first
            | refine mj_callP (h := readyW_spec _ _ _ m s1 s2 s3 (hm.ext extA)) (k := ?_)
            | refine mj_callP (h := awake_spec _ _ _) (k := ?_)
            | fail)
          | refine W1 ?_ | refine Wc ?_ | refine W2c ?_ ?_ | refine Wg ?_ | refine W2 ?_ ?_ | exact Wdead | refine Wlive (fun hb => ?_) | intro _ _ _ _ _ _ _ _ | refine We ?_ | refine Wx ?_ | refine Wt ?_ | refine Wm ?_ | refine W2m ?_ ?_ | refine Wl ?_
          | fail)
        refine st_call rfl (House_wy E _ _ x _ _ _ hY hthx) ?_
        rintro _ H12 g12 ⟨⟨t1, t2, t3, rfl, hmh, e12⟩, rfl⟩
        have x12 : Ext H H12 := x11.trans e12
        have hb12 := e12.get hb11
        have hc12 := e12.get hc11
        replace hY := hY.ext e12
        replace hA := hA.ext e12
        replace hB := hB.ext e12
        replace hU := hU.ext e12
        refine OpsJ.normA ?_
        repeat' (first
          | (refine is_ucall ?_; first
            | refine st_callP (h := readyW_spec _ _ _ m s1 s2 s3 (hm.ext extA)) (k := ?_)
            | refine st_callP (h := awake_spec _ _ _) (k := ?_)
            | fail)
          | (refine is_umcall ?_; first
            | refine mj_callP (h := readyW_spec _ _ _ m s1 s2 s3 (hm.ext extA)) (k := ?_)
            | refine mj_callP (h := awake_spec _ _ _) (k := ?_)
            | fail)
          | refine W1 ?_ | refine Wc ?_ | refine W2c ?_ ?_ | refine Wg ?_ | refine W2 ?_ ?_ | exact Wdead | refine Wlive (fun hb => ?_) | intro _ _ _ _ _ _ _ _ | refine We ?_ | refine Wx ?_ | refine Wt ?_ | refine Wm ?_ | refine W2m ?_ ?_ | refine Wl ?_
          | fail)
        refine st_call rfl (LongRY E _ _ x t1 t2 t3 hTx (hmh.ext extA)) ?_
        rintro _ H13 g13 ⟨⟨vv, rfl, hV, e13⟩, rfl⟩
        have x13 : Ext H H13 := x12.trans e13
        have hb13 := e13.get hb12
        have hc13 := e13.get hc12
        replace hY := hY.ext e13
        replace hA := hA.ext e13
        replace hB := hB.ext e13
        replace hU := hU.ext e13
        clear e7 e8 e9 e10 e11 e12 e13 x7 hb7 hc7 x8 hb8 hc8 x9 hb9 hc9 x10 hb10 hc10 x11 hb11 hc11 x12 hb12 hc12 hmh
        have hal : (hrsS m).length = m.tickets.length := by simp [hrsS]
        have hbl : (hrsS x).length = m.tickets.length := by simp [hrsS, hlx.len]
        have hul : (longS m).length = m.tickets.length := by simp [longS]
        have hvl : (longS x).length = m.tickets.length := by simp [longS, hlx.len]
        refine OpsJ.normA ?_
        repeat' (first
          | (refine is_ucall ?_; first
            | refine st_callP (h := readyW_spec _ _ _ m s1 s2 s3 (hm.ext extA)) (k := ?_)
            | refine st_callP (h := awake_spec _ _ _) (k := ?_)
            | fail)
          | (refine is_umcall ?_; first
            | refine mj_callP (h := readyW_spec _ _ _ m s1 s2 s3 (hm.ext extA)) (k := ?_)
            | refine mj_callP (h := awake_spec _ _ _) (k := ?_)
            | fail)
          | refine W1 ?_ | refine Wc ?_ | refine W2c ?_ ?_ | refine Wg ?_ | refine W2 ?_ ?_ | exact Wdead | refine Wlive (fun hb => ?_) | intro _ _ _ _ _ _ _ _ | refine We ?_ | refine Wx ?_ | refine Wt ?_ | refine Wm ?_ | refine W2m ?_ ?_ | refine Wl ?_
          | fail)
        refine WPJ.loopT m.tickets.length [157, 158, 159, 160, 161, 162, 163, 164, 165, 166, 167, 168, 169, 170, 171, 172, 173, 174, 175, 176, 177, 178, 179, 180, 181, 182, 183, 184, 185, 186, 187, 188, 189, 190, 191, 192, 193, 194, 195, 196, 197, 198, 199, 200, 201, 202, 203, 204, 205, 206, 207, 208, 209, 210, 211, 212, 213, 214] (fun k (_ : Unit) => [(18, .int .i64 k)]) (fun _ _ Hx gx => gx = g13 ∧ Hx = H13) 0 () (Nat.zero_le _) (by intro p hp; simp at hp; rcases hp with rfl; rfl) ⟨rfl, rfl⟩ ?_
        rintro k _ Hx gx hk ⟨rfl, rfl⟩ hl0
        simp only [updT, maskT, List.set_cons_zero, List.set_cons_succ]
        rcases Nat.lt_or_ge k m.tickets.length with hlt | hge
        · obtain ⟨ra, rb, u, v, hea, heb, heu, hev, h1, h2, h3, h4⟩ := hlx.at_ (by omega) hT hlt
          repeat' (first
            | (refine is_ucall ?_; first
              | refine st_callP (h := readyW_spec _ _ _ m s1 s2 s3 (hm.ext extA)) (k := ?_)
              | refine st_callP (h := awake_spec _ _ _) (k := ?_)
              | fail)
            | (refine is_umcall ?_; first
              | refine mj_callP (h := readyW_spec _ _ _ m s1 s2 s3 (hm.ext extA)) (k := ?_)
              | refine mj_callP (h := awake_spec _ _ _) (k := ?_)
              | fail)
            | refine W1 ?_ | refine Wc ?_ | refine W2c ?_ ?_ | refine Wg ?_ | refine W2 ?_ ?_ | exact Wdead | refine Wlive (fun hb => ?_) | intro _ _ _ _ _ _ _ _ | refine We ?_ | refine Wx ?_ | refine Wt ?_ | refine Wm ?_ | refine W2m ?_ ?_ | refine Wl ?_
            | fail)
          refine WPJ.draw 52 mixed (by kernel_rfl) (by kernel_rfl) (by kernel_rfl) (by decide) ?_
          refine MonoJ.normA ?_
          repeat' (first
            | (refine is_ucall ?_; first
              | refine st_callP (h := readyW_spec _ _ _ m s1 s2 s3 (hm.ext extA)) (k := ?_)
              | refine st_callP (h := awake_spec _ _ _) (k := ?_)
              | fail)
            | (refine is_umcall ?_; first
              | refine mj_callP (h := readyW_spec _ _ _ m s1 s2 s3 (hm.ext extA)) (k := ?_)
              | refine mj_callP (h := awake_spec _ _ _) (k := ?_)
              | fail)
            | refine W1 ?_ | refine Wc ?_ | refine W2c ?_ ?_ | refine Wg ?_ | refine W2 ?_ ?_ | exact Wdead | refine Wlive (fun hb => ?_) | intro _ _ _ _ _ _ _ _ | refine We ?_ | refine Wx ?_ | refine Wt ?_ | refine Wm ?_ | refine W2m ?_ ?_ | refine Wl ?_
            | fail)
          all_goals first | exact ⟨(), hlt, (by repeat' (first | exact Weak.nil | refine Weak.wild ?_ | refine Weak.same ?_ | refine Weak.intEq (by first | omega | (simp; done) | (push_cast; omega)) ?_)), rfl, rfl⟩ | (exfalso; omega)
        · obtain rfl : k = m.tickets.length := by omega
          repeat' (first
            | (refine is_ucall ?_; first
              | refine st_callP (h := readyW_spec _ _ _ m s1 s2 s3 (hm.ext extA)) (k := ?_)
              | refine st_callP (h := awake_spec _ _ _) (k := ?_)
              | fail)
            | (refine is_umcall ?_; first
              | refine mj_callP (h := readyW_spec _ _ _ m s1 s2 s3 (hm.ext extA)) (k := ?_)
              | refine mj_callP (h := awake_spec _ _ _) (k := ?_)
              | fail)
            | refine W1 ?_ | refine Wc ?_ | refine W2c ?_ ?_ | refine Wg ?_ | refine W2 ?_ ?_ | exact Wdead | refine Wlive (fun hb => ?_) | intro _ _ _ _ _ _ _ _ | refine We ?_ | refine Wx ?_ | refine Wt ?_ | refine Wm ?_ | refine W2m ?_ ?_ | refine Wl ?_
            | fail)
          exact ⟨rfl, rfl, rfl⟩
      | false =>
        have hT0 : checkT m = 11 := by unfold checkT; rw [if_pos hr.2, hT]; rfl
        have hTx : checkT x = 11 := by unfold checkT; rw [if_pos (checkY hgx), hhx, hT]; rfl
        refine st_call rfl (HoursEY E _ _ m t1 t2 t3 11 hT0 (by decide) (hmh.ext extA)) ?_
        rintro _ H7 g7 ⟨⟨rfl, e7⟩, rfl⟩
        have x7 : Ext H H7 := x6.trans e7
        have hb7 := e7.get hb6
        have hc7 := e7.get hc6
        replace hY := hY.ext e7
        refine OpsJ.normA ?_
        repeat' (first
          | (refine is_ucall ?_; first
            | refine st_callP (h := readyW_spec _ _ _ m s1 s2 s3 (hm.ext extA)) (k := ?_)
            | refine st_callP (h := awake_spec _ _ _) (k := ?_)
            | fail)
          | (refine is_umcall ?_; first
            | refine mj_callP (h := readyW_spec _ _ _ m s1 s2 s3 (hm.ext extA)) (k := ?_)
            | refine mj_callP (h := awake_spec _ _ _) (k := ?_)
            | fail)
          | refine W1 ?_ | refine Wc ?_ | refine W2c ?_ ?_ | refine Wg ?_ | refine W2 ?_ ?_ | exact Wdead | refine Wlive (fun hb => ?_) | intro _ _ _ _ _ _ _ _ | refine We ?_ | refine Wx ?_ | refine Wt ?_ | refine Wm ?_ | refine W2m ?_ ?_ | refine Wl ?_
          | fail)
        refine st_call rfl (House_wy E _ _ x _ _ _ hY hthx) ?_
        rintro _ H8 g8 ⟨⟨t1, t2, t3, rfl, hmh, e8⟩, rfl⟩
        have x8 : Ext H H8 := x7.trans e8
        have hb8 := e8.get hb7
        have hc8 := e8.get hc7
        replace hY := hY.ext e8
        refine OpsJ.normA ?_
        repeat' (first
          | (refine is_ucall ?_; first
            | refine st_callP (h := readyW_spec _ _ _ m s1 s2 s3 (hm.ext extA)) (k := ?_)
            | refine st_callP (h := awake_spec _ _ _) (k := ?_)
            | fail)
          | (refine is_umcall ?_; first
            | refine mj_callP (h := readyW_spec _ _ _ m s1 s2 s3 (hm.ext extA)) (k := ?_)
            | refine mj_callP (h := awake_spec _ _ _) (k := ?_)
            | fail)
          | refine W1 ?_ | refine Wc ?_ | refine W2c ?_ ?_ | refine Wg ?_ | refine W2 ?_ ?_ | exact Wdead | refine Wlive (fun hb => ?_) | intro _ _ _ _ _ _ _ _ | refine We ?_ | refine Wx ?_ | refine Wt ?_ | refine Wm ?_ | refine W2m ?_ ?_ | refine Wl ?_
          | fail)
        refine st_call rfl (HoursEY E _ _ x t1 t2 t3 11 hTx (by decide) (hmh.ext extA)) ?_
        rintro _ H9 g9 ⟨⟨rfl, e9⟩, rfl⟩
        have x9 : Ext H H9 := x8.trans e9
        have hb9 := e9.get hb8
        have hc9 := e9.get hc8
        replace hY := hY.ext e9
        refine OpsJ.normA ?_
        repeat' (first
          | (refine is_ucall ?_; first
            | refine st_callP (h := readyW_spec _ _ _ m s1 s2 s3 (hm.ext extA)) (k := ?_)
            | refine st_callP (h := awake_spec _ _ _) (k := ?_)
            | fail)
          | (refine is_umcall ?_; first
            | refine mj_callP (h := readyW_spec _ _ _ m s1 s2 s3 (hm.ext extA)) (k := ?_)
            | refine mj_callP (h := awake_spec _ _ _) (k := ?_)
            | fail)
          | refine W1 ?_ | refine Wc ?_ | refine W2c ?_ ?_ | refine Wg ?_ | refine W2 ?_ ?_ | exact Wdead | refine Wlive (fun hb => ?_) | intro _ _ _ _ _ _ _ _ | refine We ?_ | refine Wx ?_ | refine Wt ?_ | refine Wm ?_ | refine W2m ?_ ?_ | refine Wl ?_
          | fail)
        refine st_call rfl (House_w E _ _ m s1 s2 s3 (hI.ext x9) hr.1) ?_
        rintro _ H10 g10 ⟨⟨t1, t2, t3, rfl, hmh, e10⟩, rfl⟩
        have x10 : Ext H H10 := x9.trans e10
        have hb10 := e10.get hb9
        have hc10 := e10.get hc9
        replace hY := hY.ext e10
        refine OpsJ.normA ?_
        repeat' (first
          | (refine is_ucall ?_; first
            | refine st_callP (h := readyW_spec _ _ _ m s1 s2 s3 (hm.ext extA)) (k := ?_)
            | refine st_callP (h := awake_spec _ _ _) (k := ?_)
            | fail)
          | (refine is_umcall ?_; first
            | refine mj_callP (h := readyW_spec _ _ _ m s1 s2 s3 (hm.ext extA)) (k := ?_)
            | refine mj_callP (h := awake_spec _ _ _) (k := ?_)
            | fail)
          | refine W1 ?_ | refine Wc ?_ | refine W2c ?_ ?_ | refine Wg ?_ | refine W2 ?_ ?_ | exact Wdead | refine Wlive (fun hb => ?_) | intro _ _ _ _ _ _ _ _ | refine We ?_ | refine Wx ?_ | refine Wt ?_ | refine Wm ?_ | refine W2m ?_ ?_ | refine Wl ?_
          | fail)
        refine st_call rfl (LongEY E _ _ m t1 t2 t3 11 hT0 (by decide) (hmh.ext extA)) ?_
        rintro _ H11 g11 ⟨⟨rfl, e11⟩, rfl⟩
        have x11 : Ext H H11 := x10.trans e11
        have hb11 := e11.get hb10
        have hc11 := e11.get hc10
        replace hY := hY.ext e11
        refine OpsJ.normA ?_
        repeat' (first
          | (refine is_ucall ?_; first
            | refine st_callP (h := readyW_spec _ _ _ m s1 s2 s3 (hm.ext extA)) (k := ?_)
            | refine st_callP (h := awake_spec _ _ _) (k := ?_)
            | fail)
          | (refine is_umcall ?_; first
            | refine mj_callP (h := readyW_spec _ _ _ m s1 s2 s3 (hm.ext extA)) (k := ?_)
            | refine mj_callP (h := awake_spec _ _ _) (k := ?_)
            | fail)
          | refine W1 ?_ | refine Wc ?_ | refine W2c ?_ ?_ | refine Wg ?_ | refine W2 ?_ ?_ | exact Wdead | refine Wlive (fun hb => ?_) | intro _ _ _ _ _ _ _ _ | refine We ?_ | refine Wx ?_ | refine Wt ?_ | refine Wm ?_ | refine W2m ?_ ?_ | refine Wl ?_
          | fail)
        refine st_call rfl (House_wy E _ _ x _ _ _ hY hthx) ?_
        rintro _ H12 g12 ⟨⟨t1, t2, t3, rfl, hmh, e12⟩, rfl⟩
        have x12 : Ext H H12 := x11.trans e12
        have hb12 := e12.get hb11
        have hc12 := e12.get hc11
        replace hY := hY.ext e12
        refine OpsJ.normA ?_
        repeat' (first
          | (refine is_ucall ?_; first
            | refine st_callP (h := readyW_spec _ _ _ m s1 s2 s3 (hm.ext extA)) (k := ?_)
            | refine st_callP (h := awake_spec _ _ _) (k := ?_)
            | fail)
          | (refine is_umcall ?_; first
            | refine mj_callP (h := readyW_spec _ _ _ m s1 s2 s3 (hm.ext extA)) (k := ?_)
            | refine mj_callP (h := awake_spec _ _ _) (k := ?_)
            | fail)
          | refine W1 ?_ | refine Wc ?_ | refine W2c ?_ ?_ | refine Wg ?_ | refine W2 ?_ ?_ | exact Wdead | refine Wlive (fun hb => ?_) | intro _ _ _ _ _ _ _ _ | refine We ?_ | refine Wx ?_ | refine Wt ?_ | refine Wm ?_ | refine W2m ?_ ?_ | refine Wl ?_
          | fail)
        refine st_call rfl (LongEY E _ _ x t1 t2 t3 11 hTx (by decide) (hmh.ext extA)) ?_
        rintro _ H13 g13 ⟨⟨rfl, e13⟩, rfl⟩
        have x13 : Ext H H13 := x12.trans e13
        have hb13 := e13.get hb12
        have hc13 := e13.get hc12
        replace hY := hY.ext e13
        refine OpsJ.normA ?_
        repeat' (first
          | (refine is_ucall ?_; first
            | refine st_callP (h := readyW_spec _ _ _ m s1 s2 s3 (hm.ext extA)) (k := ?_)
            | refine st_callP (h := awake_spec _ _ _) (k := ?_)
            | fail)
          | (refine is_umcall ?_; first
            | refine mj_callP (h := readyW_spec _ _ _ m s1 s2 s3 (hm.ext extA)) (k := ?_)
            | refine mj_callP (h := awake_spec _ _ _) (k := ?_)
            | fail)
          | refine W1 ?_ | refine Wc ?_ | refine W2c ?_ ?_ | refine Wg ?_ | refine W2 ?_ ?_ | exact Wdead | refine Wlive (fun hb => ?_) | intro _ _ _ _ _ _ _ _ | refine We ?_ | refine Wx ?_ | refine Wt ?_ | refine Wm ?_ | refine W2m ?_ ?_ | refine Wl ?_
          | fail)
        exact ⟨rfl, rfl, rfl⟩
end
end Go.Proofs.Ytehobnpoeodhkaa
