import Derived.Test.YtehobnpoeodhkaaRg
import Derived.Test.YtehobnpoeodhkaaKw
import Derived.Test.YtehobnpoeodhkaaV9
namespace Go.Proofs.Ytehobnpoeodhkaa
open Go Go.Abs Go.Proofs
set_option maxHeartbeats 8000000
set_option maxRecDepth 20000
attribute [local irreducible] CallJ OpsJ WPJ CallV MonoJ SpecJ

section
variable {γ : Type} (E : Env γ) (g : γ) (H : AHeap)
theorem ProveC (m : HouseM) (s1 s2 s3 lv : Value) (l : List Int) (hS : checkS m = 0) (hE : isE m l = true) (hR : riseS m l = true) (hm : HouseIs H m s1 s2 s3) (hr : RdS H lv 1 (encI l)) (hn : l.length ≤ 1000000) : CallJ Try.prog E 28 [hv m s1 s2 s3, lv] (fun v H' g' => v = .bool true ∧ H' = H ∧ g' = g) H g := by
  have h : proveS m l = true := by rw [prove_eq hS, hE, hR]; rfl
  rw [← h]; exact ProveTruth_spec E g H m s1 s2 s3 lv l hm hr hn
theorem truth_law (m : HouseM) (s1 s2 s3 : Value) (w : Int) (hm : HouseW H m s1 s2 s3) (hw : 0 ≤ w ∧ w ≤ 65535) : CallJ Try.prog E 11 [hv m s1 s2 s3, .int .u16 w] (fun v H' g' => v = .bool true ∧ H' = H ∧ g' = g) H g := by
  have hok : [Value.int .i64 m.hour, Value.int .i64 m.grace, s1, s2, s3].all cellOk = true := by have := hm.ok; simp [cellOk] at this ⊢; exact this
  refine CallJ.tidy ?_
  unfold hv
  refine CallJ.enter Try.func11 rfl (by simp only [Try.ntmps11, List.length_cons, List.length_nil, Nat.zero_add, Nat.reduceAdd, Nat.reduceSub, List.replicate_succ, List.replicate_zero, List.cons_append, List.nil_append]; rfl) ?_
  repeat' (first
    | (refine is_ucall ?_; first
      | refine st_callP (h := readyW_spec _ _ _ m s1 s2 s3 (hm.ext extA)) (k := ?_)
      | refine st_callP (h := awake_spec _ _ _) (k := ?_)
      | refine st_callP (h := IsPaid_spec _ _ _ m s1 s2 s3 tv l (hI.ext extA) (hr1.ext extA) hG hE) (k := ?_)
      | refine st_callP (h := steady_true _ _ _ _ _ hsp) (k := ?_)
      | refine st_callP (h := HoursR_spec _ _ _ m s1 s2 s3 tv l _ (hI.ext extA) (hr1.ext extA) hG hE) (k := ?_)
      | refine st_callP (h := IsLong_spec _ _ _ m s1 s2 s3 tv l _ (hI.ext extA) (hr1.ext extA) hG hE hlt2) (k := ?_)
      | refine st_callP (h := steady_true _ _ _ _ _ hsl) (k := ?_)
      | refine st_callP (h := in_true _ _ _ _ _ hin) (k := ?_)
      | fail)
    | (refine is_umcall ?_; first
      | refine mj_callP (h := readyW_spec _ _ _ m s1 s2 s3 (hm.ext extA)) (k := ?_)
      | refine mj_callP (h := awake_spec _ _ _) (k := ?_)
      | refine mj_callP (h := IsPaid_spec _ _ _ m s1 s2 s3 tv l (hI.ext extA) (hr1.ext extA) hG hE) (k := ?_)
      | refine mj_callP (h := steady_true _ _ _ _ _ hsp) (k := ?_)
      | refine mj_callP (h := HoursR_spec _ _ _ m s1 s2 s3 tv l _ (hI.ext extA) (hr1.ext extA) hG hE) (k := ?_)
      | refine mj_callP (h := IsLong_spec _ _ _ m s1 s2 s3 tv l _ (hI.ext extA) (hr1.ext extA) hG hE hlt2) (k := ?_)
      | refine mj_callP (h := steady_true _ _ _ _ _ hsl) (k := ?_)
      | refine mj_callP (h := in_true _ _ _ _ _ hin) (k := ?_)
      | fail)
    | refine W1 ?_ | refine Wc ?_ | refine W2c ?_ ?_ | refine Wg ?_ | refine W2 ?_ ?_ | exact Wdead | refine Wlive (fun hb => ?_) | intro _ _ _ _ _ _ _ _ | refine We ?_ | refine Wx ?_ | refine Wt ?_ | refine Wm ?_ | refine W2m ?_ ?_ | refine Wl ?_
    | fail)
  · exact ⟨rfl, rfl, rfl⟩
  · have hr : thinS m = true ∧ checkS m = 0 := by assumption
    have hI := hm.is hr.1
    have hst := hI.tickets
    have hG := good_of hr.2
    have hn1 := hG.n1
    have hn2 := hG.n2
    have x0 : Ext H (H ++ [.row [.int .i64 m.hour, .int .i64 m.grace, s1, s2, s3] 1 true]) := extA
    have hb0 : (H ++ [AObj.row [.int .i64 m.hour, .int .i64 m.grace, s1, s2, s3] 1 true])[H.length]? = some (.row [.int .i64 m.hour, .int .i64 m.grace, s1, s2, s3] 1 true) := getA
    cases hT : hasS m with
    | true =>
      have hT0 : checkT m = 0 := by unfold checkT; rw [if_pos hr.2, if_pos hT]
      refine st_call rfl (pickT E _ _ m s1 s2 s3 w hw hr.2 hT (hI.ext x0)) ?_
      rintro _ H1 g1 ⟨⟨tv, l, rfl, hl, hr1, e1⟩, rfl⟩
      have x1 : Ext H H1 := x0.trans e1
      have hb1 := e1.get hb0
      have hE := ref_isE hG l hl
      have hR := ((mem_ref hG l).1 hl).2
      have hln : l.length = m.clocks.length := by have := hE; simp only [isE, Bool.and_eq_true, decide_eq_true_eq] at this; omega
      refine OpsJ.normA ?_
      repeat' (first
        | (refine is_ucall ?_; first
          | refine st_callP (h := readyW_spec _ _ _ m s1 s2 s3 (hm.ext extA)) (k := ?_)
          | refine st_callP (h := awake_spec _ _ _) (k := ?_)
          | refine st_callP (h := IsPaid_spec _ _ _ m s1 s2 s3 tv l (hI.ext extA) (hr1.ext extA) hG hE) (k := ?_)
          | refine st_callP (h := steady_true _ _ _ _ _ hsp) (k := ?_)
          | refine st_callP (h := HoursR_spec _ _ _ m s1 s2 s3 tv l _ (hI.ext extA) (hr1.ext extA) hG hE) (k := ?_)
          | refine st_callP (h := IsLong_spec _ _ _ m s1 s2 s3 tv l _ (hI.ext extA) (hr1.ext extA) hG hE hlt2) (k := ?_)
          | refine st_callP (h := steady_true _ _ _ _ _ hsl) (k := ?_)
          | refine st_callP (h := in_true _ _ _ _ _ hin) (k := ?_)
          | fail)
        | (refine is_umcall ?_; first
          | refine mj_callP (h := readyW_spec _ _ _ m s1 s2 s3 (hm.ext extA)) (k := ?_)
          | refine mj_callP (h := awake_spec _ _ _) (k := ?_)
          | refine mj_callP (h := IsPaid_spec _ _ _ m s1 s2 s3 tv l (hI.ext extA) (hr1.ext extA) hG hE) (k := ?_)
          | refine mj_callP (h := steady_true _ _ _ _ _ hsp) (k := ?_)
          | refine mj_callP (h := HoursR_spec _ _ _ m s1 s2 s3 tv l _ (hI.ext extA) (hr1.ext extA) hG hE) (k := ?_)
          | refine mj_callP (h := IsLong_spec _ _ _ m s1 s2 s3 tv l _ (hI.ext extA) (hr1.ext extA) hG hE hlt2) (k := ?_)
          | refine mj_callP (h := steady_true _ _ _ _ _ hsl) (k := ?_)
          | refine mj_callP (h := in_true _ _ _ _ _ hin) (k := ?_)
          | fail)
        | refine W1 ?_ | refine Wc ?_ | refine W2c ?_ ?_ | refine Wg ?_ | refine W2 ?_ ?_ | exact Wdead | refine Wlive (fun hb => ?_) | intro _ _ _ _ _ _ _ _ | refine We ?_ | refine Wx ?_ | refine Wt ?_ | refine Wm ?_ | refine W2m ?_ ?_ | refine Wl ?_
        | fail)
      refine st_call rfl (House_w E _ _ m s1 s2 s3 (hI.ext x1) hr.1) ?_
      rintro _ H2 g2 ⟨⟨t1, t2, t3, rfl, hmh, e2⟩, rfl⟩
      have x2 : Ext H H2 := x1.trans e2
      have hb2 := e2.get hb1
      replace hr1 := hr1.ext e2
      refine OpsJ.normA ?_
      repeat' (first
        | (refine is_ucall ?_; first
          | refine st_callP (h := readyW_spec _ _ _ m s1 s2 s3 (hm.ext extA)) (k := ?_)
          | refine st_callP (h := awake_spec _ _ _) (k := ?_)
          | refine st_callP (h := IsPaid_spec _ _ _ m s1 s2 s3 tv l (hI.ext extA) (hr1.ext extA) hG hE) (k := ?_)
          | refine st_callP (h := steady_true _ _ _ _ _ hsp) (k := ?_)
          | refine st_callP (h := HoursR_spec _ _ _ m s1 s2 s3 tv l _ (hI.ext extA) (hr1.ext extA) hG hE) (k := ?_)
          | refine st_callP (h := IsLong_spec _ _ _ m s1 s2 s3 tv l _ (hI.ext extA) (hr1.ext extA) hG hE hlt2) (k := ?_)
          | refine st_callP (h := steady_true _ _ _ _ _ hsl) (k := ?_)
          | refine st_callP (h := in_true _ _ _ _ _ hin) (k := ?_)
          | fail)
        | (refine is_umcall ?_; first
          | refine mj_callP (h := readyW_spec _ _ _ m s1 s2 s3 (hm.ext extA)) (k := ?_)
          | refine mj_callP (h := awake_spec _ _ _) (k := ?_)
          | refine mj_callP (h := IsPaid_spec _ _ _ m s1 s2 s3 tv l (hI.ext extA) (hr1.ext extA) hG hE) (k := ?_)
          | refine mj_callP (h := steady_true _ _ _ _ _ hsp) (k := ?_)
          | refine mj_callP (h := HoursR_spec _ _ _ m s1 s2 s3 tv l _ (hI.ext extA) (hr1.ext extA) hG hE) (k := ?_)
          | refine mj_callP (h := IsLong_spec _ _ _ m s1 s2 s3 tv l _ (hI.ext extA) (hr1.ext extA) hG hE hlt2) (k := ?_)
          | refine mj_callP (h := steady_true _ _ _ _ _ hsl) (k := ?_)
          | refine mj_callP (h := in_true _ _ _ _ _ hin) (k := ?_)
          | fail)
        | refine W1 ?_ | refine Wc ?_ | refine W2c ?_ ?_ | refine Wg ?_ | refine W2 ?_ ?_ | exact Wdead | refine Wlive (fun hb => ?_) | intro _ _ _ _ _ _ _ _ | refine We ?_ | refine Wx ?_ | refine Wt ?_ | refine Wm ?_ | refine W2m ?_ ?_ | refine Wl ?_
        | fail)
      refine st_call rfl (LeaveR E _ _ m t1 t2 t3 hr.2 (hmh.ext extA)) ?_
      rintro _ H3 g3 ⟨⟨qv, rfl, hq, e3⟩, rfl⟩
      have x3 : Ext H H3 := x2.trans e3
      have hb3 := e3.get hb2
      replace hr1 := hr1.ext e3
      rw [leave_nil hT] at hq
      refine OpsJ.normA ?_
      repeat' (first
        | (refine is_ucall ?_; first
          | refine st_callP (h := readyW_spec _ _ _ m s1 s2 s3 (hm.ext extA)) (k := ?_)
          | refine st_callP (h := awake_spec _ _ _) (k := ?_)
          | refine st_callP (h := IsPaid_spec _ _ _ m s1 s2 s3 tv l (hI.ext extA) (hr1.ext extA) hG hE) (k := ?_)
          | refine st_callP (h := steady_true _ _ _ _ _ hsp) (k := ?_)
          | refine st_callP (h := HoursR_spec _ _ _ m s1 s2 s3 tv l _ (hI.ext extA) (hr1.ext extA) hG hE) (k := ?_)
          | refine st_callP (h := IsLong_spec _ _ _ m s1 s2 s3 tv l _ (hI.ext extA) (hr1.ext extA) hG hE hlt2) (k := ?_)
          | refine st_callP (h := steady_true _ _ _ _ _ hsl) (k := ?_)
          | refine st_callP (h := in_true _ _ _ _ _ hin) (k := ?_)
          | fail)
        | (refine is_umcall ?_; first
          | refine mj_callP (h := readyW_spec _ _ _ m s1 s2 s3 (hm.ext extA)) (k := ?_)
          | refine mj_callP (h := awake_spec _ _ _) (k := ?_)
          | refine mj_callP (h := IsPaid_spec _ _ _ m s1 s2 s3 tv l (hI.ext extA) (hr1.ext extA) hG hE) (k := ?_)
          | refine mj_callP (h := steady_true _ _ _ _ _ hsp) (k := ?_)
          | refine mj_callP (h := HoursR_spec _ _ _ m s1 s2 s3 tv l _ (hI.ext extA) (hr1.ext extA) hG hE) (k := ?_)
          | refine mj_callP (h := IsLong_spec _ _ _ m s1 s2 s3 tv l _ (hI.ext extA) (hr1.ext extA) hG hE hlt2) (k := ?_)
          | refine mj_callP (h := steady_true _ _ _ _ _ hsl) (k := ?_)
          | refine mj_callP (h := in_true _ _ _ _ _ hin) (k := ?_)
          | fail)
        | refine W1 ?_ | refine Wc ?_ | refine W2c ?_ ?_ | refine Wg ?_ | refine W2 ?_ ?_ | exact Wdead | refine Wlive (fun hb => ?_) | intro _ _ _ _ _ _ _ _ | refine We ?_ | refine Wx ?_ | refine Wt ?_ | refine Wm ?_ | refine W2m ?_ ?_ | refine Wl ?_
        | fail)
      refine st_call rfl (House_w E _ _ m s1 s2 s3 (hI.ext x3) hr.1) ?_
      rintro _ H4 g4 ⟨⟨t1, t2, t3, rfl, hmh, e4⟩, rfl⟩
      have x4 : Ext H H4 := x3.trans e4
      have hb4 := e4.get hb3
      replace hr1 := hr1.ext e4
      replace hq := hq.ext e4
      refine OpsJ.normA ?_
      repeat' (first
        | (refine is_ucall ?_; first
          | refine st_callP (h := readyW_spec _ _ _ m s1 s2 s3 (hm.ext extA)) (k := ?_)
          | refine st_callP (h := awake_spec _ _ _) (k := ?_)
          | refine st_callP (h := IsPaid_spec _ _ _ m s1 s2 s3 tv l (hI.ext extA) (hr1.ext extA) hG hE) (k := ?_)
          | refine st_callP (h := steady_true _ _ _ _ _ hsp) (k := ?_)
          | refine st_callP (h := HoursR_spec _ _ _ m s1 s2 s3 tv l _ (hI.ext extA) (hr1.ext extA) hG hE) (k := ?_)
          | refine st_callP (h := IsLong_spec _ _ _ m s1 s2 s3 tv l _ (hI.ext extA) (hr1.ext extA) hG hE hlt2) (k := ?_)
          | refine st_callP (h := steady_true _ _ _ _ _ hsl) (k := ?_)
          | refine st_callP (h := in_true _ _ _ _ _ hin) (k := ?_)
          | fail)
        | (refine is_umcall ?_; first
          | refine mj_callP (h := readyW_spec _ _ _ m s1 s2 s3 (hm.ext extA)) (k := ?_)
          | refine mj_callP (h := awake_spec _ _ _) (k := ?_)
          | refine mj_callP (h := IsPaid_spec _ _ _ m s1 s2 s3 tv l (hI.ext extA) (hr1.ext extA) hG hE) (k := ?_)
          | refine mj_callP (h := steady_true _ _ _ _ _ hsp) (k := ?_)
          | refine mj_callP (h := HoursR_spec _ _ _ m s1 s2 s3 tv l _ (hI.ext extA) (hr1.ext extA) hG hE) (k := ?_)
          | refine mj_callP (h := IsLong_spec _ _ _ m s1 s2 s3 tv l _ (hI.ext extA) (hr1.ext extA) hG hE hlt2) (k := ?_)
          | refine mj_callP (h := steady_true _ _ _ _ _ hsl) (k := ?_)
          | refine mj_callP (h := in_true _ _ _ _ _ hin) (k := ?_)
          | fail)
        | refine W1 ?_ | refine Wc ?_ | refine W2c ?_ ?_ | refine Wg ?_ | refine W2 ?_ ?_ | exact Wdead | refine Wlive (fun hb => ?_) | intro _ _ _ _ _ _ _ _ | refine We ?_ | refine Wx ?_ | refine Wt ?_ | refine Wm ?_ | refine W2m ?_ ?_ | refine Wl ?_
        | fail)
      refine st_call rfl (ClocksR E _ _ m t1 t2 t3 hT0 (hmh.ext extA)) ?_
      rintro _ H5 g5 ⟨⟨cv, rfl, hc, e5⟩, rfl⟩
      have x5 : Ext H H5 := x4.trans e5
      have hb5 := e5.get hb4
      replace hr1 := hr1.ext e5
      replace hq := hq.ext e5
      refine OpsJ.normA ?_
      repeat' (first
        | (refine is_ucall ?_; first
          | refine st_callP (h := readyW_spec _ _ _ m s1 s2 s3 (hm.ext extA)) (k := ?_)
          | refine st_callP (h := awake_spec _ _ _) (k := ?_)
          | refine st_callP (h := IsPaid_spec _ _ _ m s1 s2 s3 tv l (hI.ext extA) (hr1.ext extA) hG hE) (k := ?_)
          | refine st_callP (h := steady_true _ _ _ _ _ hsp) (k := ?_)
          | refine st_callP (h := HoursR_spec _ _ _ m s1 s2 s3 tv l _ (hI.ext extA) (hr1.ext extA) hG hE) (k := ?_)
          | refine st_callP (h := IsLong_spec _ _ _ m s1 s2 s3 tv l _ (hI.ext extA) (hr1.ext extA) hG hE hlt2) (k := ?_)
          | refine st_callP (h := steady_true _ _ _ _ _ hsl) (k := ?_)
          | refine st_callP (h := in_true _ _ _ _ _ hin) (k := ?_)
          | fail)
        | (refine is_umcall ?_; first
          | refine mj_callP (h := readyW_spec _ _ _ m s1 s2 s3 (hm.ext extA)) (k := ?_)
          | refine mj_callP (h := awake_spec _ _ _) (k := ?_)
          | refine mj_callP (h := IsPaid_spec _ _ _ m s1 s2 s3 tv l (hI.ext extA) (hr1.ext extA) hG hE) (k := ?_)
          | refine mj_callP (h := steady_true _ _ _ _ _ hsp) (k := ?_)
          | refine mj_callP (h := HoursR_spec _ _ _ m s1 s2 s3 tv l _ (hI.ext extA) (hr1.ext extA) hG hE) (k := ?_)
          | refine mj_callP (h := IsLong_spec _ _ _ m s1 s2 s3 tv l _ (hI.ext extA) (hr1.ext extA) hG hE hlt2) (k := ?_)
          | refine mj_callP (h := steady_true _ _ _ _ _ hsl) (k := ?_)
          | refine mj_callP (h := in_true _ _ _ _ _ hin) (k := ?_)
          | fail)
        | refine W1 ?_ | refine Wc ?_ | refine W2c ?_ ?_ | refine Wg ?_ | refine W2 ?_ ?_ | exact Wdead | refine Wlive (fun hb => ?_) | intro _ _ _ _ _ _ _ _ | refine We ?_ | refine Wx ?_ | refine Wt ?_ | refine Wm ?_ | refine W2m ?_ ?_ | refine Wl ?_
        | fail)
      refine st_call rfl (House_w E _ _ m s1 s2 s3 (hI.ext x5) hr.1) ?_
      rintro _ H6 g6 ⟨⟨t1, t2, t3, rfl, hmh, e6⟩, rfl⟩
      have x6 : Ext H H6 := x5.trans e6
      have hb6 := e6.get hb5
      replace hr1 := hr1.ext e6
      replace hq := hq.ext e6
      replace hc := hc.ext e6
      refine OpsJ.normA ?_
      repeat' (first
        | (refine is_ucall ?_; first
          | refine st_callP (h := readyW_spec _ _ _ m s1 s2 s3 (hm.ext extA)) (k := ?_)
          | refine st_callP (h := awake_spec _ _ _) (k := ?_)
          | refine st_callP (h := IsPaid_spec _ _ _ m s1 s2 s3 tv l (hI.ext extA) (hr1.ext extA) hG hE) (k := ?_)
          | refine st_callP (h := steady_true _ _ _ _ _ hsp) (k := ?_)
          | refine st_callP (h := HoursR_spec _ _ _ m s1 s2 s3 tv l _ (hI.ext extA) (hr1.ext extA) hG hE) (k := ?_)
          | refine st_callP (h := IsLong_spec _ _ _ m s1 s2 s3 tv l _ (hI.ext extA) (hr1.ext extA) hG hE hlt2) (k := ?_)
          | refine st_callP (h := steady_true _ _ _ _ _ hsl) (k := ?_)
          | refine st_callP (h := in_true _ _ _ _ _ hin) (k := ?_)
          | fail)
        | (refine is_umcall ?_; first
          | refine mj_callP (h := readyW_spec _ _ _ m s1 s2 s3 (hm.ext extA)) (k := ?_)
          | refine mj_callP (h := awake_spec _ _ _) (k := ?_)
          | refine mj_callP (h := IsPaid_spec _ _ _ m s1 s2 s3 tv l (hI.ext extA) (hr1.ext extA) hG hE) (k := ?_)
          | refine mj_callP (h := steady_true _ _ _ _ _ hsp) (k := ?_)
          | refine mj_callP (h := HoursR_spec _ _ _ m s1 s2 s3 tv l _ (hI.ext extA) (hr1.ext extA) hG hE) (k := ?_)
          | refine mj_callP (h := IsLong_spec _ _ _ m s1 s2 s3 tv l _ (hI.ext extA) (hr1.ext extA) hG hE hlt2) (k := ?_)
          | refine mj_callP (h := steady_true _ _ _ _ _ hsl) (k := ?_)
          | refine mj_callP (h := in_true _ _ _ _ _ hin) (k := ?_)
          | fail)
        | refine W1 ?_ | refine Wc ?_ | refine W2c ?_ ?_ | refine Wg ?_ | refine W2 ?_ ?_ | exact Wdead | refine Wlive (fun hb => ?_) | intro _ _ _ _ _ _ _ _ | refine We ?_ | refine Wx ?_ | refine Wt ?_ | refine Wm ?_ | refine W2m ?_ ?_ | refine Wl ?_
        | fail)
      refine st_call rfl (HoursR E _ _ m t1 t2 t3 hT0 (hmh.ext extA)) ?_
      rintro _ H7 g7 ⟨⟨rv, rfl, hrr, e7⟩, rfl⟩
      have x7 : Ext H H7 := x6.trans e7
      have hb7 := e7.get hb6
      replace hr1 := hr1.ext e7
      replace hq := hq.ext e7
      replace hc := hc.ext e7
      refine OpsJ.normA ?_
      repeat' (first
        | (refine is_ucall ?_; first
          | refine st_callP (h := readyW_spec _ _ _ m s1 s2 s3 (hm.ext extA)) (k := ?_)
          | refine st_callP (h := awake_spec _ _ _) (k := ?_)
          | refine st_callP (h := IsPaid_spec _ _ _ m s1 s2 s3 tv l (hI.ext extA) (hr1.ext extA) hG hE) (k := ?_)
          | refine st_callP (h := steady_true _ _ _ _ _ hsp) (k := ?_)
          | refine st_callP (h := HoursR_spec _ _ _ m s1 s2 s3 tv l _ (hI.ext extA) (hr1.ext extA) hG hE) (k := ?_)
          | refine st_callP (h := IsLong_spec _ _ _ m s1 s2 s3 tv l _ (hI.ext extA) (hr1.ext extA) hG hE hlt2) (k := ?_)
          | refine st_callP (h := steady_true _ _ _ _ _ hsl) (k := ?_)
          | refine st_callP (h := in_true _ _ _ _ _ hin) (k := ?_)
          | fail)
        | (refine is_umcall ?_; first
          | refine mj_callP (h := readyW_spec _ _ _ m s1 s2 s3 (hm.ext extA)) (k := ?_)
          | refine mj_callP (h := awake_spec _ _ _) (k := ?_)
          | refine mj_callP (h := IsPaid_spec _ _ _ m s1 s2 s3 tv l (hI.ext extA) (hr1.ext extA) hG hE) (k := ?_)
          | refine mj_callP (h := steady_true _ _ _ _ _ hsp) (k := ?_)
          | refine mj_callP (h := HoursR_spec _ _ _ m s1 s2 s3 tv l _ (hI.ext extA) (hr1.ext extA) hG hE) (k := ?_)
          | refine mj_callP (h := IsLong_spec _ _ _ m s1 s2 s3 tv l _ (hI.ext extA) (hr1.ext extA) hG hE hlt2) (k := ?_)
          | refine mj_callP (h := steady_true _ _ _ _ _ hsl) (k := ?_)
          | refine mj_callP (h := in_true _ _ _ _ _ hin) (k := ?_)
          | fail)
        | refine W1 ?_ | refine Wc ?_ | refine W2c ?_ ?_ | refine Wg ?_ | refine W2 ?_ ?_ | exact Wdead | refine Wlive (fun hb => ?_) | intro _ _ _ _ _ _ _ _ | refine We ?_ | refine Wx ?_ | refine Wt ?_ | refine Wm ?_ | refine W2m ?_ ?_ | refine Wl ?_
        | fail)
      refine st_call rfl (House_w E _ _ m s1 s2 s3 (hI.ext x7) hr.1) ?_
      rintro _ H8 g8 ⟨⟨t1, t2, t3, rfl, hmh, e8⟩, rfl⟩
      have x8 : Ext H H8 := x7.trans e8
      have hb8 := e8.get hb7
      replace hr1 := hr1.ext e8
      replace hq := hq.ext e8
      replace hc := hc.ext e8
      replace hrr := hrr.ext e8
      refine OpsJ.normA ?_
      repeat' (first
        | (refine is_ucall ?_; first
          | refine st_callP (h := readyW_spec _ _ _ m s1 s2 s3 (hm.ext extA)) (k := ?_)
          | refine st_callP (h := awake_spec _ _ _) (k := ?_)
          | refine st_callP (h := IsPaid_spec _ _ _ m s1 s2 s3 tv l (hI.ext extA) (hr1.ext extA) hG hE) (k := ?_)
          | refine st_callP (h := steady_true _ _ _ _ _ hsp) (k := ?_)
          | refine st_callP (h := HoursR_spec _ _ _ m s1 s2 s3 tv l _ (hI.ext extA) (hr1.ext extA) hG hE) (k := ?_)
          | refine st_callP (h := IsLong_spec _ _ _ m s1 s2 s3 tv l _ (hI.ext extA) (hr1.ext extA) hG hE hlt2) (k := ?_)
          | refine st_callP (h := steady_true _ _ _ _ _ hsl) (k := ?_)
          | refine st_callP (h := in_true _ _ _ _ _ hin) (k := ?_)
          | fail)
        | (refine is_umcall ?_; first
          | refine mj_callP (h := readyW_spec _ _ _ m s1 s2 s3 (hm.ext extA)) (k := ?_)
          | refine mj_callP (h := awake_spec _ _ _) (k := ?_)
          | refine mj_callP (h := IsPaid_spec _ _ _ m s1 s2 s3 tv l (hI.ext extA) (hr1.ext extA) hG hE) (k := ?_)
          | refine mj_callP (h := steady_true _ _ _ _ _ hsp) (k := ?_)
          | refine mj_callP (h := HoursR_spec _ _ _ m s1 s2 s3 tv l _ (hI.ext extA) (hr1.ext extA) hG hE) (k := ?_)
          | refine mj_callP (h := IsLong_spec _ _ _ m s1 s2 s3 tv l _ (hI.ext extA) (hr1.ext extA) hG hE hlt2) (k := ?_)
          | refine mj_callP (h := steady_true _ _ _ _ _ hsl) (k := ?_)
          | refine mj_callP (h := in_true _ _ _ _ _ hin) (k := ?_)
          | fail)
        | refine W1 ?_ | refine Wc ?_ | refine W2c ?_ ?_ | refine Wg ?_ | refine W2 ?_ ?_ | exact Wdead | refine Wlive (fun hb => ?_) | intro _ _ _ _ _ _ _ _ | refine We ?_ | refine Wx ?_ | refine Wt ?_ | refine Wm ?_ | refine W2m ?_ ?_ | refine Wl ?_
        | fail)
      refine st_call rfl (LongR E _ _ m t1 t2 t3 hT0 (hmh.ext extA)) ?_
      rintro _ H9 g9 ⟨⟨vv, rfl, hvv, e9⟩, rfl⟩
      have x9 : Ext H H9 := x8.trans e9
      have hb9 := e9.get hb8
      replace hr1 := hr1.ext e9
      replace hq := hq.ext e9
      replace hc := hc.ext e9
      replace hrr := hrr.ext e9
      refine OpsJ.normA ?_
      repeat' (first
        | (refine is_ucall ?_; first
          | refine st_callP (h := readyW_spec _ _ _ m s1 s2 s3 (hm.ext extA)) (k := ?_)
          | refine st_callP (h := awake_spec _ _ _) (k := ?_)
          | refine st_callP (h := IsPaid_spec _ _ _ m s1 s2 s3 tv l (hI.ext extA) (hr1.ext extA) hG hE) (k := ?_)
          | refine st_callP (h := steady_true _ _ _ _ _ hsp) (k := ?_)
          | refine st_callP (h := HoursR_spec _ _ _ m s1 s2 s3 tv l _ (hI.ext extA) (hr1.ext extA) hG hE) (k := ?_)
          | refine st_callP (h := IsLong_spec _ _ _ m s1 s2 s3 tv l _ (hI.ext extA) (hr1.ext extA) hG hE hlt2) (k := ?_)
          | refine st_callP (h := steady_true _ _ _ _ _ hsl) (k := ?_)
          | refine st_callP (h := in_true _ _ _ _ _ hin) (k := ?_)
          | fail)
        | (refine is_umcall ?_; first
          | refine mj_callP (h := readyW_spec _ _ _ m s1 s2 s3 (hm.ext extA)) (k := ?_)
          | refine mj_callP (h := awake_spec _ _ _) (k := ?_)
          | refine mj_callP (h := IsPaid_spec _ _ _ m s1 s2 s3 tv l (hI.ext extA) (hr1.ext extA) hG hE) (k := ?_)
          | refine mj_callP (h := steady_true _ _ _ _ _ hsp) (k := ?_)
          | refine mj_callP (h := HoursR_spec _ _ _ m s1 s2 s3 tv l _ (hI.ext extA) (hr1.ext extA) hG hE) (k := ?_)
          | refine mj_callP (h := IsLong_spec _ _ _ m s1 s2 s3 tv l _ (hI.ext extA) (hr1.ext extA) hG hE hlt2) (k := ?_)
          | refine mj_callP (h := steady_true _ _ _ _ _ hsl) (k := ?_)
          | refine mj_callP (h := in_true _ _ _ _ _ hin) (k := ?_)
          | fail)
        | refine W1 ?_ | refine Wc ?_ | refine W2c ?_ ?_ | refine Wg ?_ | refine W2 ?_ ?_ | exact Wdead | refine Wlive (fun hb => ?_) | intro _ _ _ _ _ _ _ _ | refine We ?_ | refine Wx ?_ | refine Wt ?_ | refine Wm ?_ | refine W2m ?_ ?_ | refine Wl ?_
        | fail)
      refine st_call rfl (House_w E _ _ m s1 s2 s3 (hI.ext x9) hr.1) ?_
      rintro _ H10 g10 ⟨⟨t1, t2, t3, rfl, hmh, e10⟩, rfl⟩
      have x10 : Ext H H10 := x9.trans e10
      have hb10 := e10.get hb9
      replace hr1 := hr1.ext e10
      replace hq := hq.ext e10
      replace hc := hc.ext e10
      replace hrr := hrr.ext e10
      replace hvv := hvv.ext e10
      refine OpsJ.normA ?_
      repeat' (first
        | (refine is_ucall ?_; first
          | refine st_callP (h := readyW_spec _ _ _ m s1 s2 s3 (hm.ext extA)) (k := ?_)
          | refine st_callP (h := awake_spec _ _ _) (k := ?_)
          | refine st_callP (h := IsPaid_spec _ _ _ m s1 s2 s3 tv l (hI.ext extA) (hr1.ext extA) hG hE) (k := ?_)
          | refine st_callP (h := steady_true _ _ _ _ _ hsp) (k := ?_)
          | refine st_callP (h := HoursR_spec _ _ _ m s1 s2 s3 tv l _ (hI.ext extA) (hr1.ext extA) hG hE) (k := ?_)
          | refine st_callP (h := IsLong_spec _ _ _ m s1 s2 s3 tv l _ (hI.ext extA) (hr1.ext extA) hG hE hlt2) (k := ?_)
          | refine st_callP (h := steady_true _ _ _ _ _ hsl) (k := ?_)
          | refine st_callP (h := in_true _ _ _ _ _ hin) (k := ?_)
          | fail)
        | (refine is_umcall ?_; first
          | refine mj_callP (h := readyW_spec _ _ _ m s1 s2 s3 (hm.ext extA)) (k := ?_)
          | refine mj_callP (h := awake_spec _ _ _) (k := ?_)
          | refine mj_callP (h := IsPaid_spec _ _ _ m s1 s2 s3 tv l (hI.ext extA) (hr1.ext extA) hG hE) (k := ?_)
          | refine mj_callP (h := steady_true _ _ _ _ _ hsp) (k := ?_)
          | refine mj_callP (h := HoursR_spec _ _ _ m s1 s2 s3 tv l _ (hI.ext extA) (hr1.ext extA) hG hE) (k := ?_)
          | refine mj_callP (h := IsLong_spec _ _ _ m s1 s2 s3 tv l _ (hI.ext extA) (hr1.ext extA) hG hE hlt2) (k := ?_)
          | refine mj_callP (h := steady_true _ _ _ _ _ hsl) (k := ?_)
          | refine mj_callP (h := in_true _ _ _ _ _ hin) (k := ?_)
          | fail)
        | refine W1 ?_ | refine Wc ?_ | refine W2c ?_ ?_ | refine Wg ?_ | refine W2 ?_ ?_ | exact Wdead | refine Wlive (fun hb => ?_) | intro _ _ _ _ _ _ _ _ | refine We ?_ | refine Wx ?_ | refine Wt ?_ | refine Wm ?_ | refine W2m ?_ ?_ | refine Wl ?_
        | fail)
      obtain ⟨p, hp⟩ : ∃ p, paidV m = p := ⟨_, rfl⟩
      refine st_callP (h := PaidP E _ _ m t1 t2 t3 p hT0 hp (hmh.ext extA)) (k := ?_)
      refine OpsJ.normA ?_
      repeat' (first
        | (refine is_ucall ?_; first
          | refine st_callP (h := readyW_spec _ _ _ m s1 s2 s3 (hm.ext extA)) (k := ?_)
          | refine st_callP (h := awake_spec _ _ _) (k := ?_)
          | refine st_callP (h := IsPaid_spec _ _ _ m s1 s2 s3 tv l (hI.ext extA) (hr1.ext extA) hG hE) (k := ?_)
          | refine st_callP (h := steady_true _ _ _ _ _ hsp) (k := ?_)
          | refine st_callP (h := HoursR_spec _ _ _ m s1 s2 s3 tv l _ (hI.ext extA) (hr1.ext extA) hG hE) (k := ?_)
          | refine st_callP (h := IsLong_spec _ _ _ m s1 s2 s3 tv l _ (hI.ext extA) (hr1.ext extA) hG hE hlt2) (k := ?_)
          | refine st_callP (h := steady_true _ _ _ _ _ hsl) (k := ?_)
          | refine st_callP (h := in_true _ _ _ _ _ hin) (k := ?_)
          | fail)
        | (refine is_umcall ?_; first
          | refine mj_callP (h := readyW_spec _ _ _ m s1 s2 s3 (hm.ext extA)) (k := ?_)
          | refine mj_callP (h := awake_spec _ _ _) (k := ?_)
          | refine mj_callP (h := IsPaid_spec _ _ _ m s1 s2 s3 tv l (hI.ext extA) (hr1.ext extA) hG hE) (k := ?_)
          | refine mj_callP (h := steady_true _ _ _ _ _ hsp) (k := ?_)
          | refine mj_callP (h := HoursR_spec _ _ _ m s1 s2 s3 tv l _ (hI.ext extA) (hr1.ext extA) hG hE) (k := ?_)
          | refine mj_callP (h := IsLong_spec _ _ _ m s1 s2 s3 tv l _ (hI.ext extA) (hr1.ext extA) hG hE hlt2) (k := ?_)
          | refine mj_callP (h := steady_true _ _ _ _ _ hsl) (k := ?_)
          | refine mj_callP (h := in_true _ _ _ _ _ hin) (k := ?_)
          | fail)
        | refine W1 ?_ | refine Wc ?_ | refine W2c ?_ ?_ | refine Wg ?_ | refine W2 ?_ ?_ | exact Wdead | refine Wlive (fun hb => ?_) | intro _ _ _ _ _ _ _ _ | refine We ?_ | refine Wx ?_ | refine Wt ?_ | refine Wm ?_ | refine W2m ?_ ?_ | refine Wl ?_
        | fail)
      refine st_call rfl (House_w E _ _ m s1 s2 s3 (hI.ext x10) hr.1) ?_
      rintro _ H11 g11 ⟨⟨t1, t2, t3, rfl, hmh, e11⟩, rfl⟩
      have x11 : Ext H H11 := x10.trans e11
      have hb11 := e11.get hb10
      replace hr1 := hr1.ext e11
      replace hq := hq.ext e11
      replace hc := hc.ext e11
      replace hrr := hrr.ext e11
      replace hvv := hvv.ext e11
      refine OpsJ.normA ?_
      repeat' (first
        | (refine is_ucall ?_; first
          | refine st_callP (h := readyW_spec _ _ _ m s1 s2 s3 (hm.ext extA)) (k := ?_)
          | refine st_callP (h := awake_spec _ _ _) (k := ?_)
          | refine st_callP (h := IsPaid_spec _ _ _ m s1 s2 s3 tv l (hI.ext extA) (hr1.ext extA) hG hE) (k := ?_)
          | refine st_callP (h := steady_true _ _ _ _ _ hsp) (k := ?_)
          | refine st_callP (h := HoursR_spec _ _ _ m s1 s2 s3 tv l _ (hI.ext extA) (hr1.ext extA) hG hE) (k := ?_)
          | refine st_callP (h := IsLong_spec _ _ _ m s1 s2 s3 tv l _ (hI.ext extA) (hr1.ext extA) hG hE hlt2) (k := ?_)
          | refine st_callP (h := steady_true _ _ _ _ _ hsl) (k := ?_)
          | refine st_callP (h := in_true _ _ _ _ _ hin) (k := ?_)
          | fail)
        | (refine is_umcall ?_; first
          | refine mj_callP (h := readyW_spec _ _ _ m s1 s2 s3 (hm.ext extA)) (k := ?_)
          | refine mj_callP (h := awake_spec _ _ _) (k := ?_)
          | refine mj_callP (h := IsPaid_spec _ _ _ m s1 s2 s3 tv l (hI.ext extA) (hr1.ext extA) hG hE) (k := ?_)
          | refine mj_callP (h := steady_true _ _ _ _ _ hsp) (k := ?_)
          | refine mj_callP (h := HoursR_spec _ _ _ m s1 s2 s3 tv l _ (hI.ext extA) (hr1.ext extA) hG hE) (k := ?_)
          | refine mj_callP (h := IsLong_spec _ _ _ m s1 s2 s3 tv l _ (hI.ext extA) (hr1.ext extA) hG hE hlt2) (k := ?_)
          | refine mj_callP (h := steady_true _ _ _ _ _ hsl) (k := ?_)
          | refine mj_callP (h := in_true _ _ _ _ _ hin) (k := ?_)
          | fail)
        | refine W1 ?_ | refine Wc ?_ | refine W2c ?_ ?_ | refine Wg ?_ | refine W2 ?_ ?_ | exact Wdead | refine Wlive (fun hb => ?_) | intro _ _ _ _ _ _ _ _ | refine We ?_ | refine Wx ?_ | refine Wt ?_ | refine Wm ?_ | refine W2m ?_ ?_ | refine Wl ?_
        | fail)
      refine st_callP (h := FirstN_spec E _ _ m t1 t2 t3 hr.2 (first_all hG hT) (hmh.ext extA)) (k := ?_)
      refine OpsJ.normA ?_
      have hsp := verdict_at hl ((paid_eq hT0).symm.trans hp)
      have hcl : (clocksS m).length = m.clocks.length := by simp [clocksS]
      have hrl : (hrsS m).length = m.tickets.length := by simp [hrsS]
      have hvl : (longS m).length = m.tickets.length := by simp [longS]
      clear e1 e2 e3 e4 e5 e6 e7 e8 e9 e10 e11 hb1 hb2 hb3 hb4 hb5 hb6 hb7 hb8 hb9 hb10 x1 x2 x3 x4 x5 x6 x7 x8 x9 x10 hmh
      repeat' (first
        | (refine is_ucall ?_; first
          | refine st_callP (h := readyW_spec _ _ _ m s1 s2 s3 (hm.ext extA)) (k := ?_)
          | refine st_callP (h := awake_spec _ _ _) (k := ?_)
          | refine st_callP (h := IsPaid_spec _ _ _ m s1 s2 s3 tv l (hI.ext extA) (hr1.ext extA) hG hE) (k := ?_)
          | refine st_callP (h := steady_true _ _ _ _ _ hsp) (k := ?_)
          | refine st_callP (h := HoursR_spec _ _ _ m s1 s2 s3 tv l _ (hI.ext extA) (hr1.ext extA) hG hE) (k := ?_)
          | refine st_callP (h := IsLong_spec _ _ _ m s1 s2 s3 tv l _ (hI.ext extA) (hr1.ext extA) hG hE hlt2) (k := ?_)
          | refine st_callP (h := steady_true _ _ _ _ _ hsl) (k := ?_)
          | refine st_callP (h := in_true _ _ _ _ _ hin) (k := ?_)
          | fail)
        | (refine is_umcall ?_; first
          | refine mj_callP (h := readyW_spec _ _ _ m s1 s2 s3 (hm.ext extA)) (k := ?_)
          | refine mj_callP (h := awake_spec _ _ _) (k := ?_)
          | refine mj_callP (h := IsPaid_spec _ _ _ m s1 s2 s3 tv l (hI.ext extA) (hr1.ext extA) hG hE) (k := ?_)
          | refine mj_callP (h := steady_true _ _ _ _ _ hsp) (k := ?_)
          | refine mj_callP (h := HoursR_spec _ _ _ m s1 s2 s3 tv l _ (hI.ext extA) (hr1.ext extA) hG hE) (k := ?_)
          | refine mj_callP (h := IsLong_spec _ _ _ m s1 s2 s3 tv l _ (hI.ext extA) (hr1.ext extA) hG hE hlt2) (k := ?_)
          | refine mj_callP (h := steady_true _ _ _ _ _ hsl) (k := ?_)
          | refine mj_callP (h := in_true _ _ _ _ _ hin) (k := ?_)
          | fail)
        | refine W1 ?_ | refine Wc ?_ | refine W2c ?_ ?_ | refine Wg ?_ | refine W2 ?_ ?_ | exact Wdead | refine Wlive (fun hb => ?_) | intro _ _ _ _ _ _ _ _ | refine We ?_ | refine Wx ?_ | refine Wt ?_ | refine Wm ?_ | refine W2m ?_ ?_ | refine Wl ?_
        | fail)
      refine OpsJ.list (by simp only [List.append_eq, List.cons_append, List.nil_append]; rfl) ?_
      repeat' (first
        | (refine is_ucall ?_; first
          | refine st_callP (h := readyW_spec _ _ _ m s1 s2 s3 (hm.ext extA)) (k := ?_)
          | refine st_callP (h := awake_spec _ _ _) (k := ?_)
          | refine st_callP (h := IsPaid_spec _ _ _ m s1 s2 s3 tv l (hI.ext extA) (hr1.ext extA) hG hE) (k := ?_)
          | refine st_callP (h := steady_true _ _ _ _ _ hsp) (k := ?_)
          | refine st_callP (h := HoursR_spec _ _ _ m s1 s2 s3 tv l _ (hI.ext extA) (hr1.ext extA) hG hE) (k := ?_)
          | refine st_callP (h := IsLong_spec _ _ _ m s1 s2 s3 tv l _ (hI.ext extA) (hr1.ext extA) hG hE hlt2) (k := ?_)
          | refine st_callP (h := steady_true _ _ _ _ _ hsl) (k := ?_)
          | refine st_callP (h := in_true _ _ _ _ _ hin) (k := ?_)
          | fail)
        | (refine is_umcall ?_; first
          | refine mj_callP (h := readyW_spec _ _ _ m s1 s2 s3 (hm.ext extA)) (k := ?_)
          | refine mj_callP (h := awake_spec _ _ _) (k := ?_)
          | refine mj_callP (h := IsPaid_spec _ _ _ m s1 s2 s3 tv l (hI.ext extA) (hr1.ext extA) hG hE) (k := ?_)
          | refine mj_callP (h := steady_true _ _ _ _ _ hsp) (k := ?_)
          | refine mj_callP (h := HoursR_spec _ _ _ m s1 s2 s3 tv l _ (hI.ext extA) (hr1.ext extA) hG hE) (k := ?_)
          | refine mj_callP (h := IsLong_spec _ _ _ m s1 s2 s3 tv l _ (hI.ext extA) (hr1.ext extA) hG hE hlt2) (k := ?_)
          | refine mj_callP (h := steady_true _ _ _ _ _ hsl) (k := ?_)
          | refine mj_callP (h := in_true _ _ _ _ _ hin) (k := ?_)
          | fail)
        | refine W1 ?_ | refine Wc ?_ | refine W2c ?_ ?_ | refine Wg ?_ | refine W2 ?_ ?_ | exact Wdead | refine Wlive (fun hb => ?_) | intro _ _ _ _ _ _ _ _ | refine We ?_ | refine Wx ?_ | refine Wt ?_ | refine Wm ?_ | refine W2m ?_ ?_ | refine Wl ?_
        | fail)
      refine st_call rfl (House_w E _ _ m s1 s2 s3 (hI.ext x11) hr.1) ?_
      rintro _ H12 g12 ⟨⟨t1, t2, t3, rfl, hmh, e12⟩, rfl⟩
      have x12 : Ext H H12 := x11.trans e12
      have hb12 := e12.get hb11
      replace hr1 := hr1.ext e12
      replace hc := hc.ext e12
      replace hrr := hrr.ext e12
      replace hvv := hvv.ext e12
      refine OpsJ.normA ?_
      repeat' (first
        | (refine is_ucall ?_; first
          | refine st_callP (h := readyW_spec _ _ _ m s1 s2 s3 (hm.ext extA)) (k := ?_)
          | refine st_callP (h := awake_spec _ _ _) (k := ?_)
          | refine st_callP (h := IsPaid_spec _ _ _ m s1 s2 s3 tv l (hI.ext extA) (hr1.ext extA) hG hE) (k := ?_)
          | refine st_callP (h := steady_true _ _ _ _ _ hsp) (k := ?_)
          | refine st_callP (h := HoursR_spec _ _ _ m s1 s2 s3 tv l _ (hI.ext extA) (hr1.ext extA) hG hE) (k := ?_)
          | refine st_callP (h := IsLong_spec _ _ _ m s1 s2 s3 tv l _ (hI.ext extA) (hr1.ext extA) hG hE hlt2) (k := ?_)
          | refine st_callP (h := steady_true _ _ _ _ _ hsl) (k := ?_)
          | refine st_callP (h := in_true _ _ _ _ _ hin) (k := ?_)
          | fail)
        | (refine is_umcall ?_; first
          | refine mj_callP (h := readyW_spec _ _ _ m s1 s2 s3 (hm.ext extA)) (k := ?_)
          | refine mj_callP (h := awake_spec _ _ _) (k := ?_)
          | refine mj_callP (h := IsPaid_spec _ _ _ m s1 s2 s3 tv l (hI.ext extA) (hr1.ext extA) hG hE) (k := ?_)
          | refine mj_callP (h := steady_true _ _ _ _ _ hsp) (k := ?_)
          | refine mj_callP (h := HoursR_spec _ _ _ m s1 s2 s3 tv l _ (hI.ext extA) (hr1.ext extA) hG hE) (k := ?_)
          | refine mj_callP (h := IsLong_spec _ _ _ m s1 s2 s3 tv l _ (hI.ext extA) (hr1.ext extA) hG hE hlt2) (k := ?_)
          | refine mj_callP (h := steady_true _ _ _ _ _ hsl) (k := ?_)
          | refine mj_callP (h := in_true _ _ _ _ _ hin) (k := ?_)
          | fail)
        | refine W1 ?_ | refine Wc ?_ | refine W2c ?_ ?_ | refine Wg ?_ | refine W2 ?_ ?_ | exact Wdead | refine Wlive (fun hb => ?_) | intro _ _ _ _ _ _ _ _ | refine We ?_ | refine Wx ?_ | refine Wt ?_ | refine Wm ?_ | refine W2m ?_ ?_ | refine Wl ?_
        | fail)
      refine st_call rfl (list_wr E _ _ tv l (hr1.ext extA) (by omega)) ?_
      rintro tw H13 g13 ⟨⟨htw, e13⟩, rfl⟩
      have x13 : Ext H H13 := x12.trans e13
      have hb13 := e13.get hb12
      replace hr1 := hr1.ext e13
      replace hc := hc.ext e13
      replace hrr := hrr.ext e13
      replace hvv := hvv.ext e13
      refine OpsJ.normA ?_
      repeat' (first
        | (refine is_ucall ?_; first
          | refine st_callP (h := readyW_spec _ _ _ m s1 s2 s3 (hm.ext extA)) (k := ?_)
          | refine st_callP (h := awake_spec _ _ _) (k := ?_)
          | refine st_callP (h := IsPaid_spec _ _ _ m s1 s2 s3 tv l (hI.ext extA) (hr1.ext extA) hG hE) (k := ?_)
          | refine st_callP (h := steady_true _ _ _ _ _ hsp) (k := ?_)
          | refine st_callP (h := HoursR_spec _ _ _ m s1 s2 s3 tv l _ (hI.ext extA) (hr1.ext extA) hG hE) (k := ?_)
          | refine st_callP (h := IsLong_spec _ _ _ m s1 s2 s3 tv l _ (hI.ext extA) (hr1.ext extA) hG hE hlt2) (k := ?_)
          | refine st_callP (h := steady_true _ _ _ _ _ hsl) (k := ?_)
          | refine st_callP (h := in_true _ _ _ _ _ hin) (k := ?_)
          | fail)
        | (refine is_umcall ?_; first
          | refine mj_callP (h := readyW_spec _ _ _ m s1 s2 s3 (hm.ext extA)) (k := ?_)
          | refine mj_callP (h := awake_spec _ _ _) (k := ?_)
          | refine mj_callP (h := IsPaid_spec _ _ _ m s1 s2 s3 tv l (hI.ext extA) (hr1.ext extA) hG hE) (k := ?_)
          | refine mj_callP (h := steady_true _ _ _ _ _ hsp) (k := ?_)
          | refine mj_callP (h := HoursR_spec _ _ _ m s1 s2 s3 tv l _ (hI.ext extA) (hr1.ext extA) hG hE) (k := ?_)
          | refine mj_callP (h := IsLong_spec _ _ _ m s1 s2 s3 tv l _ (hI.ext extA) (hr1.ext extA) hG hE hlt2) (k := ?_)
          | refine mj_callP (h := steady_true _ _ _ _ _ hsl) (k := ?_)
          | refine mj_callP (h := in_true _ _ _ _ _ hin) (k := ?_)
          | fail)
        | refine W1 ?_ | refine Wc ?_ | refine W2c ?_ ?_ | refine Wg ?_ | refine W2 ?_ ?_ | exact Wdead | refine Wlive (fun hb => ?_) | intro _ _ _ _ _ _ _ _ | refine We ?_ | refine Wx ?_ | refine Wt ?_ | refine Wm ?_ | refine W2m ?_ ?_ | refine Wl ?_
        | fail)
      refine st_callP (h := ProveC E _ _ m t1 t2 t3 tw l hr.2 hE hR (hmh.ext extA) (htw.ext extA) (by omega)) (k := ?_)
      clear e12 e13 hb11 hb12 x11 x12 hmh htw hq
      refine OpsJ.normA ?_
      repeat' (first
        | (refine is_ucall ?_; first
          | refine st_callP (h := readyW_spec _ _ _ m s1 s2 s3 (hm.ext extA)) (k := ?_)
          | refine st_callP (h := awake_spec _ _ _) (k := ?_)
          | refine st_callP (h := IsPaid_spec _ _ _ m s1 s2 s3 tv l (hI.ext extA) (hr1.ext extA) hG hE) (k := ?_)
          | refine st_callP (h := steady_true _ _ _ _ _ hsp) (k := ?_)
          | refine st_callP (h := HoursR_spec _ _ _ m s1 s2 s3 tv l _ (hI.ext extA) (hr1.ext extA) hG hE) (k := ?_)
          | refine st_callP (h := IsLong_spec _ _ _ m s1 s2 s3 tv l _ (hI.ext extA) (hr1.ext extA) hG hE hlt2) (k := ?_)
          | refine st_callP (h := steady_true _ _ _ _ _ hsl) (k := ?_)
          | refine st_callP (h := in_true _ _ _ _ _ hin) (k := ?_)
          | fail)
        | (refine is_umcall ?_; first
          | refine mj_callP (h := readyW_spec _ _ _ m s1 s2 s3 (hm.ext extA)) (k := ?_)
          | refine mj_callP (h := awake_spec _ _ _) (k := ?_)
          | refine mj_callP (h := IsPaid_spec _ _ _ m s1 s2 s3 tv l (hI.ext extA) (hr1.ext extA) hG hE) (k := ?_)
          | refine mj_callP (h := steady_true _ _ _ _ _ hsp) (k := ?_)
          | refine mj_callP (h := HoursR_spec _ _ _ m s1 s2 s3 tv l _ (hI.ext extA) (hr1.ext extA) hG hE) (k := ?_)
          | refine mj_callP (h := IsLong_spec _ _ _ m s1 s2 s3 tv l _ (hI.ext extA) (hr1.ext extA) hG hE hlt2) (k := ?_)
          | refine mj_callP (h := steady_true _ _ _ _ _ hsl) (k := ?_)
          | refine mj_callP (h := in_true _ _ _ _ _ hin) (k := ?_)
          | fail)
        | refine W1 ?_ | refine Wc ?_ | refine W2c ?_ ?_ | refine Wg ?_ | refine W2 ?_ ?_ | exact Wdead | refine Wlive (fun hb => ?_) | intro _ _ _ _ _ _ _ _ | refine We ?_ | refine Wx ?_ | refine Wt ?_ | refine Wm ?_ | refine W2m ?_ ?_ | refine Wl ?_
        | fail)
      refine WPJ.loopT l.length [144, 145, 146, 147, 148, 149, 150, 151, 152, 153, 154, 155, 156, 157, 158, 159] (fun j (_ : Unit) => [(19, .int .i64 j)]) (fun _ _ Hx gx => gx = g13 ∧ Hx = H13) 0 () (Nat.zero_le _) (by intro p hp; simp at hp; rcases hp with rfl; rfl) ⟨rfl, rfl⟩ ?_
      rintro j _ Hx gx hj ⟨rfl, rfl⟩ hl0
      simp only [updT, maskT, List.set_cons_zero, List.set_cons_succ]
      rcases Nat.lt_or_ge j l.length with hlt | hge
      · have hel := clocks_at hT0 (j := j) (by omega)
        have hel2 : (encI l)[(j : Int).toNat]? = some [.int .i64 (l.getD j 0)] := by simp [hlt]
        have hin := in_bounds (L := (refL m).map fun l => l.getD j 0) (List.mem_map.2 ⟨l, hl, rfl⟩)
        generalize boundsR ((refL m).map fun l => l.getD j 0) = r at *
        generalize l.getD j 0 = q at *
        repeat' (first
          | (refine is_ucall ?_; first
            | refine st_callP (h := readyW_spec _ _ _ m s1 s2 s3 (hm.ext extA)) (k := ?_)
            | refine st_callP (h := awake_spec _ _ _) (k := ?_)
            | refine st_callP (h := IsPaid_spec _ _ _ m s1 s2 s3 tv l (hI.ext extA) (hr1.ext extA) hG hE) (k := ?_)
            | refine st_callP (h := steady_true _ _ _ _ _ hsp) (k := ?_)
            | refine st_callP (h := HoursR_spec _ _ _ m s1 s2 s3 tv l _ (hI.ext extA) (hr1.ext extA) hG hE) (k := ?_)
            | refine st_callP (h := IsLong_spec _ _ _ m s1 s2 s3 tv l _ (hI.ext extA) (hr1.ext extA) hG hE hlt2) (k := ?_)
            | refine st_callP (h := steady_true _ _ _ _ _ hsl) (k := ?_)
            | refine st_callP (h := in_true _ _ _ _ _ hin) (k := ?_)
            | fail)
          | (refine is_umcall ?_; first
            | refine mj_callP (h := readyW_spec _ _ _ m s1 s2 s3 (hm.ext extA)) (k := ?_)
            | refine mj_callP (h := awake_spec _ _ _) (k := ?_)
            | refine mj_callP (h := IsPaid_spec _ _ _ m s1 s2 s3 tv l (hI.ext extA) (hr1.ext extA) hG hE) (k := ?_)
            | refine mj_callP (h := steady_true _ _ _ _ _ hsp) (k := ?_)
            | refine mj_callP (h := HoursR_spec _ _ _ m s1 s2 s3 tv l _ (hI.ext extA) (hr1.ext extA) hG hE) (k := ?_)
            | refine mj_callP (h := IsLong_spec _ _ _ m s1 s2 s3 tv l _ (hI.ext extA) (hr1.ext extA) hG hE hlt2) (k := ?_)
            | refine mj_callP (h := steady_true _ _ _ _ _ hsl) (k := ?_)
            | refine mj_callP (h := in_true _ _ _ _ _ hin) (k := ?_)
            | fail)
          | refine W1 ?_ | refine Wc ?_ | refine W2c ?_ ?_ | refine Wg ?_ | refine W2 ?_ ?_ | exact Wdead | refine Wlive (fun hb => ?_) | intro _ _ _ _ _ _ _ _ | refine We ?_ | refine Wx ?_ | refine Wt ?_ | refine Wm ?_ | refine W2m ?_ ?_ | refine Wl ?_
          | fail)
        refine WPJ.draw 10 mixed (by kernel_rfl) (by kernel_rfl) (by kernel_rfl) (by decide) ?_
        refine MonoJ.normA ?_
        repeat' (first
          | (refine is_ucall ?_; first
            | refine st_callP (h := readyW_spec _ _ _ m s1 s2 s3 (hm.ext extA)) (k := ?_)
            | refine st_callP (h := awake_spec _ _ _) (k := ?_)
            | refine st_callP (h := IsPaid_spec _ _ _ m s1 s2 s3 tv l (hI.ext extA) (hr1.ext extA) hG hE) (k := ?_)
            | refine st_callP (h := steady_true _ _ _ _ _ hsp) (k := ?_)
            | refine st_callP (h := HoursR_spec _ _ _ m s1 s2 s3 tv l _ (hI.ext extA) (hr1.ext extA) hG hE) (k := ?_)
            | refine st_callP (h := IsLong_spec _ _ _ m s1 s2 s3 tv l _ (hI.ext extA) (hr1.ext extA) hG hE hlt2) (k := ?_)
            | refine st_callP (h := steady_true _ _ _ _ _ hsl) (k := ?_)
            | refine st_callP (h := in_true _ _ _ _ _ hin) (k := ?_)
            | fail)
          | (refine is_umcall ?_; first
            | refine mj_callP (h := readyW_spec _ _ _ m s1 s2 s3 (hm.ext extA)) (k := ?_)
            | refine mj_callP (h := awake_spec _ _ _) (k := ?_)
            | refine mj_callP (h := IsPaid_spec _ _ _ m s1 s2 s3 tv l (hI.ext extA) (hr1.ext extA) hG hE) (k := ?_)
            | refine mj_callP (h := steady_true _ _ _ _ _ hsp) (k := ?_)
            | refine mj_callP (h := HoursR_spec _ _ _ m s1 s2 s3 tv l _ (hI.ext extA) (hr1.ext extA) hG hE) (k := ?_)
            | refine mj_callP (h := IsLong_spec _ _ _ m s1 s2 s3 tv l _ (hI.ext extA) (hr1.ext extA) hG hE hlt2) (k := ?_)
            | refine mj_callP (h := steady_true _ _ _ _ _ hsl) (k := ?_)
            | refine mj_callP (h := in_true _ _ _ _ _ hin) (k := ?_)
            | fail)
          | refine W1 ?_ | refine Wc ?_ | refine W2c ?_ ?_ | refine Wg ?_ | refine W2 ?_ ?_ | exact Wdead | refine Wlive (fun hb => ?_) | intro _ _ _ _ _ _ _ _ | refine We ?_ | refine Wx ?_ | refine Wt ?_ | refine Wm ?_ | refine W2m ?_ ?_ | refine Wl ?_
          | fail)
        exact ⟨(), hlt, (by repeat' (first | exact Weak.nil | refine Weak.wild ?_ | refine Weak.same ?_ | refine Weak.intEq (by first | omega | (simp; done) | (push_cast; omega)) ?_)), rfl, rfl⟩
      · obtain rfl : j = l.length := by omega
        repeat' (first
          | (refine is_ucall ?_; first
            | refine st_callP (h := readyW_spec _ _ _ m s1 s2 s3 (hm.ext extA)) (k := ?_)
            | refine st_callP (h := awake_spec _ _ _) (k := ?_)
            | refine st_callP (h := IsPaid_spec _ _ _ m s1 s2 s3 tv l (hI.ext extA) (hr1.ext extA) hG hE) (k := ?_)
            | refine st_callP (h := steady_true _ _ _ _ _ hsp) (k := ?_)
            | refine st_callP (h := HoursR_spec _ _ _ m s1 s2 s3 tv l _ (hI.ext extA) (hr1.ext extA) hG hE) (k := ?_)
            | refine st_callP (h := IsLong_spec _ _ _ m s1 s2 s3 tv l _ (hI.ext extA) (hr1.ext extA) hG hE hlt2) (k := ?_)
            | refine st_callP (h := steady_true _ _ _ _ _ hsl) (k := ?_)
            | refine st_callP (h := in_true _ _ _ _ _ hin) (k := ?_)
            | fail)
          | (refine is_umcall ?_; first
            | refine mj_callP (h := readyW_spec _ _ _ m s1 s2 s3 (hm.ext extA)) (k := ?_)
            | refine mj_callP (h := awake_spec _ _ _) (k := ?_)
            | refine mj_callP (h := IsPaid_spec _ _ _ m s1 s2 s3 tv l (hI.ext extA) (hr1.ext extA) hG hE) (k := ?_)
            | refine mj_callP (h := steady_true _ _ _ _ _ hsp) (k := ?_)
            | refine mj_callP (h := HoursR_spec _ _ _ m s1 s2 s3 tv l _ (hI.ext extA) (hr1.ext extA) hG hE) (k := ?_)
            | refine mj_callP (h := IsLong_spec _ _ _ m s1 s2 s3 tv l _ (hI.ext extA) (hr1.ext extA) hG hE hlt2) (k := ?_)
            | refine mj_callP (h := steady_true _ _ _ _ _ hsl) (k := ?_)
            | refine mj_callP (h := in_true _ _ _ _ _ hin) (k := ?_)
            | fail)
          | refine W1 ?_ | refine Wc ?_ | refine W2c ?_ ?_ | refine Wg ?_ | refine W2 ?_ ?_ | exact Wdead | refine Wlive (fun hb => ?_) | intro _ _ _ _ _ _ _ _ | refine We ?_ | refine Wx ?_ | refine Wt ?_ | refine Wm ?_ | refine W2m ?_ ?_ | refine Wl ?_
          | fail)
        refine WPJ.loopT m.tickets.length [160, 161, 162, 163, 164, 165, 166, 167, 168, 169, 170, 171, 172, 173, 174, 175, 176, 177, 178, 179, 180, 181, 182, 183, 184, 185, 186, 187] (fun j (_ : Unit) => [(20, .int .i64 j)]) (fun _ _ Hy gy => gy = gx ∧ Hy = Hx) 0 () (Nat.zero_le _) (by intro p hp; simp at hp; rcases hp with rfl; rfl) ⟨rfl, rfl⟩ ?_
        rintro j _ Hy gy hj2 ⟨rfl, rfl⟩ hl1
        simp only [updT, maskT, List.set_cons_zero, List.set_cons_succ]
        rcases Nat.lt_or_ge j m.tickets.length with hlt2 | hge2
        · have hel := hrs_at hT0 hlt2
          obtain ⟨v, hv⟩ : ∃ v, verdictR (yesR (refL m) fun l => longR m l j) (refL m).length = v := ⟨_, rfl⟩
          have hel2 := long_at hT0 hlt2
          have hsl := verdict_at hl hv
          rw [hv] at hel2
          have hin := in_bounds (L := (refL m).map fun l => hoursR m l j) (List.mem_map.2 ⟨l, hl, rfl⟩)
          generalize boundsR ((refL m).map fun l => hoursR m l j) = r at *
          repeat' (first
            | (refine is_ucall ?_; first
              | refine st_callP (h := readyW_spec _ _ _ m s1 s2 s3 (hm.ext extA)) (k := ?_)
              | refine st_callP (h := awake_spec _ _ _) (k := ?_)
              | refine st_callP (h := IsPaid_spec _ _ _ m s1 s2 s3 tv l (hI.ext extA) (hr1.ext extA) hG hE) (k := ?_)
              | refine st_callP (h := steady_true _ _ _ _ _ hsp) (k := ?_)
              | refine st_callP (h := HoursR_spec _ _ _ m s1 s2 s3 tv l _ (hI.ext extA) (hr1.ext extA) hG hE) (k := ?_)
              | refine st_callP (h := IsLong_spec _ _ _ m s1 s2 s3 tv l _ (hI.ext extA) (hr1.ext extA) hG hE hlt2) (k := ?_)
              | refine st_callP (h := steady_true _ _ _ _ _ hsl) (k := ?_)
              | refine st_callP (h := in_true _ _ _ _ _ hin) (k := ?_)
              | fail)
            | (refine is_umcall ?_; first
              | refine mj_callP (h := readyW_spec _ _ _ m s1 s2 s3 (hm.ext extA)) (k := ?_)
              | refine mj_callP (h := awake_spec _ _ _) (k := ?_)
              | refine mj_callP (h := IsPaid_spec _ _ _ m s1 s2 s3 tv l (hI.ext extA) (hr1.ext extA) hG hE) (k := ?_)
              | refine mj_callP (h := steady_true _ _ _ _ _ hsp) (k := ?_)
              | refine mj_callP (h := HoursR_spec _ _ _ m s1 s2 s3 tv l _ (hI.ext extA) (hr1.ext extA) hG hE) (k := ?_)
              | refine mj_callP (h := IsLong_spec _ _ _ m s1 s2 s3 tv l _ (hI.ext extA) (hr1.ext extA) hG hE hlt2) (k := ?_)
              | refine mj_callP (h := steady_true _ _ _ _ _ hsl) (k := ?_)
              | refine mj_callP (h := in_true _ _ _ _ _ hin) (k := ?_)
              | fail)
            | refine W1 ?_ | refine Wc ?_ | refine W2c ?_ ?_ | refine Wg ?_ | refine W2 ?_ ?_ | exact Wdead | refine Wlive (fun hb => ?_) | intro _ _ _ _ _ _ _ _ | refine We ?_ | refine Wx ?_ | refine Wt ?_ | refine Wm ?_ | refine W2m ?_ ?_ | refine Wl ?_
            | fail)
          refine WPJ.draw 22 mixed (by kernel_rfl) (by kernel_rfl) (by kernel_rfl) (by decide) ?_
          refine MonoJ.normA ?_
          repeat' (first
            | (refine is_ucall ?_; first
              | refine st_callP (h := readyW_spec _ _ _ m s1 s2 s3 (hm.ext extA)) (k := ?_)
              | refine st_callP (h := awake_spec _ _ _) (k := ?_)
              | refine st_callP (h := IsPaid_spec _ _ _ m s1 s2 s3 tv l (hI.ext extA) (hr1.ext extA) hG hE) (k := ?_)
              | refine st_callP (h := steady_true _ _ _ _ _ hsp) (k := ?_)
              | refine st_callP (h := HoursR_spec _ _ _ m s1 s2 s3 tv l _ (hI.ext extA) (hr1.ext extA) hG hE) (k := ?_)
              | refine st_callP (h := IsLong_spec _ _ _ m s1 s2 s3 tv l _ (hI.ext extA) (hr1.ext extA) hG hE hlt2) (k := ?_)
              | refine st_callP (h := steady_true _ _ _ _ _ hsl) (k := ?_)
              | refine st_callP (h := in_true _ _ _ _ _ hin) (k := ?_)
              | fail)
            | (refine is_umcall ?_; first
              | refine mj_callP (h := readyW_spec _ _ _ m s1 s2 s3 (hm.ext extA)) (k := ?_)
              | refine mj_callP (h := awake_spec _ _ _) (k := ?_)
              | refine mj_callP (h := IsPaid_spec _ _ _ m s1 s2 s3 tv l (hI.ext extA) (hr1.ext extA) hG hE) (k := ?_)
              | refine mj_callP (h := steady_true _ _ _ _ _ hsp) (k := ?_)
              | refine mj_callP (h := HoursR_spec _ _ _ m s1 s2 s3 tv l _ (hI.ext extA) (hr1.ext extA) hG hE) (k := ?_)
              | refine mj_callP (h := IsLong_spec _ _ _ m s1 s2 s3 tv l _ (hI.ext extA) (hr1.ext extA) hG hE hlt2) (k := ?_)
              | refine mj_callP (h := steady_true _ _ _ _ _ hsl) (k := ?_)
              | refine mj_callP (h := in_true _ _ _ _ _ hin) (k := ?_)
              | fail)
            | refine W1 ?_ | refine Wc ?_ | refine W2c ?_ ?_ | refine Wg ?_ | refine W2 ?_ ?_ | exact Wdead | refine Wlive (fun hb => ?_) | intro _ _ _ _ _ _ _ _ | refine We ?_ | refine Wx ?_ | refine Wt ?_ | refine Wm ?_ | refine W2m ?_ ?_ | refine Wl ?_
            | fail)
          exact ⟨(), hlt2, (by repeat' (first | exact Weak.nil | refine Weak.wild ?_ | refine Weak.same ?_ | refine Weak.intEq (by first | omega | (simp; done) | (push_cast; omega)) ?_)), rfl, rfl⟩
        · obtain rfl : j = m.tickets.length := by omega
          repeat' (first
            | (refine is_ucall ?_; first
              | refine st_callP (h := readyW_spec _ _ _ m s1 s2 s3 (hm.ext extA)) (k := ?_)
              | refine st_callP (h := awake_spec _ _ _) (k := ?_)
              | refine st_callP (h := IsPaid_spec _ _ _ m s1 s2 s3 tv l (hI.ext extA) (hr1.ext extA) hG hE) (k := ?_)
              | refine st_callP (h := steady_true _ _ _ _ _ hsp) (k := ?_)
              | refine st_callP (h := HoursR_spec _ _ _ m s1 s2 s3 tv l _ (hI.ext extA) (hr1.ext extA) hG hE) (k := ?_)
              | refine st_callP (h := IsLong_spec _ _ _ m s1 s2 s3 tv l _ (hI.ext extA) (hr1.ext extA) hG hE hlt2) (k := ?_)
              | refine st_callP (h := steady_true _ _ _ _ _ hsl) (k := ?_)
              | refine st_callP (h := in_true _ _ _ _ _ hin) (k := ?_)
              | fail)
            | (refine is_umcall ?_; first
              | refine mj_callP (h := readyW_spec _ _ _ m s1 s2 s3 (hm.ext extA)) (k := ?_)
              | refine mj_callP (h := awake_spec _ _ _) (k := ?_)
              | refine mj_callP (h := IsPaid_spec _ _ _ m s1 s2 s3 tv l (hI.ext extA) (hr1.ext extA) hG hE) (k := ?_)
              | refine mj_callP (h := steady_true _ _ _ _ _ hsp) (k := ?_)
              | refine mj_callP (h := HoursR_spec _ _ _ m s1 s2 s3 tv l _ (hI.ext extA) (hr1.ext extA) hG hE) (k := ?_)
              | refine mj_callP (h := IsLong_spec _ _ _ m s1 s2 s3 tv l _ (hI.ext extA) (hr1.ext extA) hG hE hlt2) (k := ?_)
              | refine mj_callP (h := steady_true _ _ _ _ _ hsl) (k := ?_)
              | refine mj_callP (h := in_true _ _ _ _ _ hin) (k := ?_)
              | fail)
            | refine W1 ?_ | refine Wc ?_ | refine W2c ?_ ?_ | refine Wg ?_ | refine W2 ?_ ?_ | exact Wdead | refine Wlive (fun hb => ?_) | intro _ _ _ _ _ _ _ _ | refine We ?_ | refine Wx ?_ | refine Wt ?_ | refine Wm ?_ | refine W2m ?_ ?_ | refine Wl ?_
            | fail)
          exact ⟨rfl, rfl, rfl⟩
    | false =>
      refine st_call rfl (pickN E _ _ m s1 s2 s3 w hr.2 hT (hI.ext x0)) ?_
      rintro _ H1 g1 ⟨⟨rfl, e1⟩, rfl⟩
      have x1 : Ext H H1 := x0.trans e1
      have hb1 := e1.get hb0
      refine OpsJ.normA ?_
      repeat' (first
        | (refine is_ucall ?_; first
          | refine st_callP (h := readyW_spec _ _ _ m s1 s2 s3 (hm.ext extA)) (k := ?_)
          | refine st_callP (h := awake_spec _ _ _) (k := ?_)
          | refine st_callP (h := IsPaid_spec _ _ _ m s1 s2 s3 tv l (hI.ext extA) (hr1.ext extA) hG hE) (k := ?_)
          | refine st_callP (h := steady_true _ _ _ _ _ hsp) (k := ?_)
          | refine st_callP (h := HoursR_spec _ _ _ m s1 s2 s3 tv l _ (hI.ext extA) (hr1.ext extA) hG hE) (k := ?_)
          | refine st_callP (h := IsLong_spec _ _ _ m s1 s2 s3 tv l _ (hI.ext extA) (hr1.ext extA) hG hE hlt2) (k := ?_)
          | refine st_callP (h := steady_true _ _ _ _ _ hsl) (k := ?_)
          | refine st_callP (h := in_true _ _ _ _ _ hin) (k := ?_)
          | fail)
        | (refine is_umcall ?_; first
          | refine mj_callP (h := readyW_spec _ _ _ m s1 s2 s3 (hm.ext extA)) (k := ?_)
          | refine mj_callP (h := awake_spec _ _ _) (k := ?_)
          | refine mj_callP (h := IsPaid_spec _ _ _ m s1 s2 s3 tv l (hI.ext extA) (hr1.ext extA) hG hE) (k := ?_)
          | refine mj_callP (h := steady_true _ _ _ _ _ hsp) (k := ?_)
          | refine mj_callP (h := HoursR_spec _ _ _ m s1 s2 s3 tv l _ (hI.ext extA) (hr1.ext extA) hG hE) (k := ?_)
          | refine mj_callP (h := IsLong_spec _ _ _ m s1 s2 s3 tv l _ (hI.ext extA) (hr1.ext extA) hG hE hlt2) (k := ?_)
          | refine mj_callP (h := steady_true _ _ _ _ _ hsl) (k := ?_)
          | refine mj_callP (h := in_true _ _ _ _ _ hin) (k := ?_)
          | fail)
        | refine W1 ?_ | refine Wc ?_ | refine W2c ?_ ?_ | refine Wg ?_ | refine W2 ?_ ?_ | exact Wdead | refine Wlive (fun hb => ?_) | intro _ _ _ _ _ _ _ _ | refine We ?_ | refine Wx ?_ | refine Wt ?_ | refine Wm ?_ | refine W2m ?_ ?_ | refine Wl ?_
        | fail)
      refine st_call rfl (House_w E _ _ m s1 s2 s3 (hI.ext x1) hr.1) ?_
      rintro _ H2 g2 ⟨⟨t1, t2, t3, rfl, hmh, e2⟩, rfl⟩
      have x2 : Ext H H2 := x1.trans e2
      have hb2 := e2.get hb1
      refine OpsJ.normA ?_
      repeat' (first
        | (refine is_ucall ?_; first
          | refine st_callP (h := readyW_spec _ _ _ m s1 s2 s3 (hm.ext extA)) (k := ?_)
          | refine st_callP (h := awake_spec _ _ _) (k := ?_)
          | refine st_callP (h := IsPaid_spec _ _ _ m s1 s2 s3 tv l (hI.ext extA) (hr1.ext extA) hG hE) (k := ?_)
          | refine st_callP (h := steady_true _ _ _ _ _ hsp) (k := ?_)
          | refine st_callP (h := HoursR_spec _ _ _ m s1 s2 s3 tv l _ (hI.ext extA) (hr1.ext extA) hG hE) (k := ?_)
          | refine st_callP (h := IsLong_spec _ _ _ m s1 s2 s3 tv l _ (hI.ext extA) (hr1.ext extA) hG hE hlt2) (k := ?_)
          | refine st_callP (h := steady_true _ _ _ _ _ hsl) (k := ?_)
          | refine st_callP (h := in_true _ _ _ _ _ hin) (k := ?_)
          | fail)
        | (refine is_umcall ?_; first
          | refine mj_callP (h := readyW_spec _ _ _ m s1 s2 s3 (hm.ext extA)) (k := ?_)
          | refine mj_callP (h := awake_spec _ _ _) (k := ?_)
          | refine mj_callP (h := IsPaid_spec _ _ _ m s1 s2 s3 tv l (hI.ext extA) (hr1.ext extA) hG hE) (k := ?_)
          | refine mj_callP (h := steady_true _ _ _ _ _ hsp) (k := ?_)
          | refine mj_callP (h := HoursR_spec _ _ _ m s1 s2 s3 tv l _ (hI.ext extA) (hr1.ext extA) hG hE) (k := ?_)
          | refine mj_callP (h := IsLong_spec _ _ _ m s1 s2 s3 tv l _ (hI.ext extA) (hr1.ext extA) hG hE hlt2) (k := ?_)
          | refine mj_callP (h := steady_true _ _ _ _ _ hsl) (k := ?_)
          | refine mj_callP (h := in_true _ _ _ _ _ hin) (k := ?_)
          | fail)
        | refine W1 ?_ | refine Wc ?_ | refine W2c ?_ ?_ | refine Wg ?_ | refine W2 ?_ ?_ | exact Wdead | refine Wlive (fun hb => ?_) | intro _ _ _ _ _ _ _ _ | refine We ?_ | refine Wx ?_ | refine Wt ?_ | refine Wm ?_ | refine W2m ?_ ?_ | refine Wl ?_
        | fail)
      refine st_call rfl (LeaveR E _ _ m t1 t2 t3 hr.2 (hmh.ext extA)) ?_
      rintro _ H3 g3 ⟨⟨qv, rfl, hq, e3⟩, rfl⟩
      have x3 : Ext H H3 := x2.trans e3
      have hne : (encI (leaveS m)).length ≠ 0 := by
        intro e
        exact leave_ne hG hT (List.length_eq_zero_iff.1 (by simpa using e))
      have hne2 : (leaveS m).length ≠ 0 := by simpa using hne
      refine OpsJ.normA ?_
      repeat' (first
        | (refine is_ucall ?_; first
          | refine st_callP (h := readyW_spec _ _ _ m s1 s2 s3 (hm.ext extA)) (k := ?_)
          | refine st_callP (h := awake_spec _ _ _) (k := ?_)
          | refine st_callP (h := IsPaid_spec _ _ _ m s1 s2 s3 tv l (hI.ext extA) (hr1.ext extA) hG hE) (k := ?_)
          | refine st_callP (h := steady_true _ _ _ _ _ hsp) (k := ?_)
          | refine st_callP (h := HoursR_spec _ _ _ m s1 s2 s3 tv l _ (hI.ext extA) (hr1.ext extA) hG hE) (k := ?_)
          | refine st_callP (h := IsLong_spec _ _ _ m s1 s2 s3 tv l _ (hI.ext extA) (hr1.ext extA) hG hE hlt2) (k := ?_)
          | refine st_callP (h := steady_true _ _ _ _ _ hsl) (k := ?_)
          | refine st_callP (h := in_true _ _ _ _ _ hin) (k := ?_)
          | fail)
        | (refine is_umcall ?_; first
          | refine mj_callP (h := readyW_spec _ _ _ m s1 s2 s3 (hm.ext extA)) (k := ?_)
          | refine mj_callP (h := awake_spec _ _ _) (k := ?_)
          | refine mj_callP (h := IsPaid_spec _ _ _ m s1 s2 s3 tv l (hI.ext extA) (hr1.ext extA) hG hE) (k := ?_)
          | refine mj_callP (h := steady_true _ _ _ _ _ hsp) (k := ?_)
          | refine mj_callP (h := HoursR_spec _ _ _ m s1 s2 s3 tv l _ (hI.ext extA) (hr1.ext extA) hG hE) (k := ?_)
          | refine mj_callP (h := IsLong_spec _ _ _ m s1 s2 s3 tv l _ (hI.ext extA) (hr1.ext extA) hG hE hlt2) (k := ?_)
          | refine mj_callP (h := steady_true _ _ _ _ _ hsl) (k := ?_)
          | refine mj_callP (h := in_true _ _ _ _ _ hin) (k := ?_)
          | fail)
        | refine W1 ?_ | refine Wc ?_ | refine W2c ?_ ?_ | refine Wg ?_ | refine W2 ?_ ?_ | exact Wdead | refine Wlive (fun hb => ?_) | intro _ _ _ _ _ _ _ _ | refine We ?_ | refine Wx ?_ | refine Wt ?_ | refine Wm ?_ | refine W2m ?_ ?_ | refine Wl ?_
        | fail)
      · exact ⟨rfl, rfl, rfl⟩
      all_goals (exfalso; omega)
end
end Go.Proofs.Ytehobnpoeodhkaa
