import Derived.Test.YtehobnpoeodhkaaXd
import Derived.Test.YtehobnpoeodhkaaV10
namespace Go.Proofs.Ytehobnpoeodhkaa
open Go Go.Abs Go.Proofs
set_option maxHeartbeats 16000000
set_option maxRecDepth 20000
attribute [local irreducible] CallJ OpsJ WPJ CallV MonoJ SpecJ

theorem Ans.len {H H' : AHeap} {w : Nat} {xs : List (List Value)} {sv : Value} (h : Ans H w xs sv H') : xs.length ≤ 1000000 := by
  obtain ⟨_, ⟨_, hr⟩, a, len, cap, rfl, hl, _⟩ := h
  rcases hr with ⟨i, o, c, row, es, own, he, _⟩ | ⟨rfl, _⟩
  · simp at he; omega
  · simp
theorem enc_len {α : Type} {f : α → List Value} {l : List α} (h : (l.map f).length ≤ 1000000) : l.length ≤ 1000000 := by simpa using h
section
variable {γ : Type} (E : Env γ) (g : γ) (H : AHeap)
theorem list_x (sv : Value) (l : List Int) (hr : RdS H sv 1 (encI l)) (hn : l.length ≤ 1000000) : CallJ Try.prog E 27 [sv] (fun v H' g' => (RdS H' v 1 (encI l) ∧ Ext H H') ∧ g' = g) H g :=
  (list_spec E g H sv l hr hn).mono (by rintro v H' g' ⟨rfl, rfl, rfl⟩; exact ⟨⟨sl_rd (enc := enc1) (w := 1) (fun _ => rfl) H l, ⟨_, rfl⟩⟩, rfl⟩)
theorem memory_law (m : HouseM) (s1 s2 s3 lv : Value) (l : List Int) (hm : HouseW H m s1 s2 s3) (hr : RdS H lv 1 (encI l)) (hl : l.length ≤ 9223372036854775807) : CallJ Try.prog E 22 [hv m s1 s2 s3, lv] (fun v H' g' => v = .bool true ∧ H' = H ∧ g' = g) H g := by
  have hok : [Value.int .i64 m.hour, Value.int .i64 m.grace, s1, s2, s3].all cellOk = true := by have := hm.ok; simp [cellOk] at this ⊢; exact this
  refine CallJ.tidy ?_
  unfold hv
  refine CallJ.enter Try.func22 rfl (by simp only [Try.ntmps22, List.length_cons, List.length_nil, Nat.zero_add, Nat.reduceAdd, Nat.reduceSub, List.replicate_succ, List.replicate_zero, List.cons_append, List.nil_append]; rfl) ?_
  repeat' (first
    | (refine is_ucall ?_; first
      | refine st_callP (h := ThinW_spec _ _ _ m s1 s2 s3 (hm.ext extA)) (k := ?_)
      | refine st_callP (h := awake_spec _ _ _) (k := ?_)
      | fail)
    | (refine is_umcall ?_; first
      | refine mj_callP (h := ThinW_spec _ _ _ m s1 s2 s3 (hm.ext extA)) (k := ?_)
      | refine mj_callP (h := awake_spec _ _ _) (k := ?_)
      | fail)
    | ((fail_if_success (first | refine is_ucall ?_ | refine is_umcall ?_)); first | refine W1 ?_ | refine Wc ?_ | refine W2c ?_ ?_ | refine Wg ?_ | refine W2 ?_ ?_ | exact Wdead | refine Wlive (fun hb => ?_) | intro _ _ _ _ _ _ _ _ | refine We ?_ | refine Wx ?_ | refine Wt ?_ | refine Wm ?_ | refine W2m ?_ ?_ | refine Wl ?_)
    | fail)
  · exact ⟨rfl, rfl, rfl⟩
  · have ht : thinS m = true := by assumption
    have hn : l.length ≤ 1000000 := by omega
    have hI := hm.is ht
    obtain ⟨eP, hP⟩ : ∃ e, playE m l = e := ⟨_, rfl⟩
    obtain ⟨eT, hT⟩ : ∃ e, checkT m = e := ⟨_, rfl⟩
    obtain ⟨eS, hS⟩ : ∃ e, checkS m = e := ⟨_, rfl⟩
    obtain ⟨aP, hAP⟩ : ∃ a, (if eP = 0 then playS m l else []) = a := ⟨_, rfl⟩
    obtain ⟨aC, hAC⟩ : ∃ a, (if eT = 0 then clocksS m else []) = a := ⟨_, rfl⟩
    obtain ⟨aH, hAH⟩ : ∃ a, (if eT = 0 then hrsS m else []) = a := ⟨_, rfl⟩
    obtain ⟨aL, hAL⟩ : ∃ a, (if eT = 0 then longS m else []) = a := ⟨_, rfl⟩
    obtain ⟨aV, hAV⟩ : ∃ a, (if eS = 0 then leaveS m else []) = a := ⟨_, rfl⟩
    refine st_call rfl (House_w E _ _ m s1 s2 s3 (hI.ext extA) ht) ?_
    rintro _ H1 g1 ⟨⟨o1, o2, o3, rfl, hO1, e1⟩, rfl⟩
    have x1 : Ext H H1 := Ext.trans extA e1
    have hb1 : H1[H.length]? = some (.row [.int .i64 m.hour, .int .i64 m.grace, s1, s2, s3] 1 true) := e1.get getA
    have hokO := hO1.cells
    clear e1
    refine OpsJ.normA ?_
    repeat' (first
      | (refine is_ucall ?_; first
        | refine st_callP (h := ThinW_spec _ _ _ m s1 s2 s3 (hm.ext extA)) (k := ?_)
        | refine st_callP (h := awake_spec _ _ _) (k := ?_)
        | fail)
      | (refine is_umcall ?_; first
        | refine mj_callP (h := ThinW_spec _ _ _ m s1 s2 s3 (hm.ext extA)) (k := ?_)
        | refine mj_callP (h := awake_spec _ _ _) (k := ?_)
        | fail)
      | ((fail_if_success (first | refine is_ucall ?_ | refine is_umcall ?_)); first | refine W1 ?_ | refine Wc ?_ | refine W2c ?_ ?_ | refine Wg ?_ | refine W2 ?_ ?_ | exact Wdead | refine Wlive (fun hb => ?_) | intro _ _ _ _ _ _ _ _ | refine We ?_ | refine Wx ?_ | refine Wt ?_ | refine Wm ?_ | refine W2m ?_ ?_ | refine Wl ?_)
      | fail)
    refine st_call rfl (list_x E _ _ lv l (hr.ext extA) hn) ?_
    rintro lv2 H2 g2 ⟨⟨hM2, e2⟩, rfl⟩
    have x2 : Ext H H2 := x1.trans e2
    have hb2 : H2[H.length]? = some (.row [.int .i64 m.hour, .int .i64 m.grace, s1, s2, s3] 1 true) := e2.get hb1
    have hO2 := hO1.ext e2
    clear e2 hb1 x1 hO1
    refine OpsJ.normA ?_
    repeat' (first
      | (refine is_ucall ?_; first
        | refine st_callP (h := ThinW_spec _ _ _ m s1 s2 s3 (hm.ext extA)) (k := ?_)
        | refine st_callP (h := awake_spec _ _ _) (k := ?_)
        | fail)
      | (refine is_umcall ?_; first
        | refine mj_callP (h := ThinW_spec _ _ _ m s1 s2 s3 (hm.ext extA)) (k := ?_)
        | refine mj_callP (h := awake_spec _ _ _) (k := ?_)
        | fail)
      | ((fail_if_success (first | refine is_ucall ?_ | refine is_umcall ?_)); first | refine W1 ?_ | refine Wc ?_ | refine W2c ?_ ?_ | refine Wg ?_ | refine W2 ?_ ?_ | exact Wdead | refine Wlive (fun hb => ?_) | intro _ _ _ _ _ _ _ _ | refine We ?_ | refine Wx ?_ | refine Wt ?_ | refine Wm ?_ | refine W2m ?_ ?_ | refine Wl ?_)
      | fail)

    refine WPJ.loopT 2 [8, 9, 10, 11, 12, 13, 14, 15, 16, 17, 18, 19, 20, 21, 22, 23, 24, 25, 26, 27, 41, 42, 45, 46, 47, 48, 49, 50, 51, 52, 53, 54, 55, 56, 57, 58, 59, 60, 61, 62, 63, 64, 65, 66, 67, 68, 69, 70, 71, 72, 73, 74, 75, 76, 77, 78, 79, 80, 81, 82, 83, 84, 85, 86, 87, 88, 89, 90, 91, 92, 93, 94, 95, 96, 97, 98, 99, 100, 101, 102, 103, 104, 105, 106, 107, 108, 109, 110, 111, 112, 113, 114, 115, 116, 117, 118, 119, 120, 121, 122, 123, 124, 125, 126, 127, 128, 129, 130, 131, 132, 133, 134, 135, 136, 137, 138, 139, 140, 141, 142, 143, 144, 145, 146, 147, 148, 149, 150, 151, 152, 153, 154, 155, 156, 157, 158, 159, 160, 161, 162, 163, 164, 165, 166, 167, 168, 169, 170, 171, 172, 173, 174, 43, 44] (fun j (_ : Unit) => [(7, .int .i64 j)])
      (fun j _ Hc gc => gc = g2 ∧ Ext H Hc ∧ Hc[H.length]? = some (.row [.int .i64 m.hour, .int .i64 m.grace, s1, s2, s3] 1 true) ∧ Hc[H2.length]? = some (.row [.int .i64 m.hour, .int .i64 m.grace, o1, o2, o3] 1 true) ∧ HouseIs Hc m o1 o2 o3 ∧ RdS Hc lv2 1 (encI l)) 0 () (Nat.zero_le _)
      (by intro p hp; simp at hp; rcases hp with rfl; rfl) ⟨rfl, extA, getA, getA, hO2.ext extA, hM2.ext extA⟩ ?_
    clear hO2 hM2 hb2 x2
    rintro j _ Hc gc hj ⟨rfl, x0, hb0, ho0, hO, hM⟩ hl0
    simp only [updT, maskT, List.set_cons_zero, List.set_cons_succ]
    rcases Nat.lt_or_ge j 2 with hlt | hge
    · skip
      repeat' (first
        | (refine is_ucall ?_; first
          | refine st_callP (h := ThinW_spec _ _ _ m s1 s2 s3 (hm.ext extA)) (k := ?_)
          | refine st_callP (h := awake_spec _ _ _) (k := ?_)
          | fail)
        | (refine is_umcall ?_; first
          | refine mj_callP (h := ThinW_spec _ _ _ m s1 s2 s3 (hm.ext extA)) (k := ?_)
          | refine mj_callP (h := awake_spec _ _ _) (k := ?_)
          | fail)
        | ((fail_if_success (first | refine is_ucall ?_ | refine is_umcall ?_)); first | refine W1 ?_ | refine Wc ?_ | refine W2c ?_ ?_ | refine Wg ?_ | refine W2 ?_ ?_ | exact Wdead | refine Wlive (fun hb => ?_) | intro _ _ _ _ _ _ _ _ | refine We ?_ | refine Wx ?_ | refine Wt ?_ | refine Wm ?_ | refine W2m ?_ ?_ | refine Wl ?_)
        | fail)
      have y0 : Ext Hc Hc := Ext.refl _
      refine st_call rfl (House_w E _ _ m s1 s2 s3 (hI.ext x0) ht) ?_
      rintro _ K1 _ ⟨⟨t1, t2, t3, rfl, hu, f1⟩, rfl⟩
      have x1 : Ext H K1 := x0.trans f1
      have y1 : Ext Hc K1 := y0.trans f1
      have hb1 : K1[H.length]? = some (.row [.int .i64 m.hour, .int .i64 m.grace, s1, s2, s3] 1 true) := f1.get hb0
      have ho1 : K1[H2.length]? = some (.row [.int .i64 m.hour, .int .i64 m.grace, o1, o2, o3] 1 true) := f1.get ho0
      clear y0
      clear f1
      refine OpsJ.normA ?_
      repeat' (first
        | (refine is_ucall ?_; first
          | refine st_callP (h := ThinW_spec _ _ _ m s1 s2 s3 (hm.ext extA)) (k := ?_)
          | refine st_callP (h := awake_spec _ _ _) (k := ?_)
          | fail)
        | (refine is_umcall ?_; first
          | refine mj_callP (h := ThinW_spec _ _ _ m s1 s2 s3 (hm.ext extA)) (k := ?_)
          | refine mj_callP (h := awake_spec _ _ _) (k := ?_)
          | fail)
        | ((fail_if_success (first | refine is_ucall ?_ | refine is_umcall ?_)); first | refine W1 ?_ | refine Wc ?_ | refine W2c ?_ ?_ | refine Wg ?_ | refine W2 ?_ ?_ | exact Wdead | refine Wlive (fun hb => ?_) | intro _ _ _ _ _ _ _ _ | refine We ?_ | refine Wx ?_ | refine Wt ?_ | refine Wm ?_ | refine W2m ?_ ?_ | refine Wl ?_)
        | fail)
      refine st_call rfl (list_x E _ _ lv l (hr.ext x1) hn) ?_
      rintro lv3 K2 _ ⟨⟨hr3, f2⟩, rfl⟩
      have x2 : Ext H K2 := x1.trans f2
      have y2 : Ext Hc K2 := y1.trans f2
      have hb2 : K2[H.length]? = some (.row [.int .i64 m.hour, .int .i64 m.grace, s1, s2, s3] 1 true) := f2.get hb1
      have ho2 : K2[H2.length]? = some (.row [.int .i64 m.hour, .int .i64 m.grace, o1, o2, o3] 1 true) := f2.get ho1
      replace hu := hu.ext f2
      clear x1 y1 hb1 ho1
      clear f2
      refine OpsJ.normA ?_
      repeat' (first
        | (refine is_ucall ?_; first
          | refine st_callP (h := ThinW_spec _ _ _ m s1 s2 s3 (hm.ext extA)) (k := ?_)
          | refine st_callP (h := awake_spec _ _ _) (k := ?_)
          | fail)
        | (refine is_umcall ?_; first
          | refine mj_callP (h := ThinW_spec _ _ _ m s1 s2 s3 (hm.ext extA)) (k := ?_)
          | refine mj_callP (h := awake_spec _ _ _) (k := ?_)
          | fail)
        | ((fail_if_success (first | refine is_ucall ?_ | refine is_umcall ?_)); first | refine W1 ?_ | refine Wc ?_ | refine W2c ?_ ?_ | refine Wg ?_ | refine W2 ?_ ?_ | exact Wdead | refine Wlive (fun hb => ?_) | intro _ _ _ _ _ _ _ _ | refine We ?_ | refine Wx ?_ | refine Wt ?_ | refine Wm ?_ | refine W2m ?_ ?_ | refine Wl ?_)
        | fail)
      refine st_call rfl (PlayU E _ _ m t1 t2 t3 lv3 l eP aP hP hAP hu hr3 hn) ?_
      rintro _ K3 _ ⟨⟨vP, rfl, hans⟩, rfl⟩
      have hnP := enc_len hans.len
      obtain ⟨f3, rP, _⟩ := hans
      clear hu
      have x3 : Ext H K3 := x2.trans f3
      have y3 : Ext Hc K3 := y2.trans f3
      have hb3 : K3[H.length]? = some (.row [.int .i64 m.hour, .int .i64 m.grace, s1, s2, s3] 1 true) := f3.get hb2
      have ho3 : K3[H2.length]? = some (.row [.int .i64 m.hour, .int .i64 m.grace, o1, o2, o3] 1 true) := f3.get ho2
      clear x2 y2 hb2 ho2
      clear f3
      refine OpsJ.normA ?_
      repeat' (first
        | (refine is_ucall ?_; first
          | refine st_callP (h := ThinW_spec _ _ _ m s1 s2 s3 (hm.ext extA)) (k := ?_)
          | refine st_callP (h := awake_spec _ _ _) (k := ?_)
          | fail)
        | (refine is_umcall ?_; first
          | refine mj_callP (h := ThinW_spec _ _ _ m s1 s2 s3 (hm.ext extA)) (k := ?_)
          | refine mj_callP (h := awake_spec _ _ _) (k := ?_)
          | fail)
        | ((fail_if_success (first | refine is_ucall ?_ | refine is_umcall ?_)); first | refine W1 ?_ | refine Wc ?_ | refine W2c ?_ ?_ | refine Wg ?_ | refine W2 ?_ ?_ | exact Wdead | refine Wlive (fun hb => ?_) | intro _ _ _ _ _ _ _ _ | refine We ?_ | refine Wx ?_ | refine Wt ?_ | refine Wm ?_ | refine W2m ?_ ?_ | refine Wl ?_)
        | fail)
      refine st_call rfl (House_w E _ _ m s1 s2 s3 (hI.ext x3) ht) ?_
      rintro _ K4 _ ⟨⟨t1, t2, t3, rfl, hu, f4⟩, rfl⟩
      have x4 : Ext H K4 := x3.trans f4
      have y4 : Ext Hc K4 := y3.trans f4
      have hb4 : K4[H.length]? = some (.row [.int .i64 m.hour, .int .i64 m.grace, s1, s2, s3] 1 true) := f4.get hb3
      have ho4 : K4[H2.length]? = some (.row [.int .i64 m.hour, .int .i64 m.grace, o1, o2, o3] 1 true) := f4.get ho3
      replace rP := rP.ext f4
      clear x3 y3 hb3 ho3
      clear f4
      refine OpsJ.normA ?_
      repeat' (first
        | (refine is_ucall ?_; first
          | refine st_callP (h := ThinW_spec _ _ _ m s1 s2 s3 (hm.ext extA)) (k := ?_)
          | refine st_callP (h := awake_spec _ _ _) (k := ?_)
          | fail)
        | (refine is_umcall ?_; first
          | refine mj_callP (h := ThinW_spec _ _ _ m s1 s2 s3 (hm.ext extA)) (k := ?_)
          | refine mj_callP (h := awake_spec _ _ _) (k := ?_)
          | fail)
        | ((fail_if_success (first | refine is_ucall ?_ | refine is_umcall ?_)); first | refine W1 ?_ | refine Wc ?_ | refine W2c ?_ ?_ | refine Wg ?_ | refine W2 ?_ ?_ | exact Wdead | refine Wlive (fun hb => ?_) | intro _ _ _ _ _ _ _ _ | refine We ?_ | refine Wx ?_ | refine Wt ?_ | refine Wm ?_ | refine W2m ?_ ?_ | refine Wl ?_)
        | fail)
      refine st_call rfl (ClocksU E _ _ m t1 t2 t3 eT aC hT hAC hu) ?_
      rintro _ K5 _ ⟨⟨vC, rfl, hans⟩, rfl⟩
      have hnC := enc_len hans.len
      obtain ⟨f5, rC, _⟩ := hans
      clear hu
      have x5 : Ext H K5 := x4.trans f5
      have y5 : Ext Hc K5 := y4.trans f5
      have hb5 : K5[H.length]? = some (.row [.int .i64 m.hour, .int .i64 m.grace, s1, s2, s3] 1 true) := f5.get hb4
      have ho5 : K5[H2.length]? = some (.row [.int .i64 m.hour, .int .i64 m.grace, o1, o2, o3] 1 true) := f5.get ho4
      replace rP := rP.ext f5
      clear x4 y4 hb4 ho4
      clear f5
      refine OpsJ.normA ?_
      repeat' (first
        | (refine is_ucall ?_; first
          | refine st_callP (h := ThinW_spec _ _ _ m s1 s2 s3 (hm.ext extA)) (k := ?_)
          | refine st_callP (h := awake_spec _ _ _) (k := ?_)
          | fail)
        | (refine is_umcall ?_; first
          | refine mj_callP (h := ThinW_spec _ _ _ m s1 s2 s3 (hm.ext extA)) (k := ?_)
          | refine mj_callP (h := awake_spec _ _ _) (k := ?_)
          | fail)
        | ((fail_if_success (first | refine is_ucall ?_ | refine is_umcall ?_)); first | refine W1 ?_ | refine Wc ?_ | refine W2c ?_ ?_ | refine Wg ?_ | refine W2 ?_ ?_ | exact Wdead | refine Wlive (fun hb => ?_) | intro _ _ _ _ _ _ _ _ | refine We ?_ | refine Wx ?_ | refine Wt ?_ | refine Wm ?_ | refine W2m ?_ ?_ | refine Wl ?_)
        | fail)
      refine st_call rfl (House_w E _ _ m s1 s2 s3 (hI.ext x5) ht) ?_
      rintro _ K6 _ ⟨⟨t1, t2, t3, rfl, hu, f6⟩, rfl⟩
      have x6 : Ext H K6 := x5.trans f6
      have y6 : Ext Hc K6 := y5.trans f6
      have hb6 : K6[H.length]? = some (.row [.int .i64 m.hour, .int .i64 m.grace, s1, s2, s3] 1 true) := f6.get hb5
      have ho6 : K6[H2.length]? = some (.row [.int .i64 m.hour, .int .i64 m.grace, o1, o2, o3] 1 true) := f6.get ho5
      replace rP := rP.ext f6
      replace rC := rC.ext f6
      clear x5 y5 hb5 ho5
      clear f6
      refine OpsJ.normA ?_
      repeat' (first
        | (refine is_ucall ?_; first
          | refine st_callP (h := ThinW_spec _ _ _ m s1 s2 s3 (hm.ext extA)) (k := ?_)
          | refine st_callP (h := awake_spec _ _ _) (k := ?_)
          | fail)
        | (refine is_umcall ?_; first
          | refine mj_callP (h := ThinW_spec _ _ _ m s1 s2 s3 (hm.ext extA)) (k := ?_)
          | refine mj_callP (h := awake_spec _ _ _) (k := ?_)
          | fail)
        | ((fail_if_success (first | refine is_ucall ?_ | refine is_umcall ?_)); first | refine W1 ?_ | refine Wc ?_ | refine W2c ?_ ?_ | refine Wg ?_ | refine W2 ?_ ?_ | exact Wdead | refine Wlive (fun hb => ?_) | intro _ _ _ _ _ _ _ _ | refine We ?_ | refine Wx ?_ | refine Wt ?_ | refine Wm ?_ | refine W2m ?_ ?_ | refine Wl ?_)
        | fail)
      refine st_call rfl (HoursU E _ _ m t1 t2 t3 eT aH hT hAH hu) ?_
      rintro _ K7 _ ⟨⟨vH, rfl, hans⟩, rfl⟩
      have hnH := enc_len hans.len
      obtain ⟨f7, rH, _⟩ := hans
      clear hu
      have x7 : Ext H K7 := x6.trans f7
      have y7 : Ext Hc K7 := y6.trans f7
      have hb7 : K7[H.length]? = some (.row [.int .i64 m.hour, .int .i64 m.grace, s1, s2, s3] 1 true) := f7.get hb6
      have ho7 : K7[H2.length]? = some (.row [.int .i64 m.hour, .int .i64 m.grace, o1, o2, o3] 1 true) := f7.get ho6
      replace rP := rP.ext f7
      replace rC := rC.ext f7
      clear x6 y6 hb6 ho6
      clear f7
      refine OpsJ.normA ?_
      repeat' (first
        | (refine is_ucall ?_; first
          | refine st_callP (h := ThinW_spec _ _ _ m s1 s2 s3 (hm.ext extA)) (k := ?_)
          | refine st_callP (h := awake_spec _ _ _) (k := ?_)
          | fail)
        | (refine is_umcall ?_; first
          | refine mj_callP (h := ThinW_spec _ _ _ m s1 s2 s3 (hm.ext extA)) (k := ?_)
          | refine mj_callP (h := awake_spec _ _ _) (k := ?_)
          | fail)
        | ((fail_if_success (first | refine is_ucall ?_ | refine is_umcall ?_)); first | refine W1 ?_ | refine Wc ?_ | refine W2c ?_ ?_ | refine Wg ?_ | refine W2 ?_ ?_ | exact Wdead | refine Wlive (fun hb => ?_) | intro _ _ _ _ _ _ _ _ | refine We ?_ | refine Wx ?_ | refine Wt ?_ | refine Wm ?_ | refine W2m ?_ ?_ | refine Wl ?_)
        | fail)
      refine st_call rfl (House_w E _ _ m s1 s2 s3 (hI.ext x7) ht) ?_
      rintro _ K8 _ ⟨⟨t1, t2, t3, rfl, hu, f8⟩, rfl⟩
      have x8 : Ext H K8 := x7.trans f8
      have y8 : Ext Hc K8 := y7.trans f8
      have hb8 : K8[H.length]? = some (.row [.int .i64 m.hour, .int .i64 m.grace, s1, s2, s3] 1 true) := f8.get hb7
      have ho8 : K8[H2.length]? = some (.row [.int .i64 m.hour, .int .i64 m.grace, o1, o2, o3] 1 true) := f8.get ho7
      replace rP := rP.ext f8
      replace rC := rC.ext f8
      replace rH := rH.ext f8
      clear x7 y7 hb7 ho7
      clear f8
      refine OpsJ.normA ?_
      repeat' (first
        | (refine is_ucall ?_; first
          | refine st_callP (h := ThinW_spec _ _ _ m s1 s2 s3 (hm.ext extA)) (k := ?_)
          | refine st_callP (h := awake_spec _ _ _) (k := ?_)
          | fail)
        | (refine is_umcall ?_; first
          | refine mj_callP (h := ThinW_spec _ _ _ m s1 s2 s3 (hm.ext extA)) (k := ?_)
          | refine mj_callP (h := awake_spec _ _ _) (k := ?_)
          | fail)
        | ((fail_if_success (first | refine is_ucall ?_ | refine is_umcall ?_)); first | refine W1 ?_ | refine Wc ?_ | refine W2c ?_ ?_ | refine Wg ?_ | refine W2 ?_ ?_ | exact Wdead | refine Wlive (fun hb => ?_) | intro _ _ _ _ _ _ _ _ | refine We ?_ | refine Wx ?_ | refine Wt ?_ | refine Wm ?_ | refine W2m ?_ ?_ | refine Wl ?_)
        | fail)
      refine st_call rfl (LongU E _ _ m t1 t2 t3 eT aL hT hAL hu) ?_
      rintro _ K9 _ ⟨⟨vL, rfl, hans⟩, rfl⟩
      have hnL := enc_len hans.len
      obtain ⟨f9, rL, _⟩ := hans
      clear hu
      have x9 : Ext H K9 := x8.trans f9
      have y9 : Ext Hc K9 := y8.trans f9
      have hb9 : K9[H.length]? = some (.row [.int .i64 m.hour, .int .i64 m.grace, s1, s2, s3] 1 true) := f9.get hb8
      have ho9 : K9[H2.length]? = some (.row [.int .i64 m.hour, .int .i64 m.grace, o1, o2, o3] 1 true) := f9.get ho8
      replace rP := rP.ext f9
      replace rC := rC.ext f9
      replace rH := rH.ext f9
      clear x8 y8 hb8 ho8
      clear f9
      refine OpsJ.normA ?_
      repeat' (first
        | (refine is_ucall ?_; first
          | refine st_callP (h := ThinW_spec _ _ _ m s1 s2 s3 (hm.ext extA)) (k := ?_)
          | refine st_callP (h := awake_spec _ _ _) (k := ?_)
          | fail)
        | (refine is_umcall ?_; first
          | refine mj_callP (h := ThinW_spec _ _ _ m s1 s2 s3 (hm.ext extA)) (k := ?_)
          | refine mj_callP (h := awake_spec _ _ _) (k := ?_)
          | fail)
        | ((fail_if_success (first | refine is_ucall ?_ | refine is_umcall ?_)); first | refine W1 ?_ | refine Wc ?_ | refine W2c ?_ ?_ | refine Wg ?_ | refine W2 ?_ ?_ | exact Wdead | refine Wlive (fun hb => ?_) | intro _ _ _ _ _ _ _ _ | refine We ?_ | refine Wx ?_ | refine Wt ?_ | refine Wm ?_ | refine W2m ?_ ?_ | refine Wl ?_)
        | fail)
      refine st_call rfl (House_w E _ _ m s1 s2 s3 (hI.ext x9) ht) ?_
      rintro _ K10 _ ⟨⟨t1, t2, t3, rfl, hu, f10⟩, rfl⟩
      have x10 : Ext H K10 := x9.trans f10
      have y10 : Ext Hc K10 := y9.trans f10
      have hb10 : K10[H.length]? = some (.row [.int .i64 m.hour, .int .i64 m.grace, s1, s2, s3] 1 true) := f10.get hb9
      have ho10 : K10[H2.length]? = some (.row [.int .i64 m.hour, .int .i64 m.grace, o1, o2, o3] 1 true) := f10.get ho9
      replace rP := rP.ext f10
      replace rC := rC.ext f10
      replace rH := rH.ext f10
      replace rL := rL.ext f10
      clear x9 y9 hb9 ho9
      clear f10
      refine OpsJ.normA ?_
      repeat' (first
        | (refine is_ucall ?_; first
          | refine st_callP (h := ThinW_spec _ _ _ m s1 s2 s3 (hm.ext extA)) (k := ?_)
          | refine st_callP (h := awake_spec _ _ _) (k := ?_)
          | fail)
        | (refine is_umcall ?_; first
          | refine mj_callP (h := ThinW_spec _ _ _ m s1 s2 s3 (hm.ext extA)) (k := ?_)
          | refine mj_callP (h := awake_spec _ _ _) (k := ?_)
          | fail)
        | ((fail_if_success (first | refine is_ucall ?_ | refine is_umcall ?_)); first | refine W1 ?_ | refine Wc ?_ | refine W2c ?_ ?_ | refine Wg ?_ | refine W2 ?_ ?_ | exact Wdead | refine Wlive (fun hb => ?_) | intro _ _ _ _ _ _ _ _ | refine We ?_ | refine Wx ?_ | refine Wt ?_ | refine Wm ?_ | refine W2m ?_ ?_ | refine Wl ?_)
        | fail)
      refine st_call rfl (LeaveU E _ _ m t1 t2 t3 eS aV hS hAV hu) ?_
      rintro _ K11 _ ⟨⟨vV, rfl, hans⟩, rfl⟩
      have hnV := enc_len hans.len
      obtain ⟨f11, rV, _⟩ := hans
      clear hu
      have x11 : Ext H K11 := x10.trans f11
      have y11 : Ext Hc K11 := y10.trans f11
      have hb11 : K11[H.length]? = some (.row [.int .i64 m.hour, .int .i64 m.grace, s1, s2, s3] 1 true) := f11.get hb10
      have ho11 : K11[H2.length]? = some (.row [.int .i64 m.hour, .int .i64 m.grace, o1, o2, o3] 1 true) := f11.get ho10
      replace rP := rP.ext f11
      replace rC := rC.ext f11
      replace rH := rH.ext f11
      replace rL := rL.ext f11
      clear x10 y10 hb10 ho10
      clear f11
      refine OpsJ.normA ?_
      repeat' (first
        | (refine is_ucall ?_; first
          | refine st_callP (h := ThinW_spec _ _ _ m s1 s2 s3 (hm.ext extA)) (k := ?_)
          | refine st_callP (h := awake_spec _ _ _) (k := ?_)
          | fail)
        | (refine is_umcall ?_; first
          | refine mj_callP (h := ThinW_spec _ _ _ m s1 s2 s3 (hm.ext extA)) (k := ?_)
          | refine mj_callP (h := awake_spec _ _ _) (k := ?_)
          | fail)
        | ((fail_if_success (first | refine is_ucall ?_ | refine is_umcall ?_)); first | refine W1 ?_ | refine Wc ?_ | refine W2c ?_ ?_ | refine Wg ?_ | refine W2 ?_ ?_ | exact Wdead | refine Wlive (fun hb => ?_) | intro _ _ _ _ _ _ _ _ | refine We ?_ | refine Wx ?_ | refine Wt ?_ | refine Wm ?_ | refine W2m ?_ ?_ | refine Wl ?_)
        | fail)
      have zH := y11.len
      refine st_call rfl (PlayU E _ _ m o1 o2 o3 lv2 l eP aP hP hAP (hO.ext y11) (hM.ext y11) hn) ?_
      rintro _ K12 _ ⟨⟨_, rfl, f12, qP, bP, lP, cP, rfl, mP, wP⟩, rfl⟩
      have pP := wP.ge
      have zP := f12.len
      have x12 : Ext H K12 := x11.trans f12
      have y12 : Ext Hc K12 := y11.trans f12
      have hb12 : K12[H.length]? = some (.row [.int .i64 m.hour, .int .i64 m.grace, s1, s2, s3] 1 true) := f12.get hb11
      have ho12 : K12[H2.length]? = some (.row [.int .i64 m.hour, .int .i64 m.grace, o1, o2, o3] 1 true) := f12.get ho11
      replace rP := rP.ext f12
      replace rC := rC.ext f12
      replace rH := rH.ext f12
      replace rL := rL.ext f12
      replace rV := rV.ext f12
      clear x11 y11 hb11 ho11
      clear f12
      refine OpsJ.normA ?_
      repeat' (first
        | (refine is_ucall ?_; first
          | refine st_callP (h := ThinW_spec _ _ _ m s1 s2 s3 (hm.ext extA)) (k := ?_)
          | refine st_callP (h := awake_spec _ _ _) (k := ?_)
          | fail)
        | (refine is_umcall ?_; first
          | refine mj_callP (h := ThinW_spec _ _ _ m s1 s2 s3 (hm.ext extA)) (k := ?_)
          | refine mj_callP (h := awake_spec _ _ _) (k := ?_)
          | fail)
        | ((fail_if_success (first | refine is_ucall ?_ | refine is_umcall ?_)); first | refine W1 ?_ | refine Wc ?_ | refine W2c ?_ ?_ | refine Wg ?_ | refine W2 ?_ ?_ | exact Wdead | refine Wlive (fun hb => ?_) | intro _ _ _ _ _ _ _ _ | refine We ?_ | refine Wx ?_ | refine Wt ?_ | refine Wm ?_ | refine W2m ?_ ?_ | refine Wl ?_)
        | fail)
      refine st_call rfl (ClocksU E _ _ m o1 o2 o3 eT aC hT hAC (hO.ext y12)) ?_
      rintro _ K13 _ ⟨⟨_, rfl, f13, qC, bC, lC, cC, rfl, mC, wC⟩, rfl⟩
      have pC := wC.ge
      have zC := f13.len
      have x13 : Ext H K13 := x12.trans f13
      have y13 : Ext Hc K13 := y12.trans f13
      have hb13 : K13[H.length]? = some (.row [.int .i64 m.hour, .int .i64 m.grace, s1, s2, s3] 1 true) := f13.get hb12
      have ho13 : K13[H2.length]? = some (.row [.int .i64 m.hour, .int .i64 m.grace, o1, o2, o3] 1 true) := f13.get ho12
      replace rP := rP.ext f13
      replace rC := rC.ext f13
      replace rH := rH.ext f13
      replace rL := rL.ext f13
      replace rV := rV.ext f13
      replace qP := qP.ext f13
      replace wP := wP.ext f13
      clear x12 y12 hb12 ho12
      clear f13
      refine OpsJ.normA ?_
      repeat' (first
        | (refine is_ucall ?_; first
          | refine st_callP (h := ThinW_spec _ _ _ m s1 s2 s3 (hm.ext extA)) (k := ?_)
          | refine st_callP (h := awake_spec _ _ _) (k := ?_)
          | fail)
        | (refine is_umcall ?_; first
          | refine mj_callP (h := ThinW_spec _ _ _ m s1 s2 s3 (hm.ext extA)) (k := ?_)
          | refine mj_callP (h := awake_spec _ _ _) (k := ?_)
          | fail)
        | ((fail_if_success (first | refine is_ucall ?_ | refine is_umcall ?_)); first | refine W1 ?_ | refine Wc ?_ | refine W2c ?_ ?_ | refine Wg ?_ | refine W2 ?_ ?_ | exact Wdead | refine Wlive (fun hb => ?_) | intro _ _ _ _ _ _ _ _ | refine We ?_ | refine Wx ?_ | refine Wt ?_ | refine Wm ?_ | refine W2m ?_ ?_ | refine Wl ?_)
        | fail)
      refine st_call rfl (HoursU E _ _ m o1 o2 o3 eT aH hT hAH (hO.ext y13)) ?_
      rintro _ K14 _ ⟨⟨_, rfl, f14, qH, bH, lH, cH, rfl, mH, wH⟩, rfl⟩
      have pH := wH.ge
      have zH := f14.len
      have x14 : Ext H K14 := x13.trans f14
      have y14 : Ext Hc K14 := y13.trans f14
      have hb14 : K14[H.length]? = some (.row [.int .i64 m.hour, .int .i64 m.grace, s1, s2, s3] 1 true) := f14.get hb13
      have ho14 : K14[H2.length]? = some (.row [.int .i64 m.hour, .int .i64 m.grace, o1, o2, o3] 1 true) := f14.get ho13
      replace rP := rP.ext f14
      replace rC := rC.ext f14
      replace rH := rH.ext f14
      replace rL := rL.ext f14
      replace rV := rV.ext f14
      replace qP := qP.ext f14
      replace wP := wP.ext f14
      replace qC := qC.ext f14
      replace wC := wC.ext f14
      clear x13 y13 hb13 ho13
      clear f14
      refine OpsJ.normA ?_
      repeat' (first
        | (refine is_ucall ?_; first
          | refine st_callP (h := ThinW_spec _ _ _ m s1 s2 s3 (hm.ext extA)) (k := ?_)
          | refine st_callP (h := awake_spec _ _ _) (k := ?_)
          | fail)
        | (refine is_umcall ?_; first
          | refine mj_callP (h := ThinW_spec _ _ _ m s1 s2 s3 (hm.ext extA)) (k := ?_)
          | refine mj_callP (h := awake_spec _ _ _) (k := ?_)
          | fail)
        | ((fail_if_success (first | refine is_ucall ?_ | refine is_umcall ?_)); first | refine W1 ?_ | refine Wc ?_ | refine W2c ?_ ?_ | refine Wg ?_ | refine W2 ?_ ?_ | exact Wdead | refine Wlive (fun hb => ?_) | intro _ _ _ _ _ _ _ _ | refine We ?_ | refine Wx ?_ | refine Wt ?_ | refine Wm ?_ | refine W2m ?_ ?_ | refine Wl ?_)
        | fail)
      refine st_call rfl (LongU E _ _ m o1 o2 o3 eT aL hT hAL (hO.ext y14)) ?_
      rintro _ K15 _ ⟨⟨_, rfl, f15, qL, bL, lL, cL, rfl, mL, wL⟩, rfl⟩
      have pL := wL.ge
      have zL := f15.len
      have x15 : Ext H K15 := x14.trans f15
      have y15 : Ext Hc K15 := y14.trans f15
      have hb15 : K15[H.length]? = some (.row [.int .i64 m.hour, .int .i64 m.grace, s1, s2, s3] 1 true) := f15.get hb14
      have ho15 : K15[H2.length]? = some (.row [.int .i64 m.hour, .int .i64 m.grace, o1, o2, o3] 1 true) := f15.get ho14
      replace rP := rP.ext f15
      replace rC := rC.ext f15
      replace rH := rH.ext f15
      replace rL := rL.ext f15
      replace rV := rV.ext f15
      replace qP := qP.ext f15
      replace wP := wP.ext f15
      replace qC := qC.ext f15
      replace wC := wC.ext f15
      replace qH := qH.ext f15
      replace wH := wH.ext f15
      clear x14 y14 hb14 ho14
      clear f15
      refine OpsJ.normA ?_
      repeat' (first
        | (refine is_ucall ?_; first
          | refine st_callP (h := ThinW_spec _ _ _ m s1 s2 s3 (hm.ext extA)) (k := ?_)
          | refine st_callP (h := awake_spec _ _ _) (k := ?_)
          | fail)
        | (refine is_umcall ?_; first
          | refine mj_callP (h := ThinW_spec _ _ _ m s1 s2 s3 (hm.ext extA)) (k := ?_)
          | refine mj_callP (h := awake_spec _ _ _) (k := ?_)
          | fail)
        | ((fail_if_success (first | refine is_ucall ?_ | refine is_umcall ?_)); first | refine W1 ?_ | refine Wc ?_ | refine W2c ?_ ?_ | refine Wg ?_ | refine W2 ?_ ?_ | exact Wdead | refine Wlive (fun hb => ?_) | intro _ _ _ _ _ _ _ _ | refine We ?_ | refine Wx ?_ | refine Wt ?_ | refine Wm ?_ | refine W2m ?_ ?_ | refine Wl ?_)
        | fail)
      refine st_call rfl (LeaveU E _ _ m o1 o2 o3 eS aV hS hAV (hO.ext y15)) ?_
      rintro _ K16 _ ⟨⟨_, rfl, f16, qV, bV, lV, cV, rfl, mV, wV⟩, rfl⟩
      have pV := wV.ge
      have zV := f16.len
      have x16 : Ext H K16 := x15.trans f16
      have y16 : Ext Hc K16 := y15.trans f16
      have hb16 : K16[H.length]? = some (.row [.int .i64 m.hour, .int .i64 m.grace, s1, s2, s3] 1 true) := f16.get hb15
      have ho16 : K16[H2.length]? = some (.row [.int .i64 m.hour, .int .i64 m.grace, o1, o2, o3] 1 true) := f16.get ho15
      replace rP := rP.ext f16
      replace rC := rC.ext f16
      replace rH := rH.ext f16
      replace rL := rL.ext f16
      replace rV := rV.ext f16
      replace qP := qP.ext f16
      replace wP := wP.ext f16
      replace qC := qC.ext f16
      replace wC := wC.ext f16
      replace qH := qH.ext f16
      replace wH := wH.ext f16
      replace qL := qL.ext f16
      replace wL := wL.ext f16
      clear x15 y15 hb15 ho15
      clear f16
      refine OpsJ.normA ?_
      repeat' (first
        | (refine is_ucall ?_; first
          | refine st_callP (h := ThinW_spec _ _ _ m s1 s2 s3 (hm.ext extA)) (k := ?_)
          | refine st_callP (h := awake_spec _ _ _) (k := ?_)
          | fail)
        | (refine is_umcall ?_; first
          | refine mj_callP (h := ThinW_spec _ _ _ m s1 s2 s3 (hm.ext extA)) (k := ?_)
          | refine mj_callP (h := awake_spec _ _ _) (k := ?_)
          | fail)
        | ((fail_if_success (first | refine is_ucall ?_ | refine is_umcall ?_)); first | refine W1 ?_ | refine Wc ?_ | refine W2c ?_ ?_ | refine Wg ?_ | refine W2 ?_ ?_ | exact Wdead | refine Wlive (fun hb => ?_) | intro _ _ _ _ _ _ _ _ | refine We ?_ | refine Wx ?_ | refine Wt ?_ | refine Wm ?_ | refine W2m ?_ ?_ | refine Wl ?_)
        | fail)
      any_goals (refine absurd trivial ?_; assumption)
      refine st_callP (h := ints_same1 E _ _ _ _ aP rP qP hnP) (k := ?_)
      refine OpsJ.normA ?_
      repeat' (first
        | (refine is_ucall ?_; first
          | refine st_callP (h := ThinW_spec _ _ _ m s1 s2 s3 (hm.ext extA)) (k := ?_)
          | refine st_callP (h := awake_spec _ _ _) (k := ?_)
          | fail)
        | (refine is_umcall ?_; first
          | refine mj_callP (h := ThinW_spec _ _ _ m s1 s2 s3 (hm.ext extA)) (k := ?_)
          | refine mj_callP (h := awake_spec _ _ _) (k := ?_)
          | fail)
        | ((fail_if_success (first | refine is_ucall ?_ | refine is_umcall ?_)); first | refine W1 ?_ | refine Wc ?_ | refine W2c ?_ ?_ | refine Wg ?_ | refine W2 ?_ ?_ | exact Wdead | refine Wlive (fun hb => ?_) | intro _ _ _ _ _ _ _ _ | refine We ?_ | refine Wx ?_ | refine Wt ?_ | refine Wm ?_ | refine W2m ?_ ?_ | refine Wl ?_)
        | fail)
      refine st_callP (h := ranges_same E _ _ _ _ aC rC qC hnC) (k := ?_)
      refine OpsJ.normA ?_
      repeat' (first
        | (refine is_ucall ?_; first
          | refine st_callP (h := ThinW_spec _ _ _ m s1 s2 s3 (hm.ext extA)) (k := ?_)
          | refine st_callP (h := awake_spec _ _ _) (k := ?_)
          | fail)
        | (refine is_umcall ?_; first
          | refine mj_callP (h := ThinW_spec _ _ _ m s1 s2 s3 (hm.ext extA)) (k := ?_)
          | refine mj_callP (h := awake_spec _ _ _) (k := ?_)
          | fail)
        | ((fail_if_success (first | refine is_ucall ?_ | refine is_umcall ?_)); first | refine W1 ?_ | refine Wc ?_ | refine W2c ?_ ?_ | refine Wg ?_ | refine W2 ?_ ?_ | exact Wdead | refine Wlive (fun hb => ?_) | intro _ _ _ _ _ _ _ _ | refine We ?_ | refine Wx ?_ | refine Wt ?_ | refine Wm ?_ | refine W2m ?_ ?_ | refine Wl ?_)
        | fail)
      refine st_callP (h := ranges_same E _ _ _ _ aH rH qH hnH) (k := ?_)
      refine OpsJ.normA ?_
      repeat' (first
        | (refine is_ucall ?_; first
          | refine st_callP (h := ThinW_spec _ _ _ m s1 s2 s3 (hm.ext extA)) (k := ?_)
          | refine st_callP (h := awake_spec _ _ _) (k := ?_)
          | fail)
        | (refine is_umcall ?_; first
          | refine mj_callP (h := ThinW_spec _ _ _ m s1 s2 s3 (hm.ext extA)) (k := ?_)
          | refine mj_callP (h := awake_spec _ _ _) (k := ?_)
          | fail)
        | ((fail_if_success (first | refine is_ucall ?_ | refine is_umcall ?_)); first | refine W1 ?_ | refine Wc ?_ | refine W2c ?_ ?_ | refine Wg ?_ | refine W2 ?_ ?_ | exact Wdead | refine Wlive (fun hb => ?_) | intro _ _ _ _ _ _ _ _ | refine We ?_ | refine Wx ?_ | refine Wt ?_ | refine Wm ?_ | refine W2m ?_ ?_ | refine Wl ?_)
        | fail)
      refine st_callP (h := ints_same1 E _ _ _ _ aL rL qL hnL) (k := ?_)
      refine OpsJ.normA ?_
      repeat' (first
        | (refine is_ucall ?_; first
          | refine st_callP (h := ThinW_spec _ _ _ m s1 s2 s3 (hm.ext extA)) (k := ?_)
          | refine st_callP (h := awake_spec _ _ _) (k := ?_)
          | fail)
        | (refine is_umcall ?_; first
          | refine mj_callP (h := ThinW_spec _ _ _ m s1 s2 s3 (hm.ext extA)) (k := ?_)
          | refine mj_callP (h := awake_spec _ _ _) (k := ?_)
          | fail)
        | ((fail_if_success (first | refine is_ucall ?_ | refine is_umcall ?_)); first | refine W1 ?_ | refine Wc ?_ | refine W2c ?_ ?_ | refine Wg ?_ | refine W2 ?_ ?_ | exact Wdead | refine Wlive (fun hb => ?_) | intro _ _ _ _ _ _ _ _ | refine We ?_ | refine Wx ?_ | refine Wt ?_ | refine Wm ?_ | refine W2m ?_ ?_ | refine Wl ?_)
        | fail)
      refine st_callP (h := ints_same1 E _ _ _ _ aV rV qV hnV) (k := ?_)
      refine OpsJ.normA ?_
      repeat' (first
        | (refine is_ucall ?_; first
          | refine st_callP (h := ThinW_spec _ _ _ m s1 s2 s3 (hm.ext extA)) (k := ?_)
          | refine st_callP (h := awake_spec _ _ _) (k := ?_)
          | fail)
        | (refine is_umcall ?_; first
          | refine mj_callP (h := ThinW_spec _ _ _ m s1 s2 s3 (hm.ext extA)) (k := ?_)
          | refine mj_callP (h := awake_spec _ _ _) (k := ?_)
          | fail)
        | ((fail_if_success (first | refine is_ucall ?_ | refine is_umcall ?_)); first | refine W1 ?_ | refine Wc ?_ | refine W2c ?_ ?_ | refine Wg ?_ | refine W2 ?_ ?_ | exact Wdead | refine Wlive (fun hb => ?_) | intro _ _ _ _ _ _ _ _ | refine We ?_ | refine Wx ?_ | refine Wt ?_ | refine Wm ?_ | refine W2m ?_ ?_ | refine Wl ?_)
        | fail)
      clear rP rC rH rL rV qP qC qH qL qV hb16 ho16
      refine st_call rfl (over_spec E _ _ bC bP lC cC lP cP _ _ wC wP mC mP (fun i h1 h2 => by have := pP i h1; have := pC i h2; omega)) ?_
      rintro _ K17 _ ⟨hv17, rfl⟩
      have y17 : Ext Hc K17 := hv17.ext y16 (fun i hi => by have := pC i hi; omega) (fun i hi => by have := pP i hi; omega)
      have hb17 : K17[H.length]? = some (.row [.int .i64 m.hour, .int .i64 m.grace, s1, s2, s3] 1 true) := y17.get hb0
      have ho17 : K17[H2.length]? = some (.row [.int .i64 m.hour, .int .i64 m.grace, o1, o2, o3] 1 true) := y17.get ho0
      have x17 : Ext H K17 := x0.trans y17
      replace wH := hv17.row wH (fun i h1 h2 => by have := pH i h1; have := pC i h2; omega) (fun i h1 h2 => by have := pH i h1; have := pP i h2; omega)
      replace wL := hv17.row wL (fun i h1 h2 => by have := pL i h1; have := pC i h2; omega) (fun i h1 h2 => by have := pL i h1; have := pP i h2; omega)
      replace wV := hv17.row wV (fun i h1 h2 => by have := pV i h1; have := pC i h2; omega) (fun i h1 h2 => by have := pV i h1; have := pP i h2; omega)
      clear hv17
      refine OpsJ.normA ?_
      repeat' (first
        | (refine is_ucall ?_; first
          | refine st_callP (h := ThinW_spec _ _ _ m s1 s2 s3 (hm.ext extA)) (k := ?_)
          | refine st_callP (h := awake_spec _ _ _) (k := ?_)
          | fail)
        | (refine is_umcall ?_; first
          | refine mj_callP (h := ThinW_spec _ _ _ m s1 s2 s3 (hm.ext extA)) (k := ?_)
          | refine mj_callP (h := awake_spec _ _ _) (k := ?_)
          | fail)
        | ((fail_if_success (first | refine is_ucall ?_ | refine is_umcall ?_)); first | refine W1 ?_ | refine Wc ?_ | refine W2c ?_ ?_ | refine Wg ?_ | refine W2 ?_ ?_ | exact Wdead | refine Wlive (fun hb => ?_) | intro _ _ _ _ _ _ _ _ | refine We ?_ | refine Wx ?_ | refine Wt ?_ | refine Wm ?_ | refine W2m ?_ ?_ | refine Wl ?_)
        | fail)
      refine st_call rfl (over_spec E _ _ bH bL lH cH lL cL _ _ wH wL mH mL (fun i h1 h2 => by have := pL i h1; have := pH i h2; omega)) ?_
      rintro _ K18 _ ⟨hv18, rfl⟩
      have y18 : Ext Hc K18 := hv18.ext y17 (fun i hi => by have := pH i hi; omega) (fun i hi => by have := pL i hi; omega)
      have hb18 : K18[H.length]? = some (.row [.int .i64 m.hour, .int .i64 m.grace, s1, s2, s3] 1 true) := y18.get hb0
      have ho18 : K18[H2.length]? = some (.row [.int .i64 m.hour, .int .i64 m.grace, o1, o2, o3] 1 true) := y18.get ho0
      have x18 : Ext H K18 := x0.trans y18
      replace wV := hv18.row wV (fun i h1 h2 => by have := pV i h1; have := pH i h2; omega) (fun i h1 h2 => by have := pV i h1; have := pL i h2; omega)
      clear hv18
      refine OpsJ.normA ?_
      repeat' (first
        | (refine is_ucall ?_; first
          | refine st_callP (h := ThinW_spec _ _ _ m s1 s2 s3 (hm.ext extA)) (k := ?_)
          | refine st_callP (h := awake_spec _ _ _) (k := ?_)
          | fail)
        | (refine is_umcall ?_; first
          | refine mj_callP (h := ThinW_spec _ _ _ m s1 s2 s3 (hm.ext extA)) (k := ?_)
          | refine mj_callP (h := awake_spec _ _ _) (k := ?_)
          | fail)
        | ((fail_if_success (first | refine is_ucall ?_ | refine is_umcall ?_)); first | refine W1 ?_ | refine Wc ?_ | refine W2c ?_ ?_ | refine Wg ?_ | refine W2 ?_ ?_ | exact Wdead | refine Wlive (fun hb => ?_) | intro _ _ _ _ _ _ _ _ | refine We ?_ | refine Wx ?_ | refine Wt ?_ | refine Wm ?_ | refine W2m ?_ ?_ | refine Wl ?_)
        | fail)
      refine st_call rfl (over_spec E _ _ none bV 0 0 lV cV 0 _ (.inl ⟨rfl, rfl⟩) wV (by omega) mV (fun i _ h2 => by cases h2)) ?_
      rintro _ K19 _ ⟨hv19, rfl⟩
      have y19 : Ext Hc K19 := hv19.ext y18 (fun i hi => by cases hi) (fun i hi => by have := pV i hi; omega)
      have hb19 : K19[H.length]? = some (.row [.int .i64 m.hour, .int .i64 m.grace, s1, s2, s3] 1 true) := y19.get hb0
      have ho19 : K19[H2.length]? = some (.row [.int .i64 m.hour, .int .i64 m.grace, o1, o2, o3] 1 true) := y19.get ho0
      have x19 : Ext H K19 := x0.trans y19
      clear hv19
      refine OpsJ.normA ?_
      repeat' (first
        | (refine is_ucall ?_; first
          | refine st_callP (h := ThinW_spec _ _ _ m s1 s2 s3 (hm.ext extA)) (k := ?_)
          | refine st_callP (h := awake_spec _ _ _) (k := ?_)
          | fail)
        | (refine is_umcall ?_; first
          | refine mj_callP (h := ThinW_spec _ _ _ m s1 s2 s3 (hm.ext extA)) (k := ?_)
          | refine mj_callP (h := awake_spec _ _ _) (k := ?_)
          | fail)
        | ((fail_if_success (first | refine is_ucall ?_ | refine is_umcall ?_)); first | refine W1 ?_ | refine Wc ?_ | refine W2c ?_ ?_ | refine Wg ?_ | refine W2 ?_ ?_ | exact Wdead | refine Wlive (fun hb => ?_) | intro _ _ _ _ _ _ _ _ | refine We ?_ | refine Wx ?_ | refine Wt ?_ | refine Wm ?_ | refine W2m ?_ ?_ | refine Wl ?_)
        | fail)
      have hth := ht
      unfold thinS at hth
      simp only [Bool.and_eq_true, decide_eq_true_eq] at hth
      refine WPJ.draw 11 mixed (by kernel_rfl) (by kernel_rfl) (by kernel_rfl) (by decide) ?_
      refine MonoJ.normA ?_
      repeat' (first
        | (refine is_ucall ?_; first
          | refine st_callP (h := ThinW_spec _ _ _ m s1 s2 s3 (hm.ext extA)) (k := ?_)
          | refine st_callP (h := awake_spec _ _ _) (k := ?_)
          | fail)
        | (refine is_umcall ?_; first
          | refine mj_callP (h := ThinW_spec _ _ _ m s1 s2 s3 (hm.ext extA)) (k := ?_)
          | refine mj_callP (h := awake_spec _ _ _) (k := ?_)
          | fail)
        | ((fail_if_success (first | refine is_ucall ?_ | refine is_umcall ?_)); first | refine W1 ?_ | refine Wc ?_ | refine W2c ?_ ?_ | refine Wg ?_ | refine W2 ?_ ?_ | exact Wdead | refine Wlive (fun hb => ?_) | intro _ _ _ _ _ _ _ _ | refine We ?_ | refine Wx ?_ | refine Wt ?_ | refine Wm ?_ | refine W2m ?_ ?_ | refine Wl ?_)
        | fail)
      refine mj_callL (h := House_own _ _ _ m s1 s2 s3 ((hI.ext x19).y) (by omega) (by omega) (by omega)) (k := ?_) (hL := houseL_own m)
      refine MonoJ.normA ?_
      repeat' (first
        | (refine is_ucall ?_; first
          | refine st_callP (h := ThinW_spec _ _ _ m s1 s2 s3 (hm.ext extA)) (k := ?_)
          | refine st_callP (h := awake_spec _ _ _) (k := ?_)
          | fail)
        | (refine is_umcall ?_; first
          | refine mj_callP (h := ThinW_spec _ _ _ m s1 s2 s3 (hm.ext extA)) (k := ?_)
          | refine mj_callP (h := awake_spec _ _ _) (k := ?_)
          | fail)
        | ((fail_if_success (first | refine is_ucall ?_ | refine is_umcall ?_)); first | refine W1 ?_ | refine Wc ?_ | refine W2c ?_ ?_ | refine Wg ?_ | refine W2 ?_ ?_ | exact Wdead | refine Wlive (fun hb => ?_) | intro _ _ _ _ _ _ _ _ | refine We ?_ | refine Wx ?_ | refine Wt ?_ | refine Wm ?_ | refine W2m ?_ ?_ | refine Wl ?_)
        | fail)
      refine mj_callP (h := equal_same _ _ _ m o1 o2 o3 _ _ _ ((hO.ext y19).y.ext ⟨_, rfl⟩) (house_madeO _ m (by omega) (by omega) (by omega))) (k := ?_)
      refine MonoJ.normA ?_
      repeat' (first
        | (refine is_ucall ?_; first
          | refine st_callP (h := ThinW_spec _ _ _ m s1 s2 s3 (hm.ext extA)) (k := ?_)
          | refine st_callP (h := awake_spec _ _ _) (k := ?_)
          | fail)
        | (refine is_umcall ?_; first
          | refine mj_callP (h := ThinW_spec _ _ _ m s1 s2 s3 (hm.ext extA)) (k := ?_)
          | refine mj_callP (h := awake_spec _ _ _) (k := ?_)
          | fail)
        | ((fail_if_success (first | refine is_ucall ?_ | refine is_umcall ?_)); first | refine W1 ?_ | refine Wc ?_ | refine W2c ?_ ?_ | refine Wg ?_ | refine W2 ?_ ?_ | exact Wdead | refine Wlive (fun hb => ?_) | intro _ _ _ _ _ _ _ _ | refine We ?_ | refine Wx ?_ | refine Wt ?_ | refine Wm ?_ | refine W2m ?_ ?_ | refine Wl ?_)
        | fail)
      refine mj_callP (h := ints_same1 _ _ _ lv2 lv l ((hM.ext y19).ext ⟨_, rfl⟩) ((hr.ext x19).ext ⟨_, rfl⟩) hn) (k := ?_)
      refine MonoJ.normA ?_
      repeat' (first
        | (refine is_ucall ?_; first
          | refine st_callP (h := ThinW_spec _ _ _ m s1 s2 s3 (hm.ext extA)) (k := ?_)
          | refine st_callP (h := awake_spec _ _ _) (k := ?_)
          | fail)
        | (refine is_umcall ?_; first
          | refine mj_callP (h := ThinW_spec _ _ _ m s1 s2 s3 (hm.ext extA)) (k := ?_)
          | refine mj_callP (h := awake_spec _ _ _) (k := ?_)
          | fail)
        | ((fail_if_success (first | refine is_ucall ?_ | refine is_umcall ?_)); first | refine W1 ?_ | refine Wc ?_ | refine W2c ?_ ?_ | refine Wg ?_ | refine W2 ?_ ?_ | exact Wdead | refine Wlive (fun hb => ?_) | intro _ _ _ _ _ _ _ _ | refine We ?_ | refine Wx ?_ | refine Wt ?_ | refine Wm ?_ | refine W2m ?_ ?_ | refine Wl ?_)
        | fail)
      exact ⟨(), hlt, (by repeat' (first | exact Weak.nil | refine Weak.wild ?_ | refine Weak.same ?_ | refine Weak.intEq (by first | omega | (simp; done) | (push_cast; omega)) ?_)), rfl, x19.app _, (Ext.app (Ext.refl _) _).get hb19, (Ext.app (Ext.refl _) _).get ho19, (hO.ext y19).ext ⟨_, rfl⟩, (hM.ext y19).ext ⟨_, rfl⟩⟩
    · obtain rfl : j = 2 := by omega
      repeat' (first
        | (refine is_ucall ?_; first
          | refine st_callP (h := ThinW_spec _ _ _ m s1 s2 s3 (hm.ext extA)) (k := ?_)
          | refine st_callP (h := awake_spec _ _ _) (k := ?_)
          | fail)
        | (refine is_umcall ?_; first
          | refine mj_callP (h := ThinW_spec _ _ _ m s1 s2 s3 (hm.ext extA)) (k := ?_)
          | refine mj_callP (h := awake_spec _ _ _) (k := ?_)
          | fail)
        | ((fail_if_success (first | refine is_ucall ?_ | refine is_umcall ?_)); first | refine W1 ?_ | refine Wc ?_ | refine W2c ?_ ?_ | refine Wg ?_ | refine W2 ?_ ?_ | exact Wdead | refine Wlive (fun hb => ?_) | intro _ _ _ _ _ _ _ _ | refine We ?_ | refine Wx ?_ | refine Wt ?_ | refine Wm ?_ | refine W2m ?_ ?_ | refine Wl ?_)
        | fail)
      exact ⟨rfl, rfl, rfl⟩
  · exact ⟨rfl, rfl, rfl⟩
end
end Go.Proofs.Ytehobnpoeodhkaa
