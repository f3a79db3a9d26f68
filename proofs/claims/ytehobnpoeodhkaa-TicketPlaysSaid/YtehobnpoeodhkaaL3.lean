import Derived.Test.YtehobnpoeodhkaaKp
import Derived.Test.YtehobnpoeodhkaaV9
namespace Go.Proofs.Ytehobnpoeodhkaa
open Go Go.Abs Go.Proofs
set_option maxHeartbeats 4000000
set_option maxRecDepth 20000
attribute [local irreducible] CallJ OpsJ WPJ CallV MonoJ SpecJ

section
variable {γ : Type} (E : Env γ) (g : γ) (H : AHeap)
theorem list_w (sv : Value) (l : List Int) (hr : RdS H sv 1 (encI l)) (hn : l.length ≤ 1000000) : CallJ Try.prog E 27 [sv] (fun v H' g' => (RdS H' v 1 (encI l) ∧ Ext H H') ∧ g' = g) H g :=
  (list_spec E g H sv l hr hn).mono (by rintro v H' g' ⟨rfl, rfl, rfl⟩; exact ⟨⟨sl_rd (enc := enc1) (w := 1) (fun _ => rfl) H l, ⟨_, rfl⟩⟩, rfl⟩)
theorem PlayT_spec (m : HouseM) (s1 s2 s3 lv : Value) (l : List Int) (h : playE m l = 0) (hm : HouseIs H m s1 s2 s3) (hr : RdS H lv 1 (encI l)) (hn : l.length ≤ 1000000) :
    CallJ Try.prog E 25 [hv m s1 s2 s3, lv] (fun v H' g' => (∃ i c own, v = .tuple #[.slice (some ⟨i, 0, none⟩) m.clips.length c, .int .i64 0] ∧ H'[i]? = some (.row (encE (playS m l)) 1 own) ∧ Ext H H') ∧ g' = g) H g :=
  (Play_spec E g H m s1 s2 s3 lv l hm hr hn).mono (by
    rintro v H' g' ⟨h1, rfl⟩
    rw [if_pos h] at h1
    obtain ⟨rfl, rfl⟩ := h1
    exact ⟨⟨_, _, _, rfl, List.getElem?_concat_length, ⟨_, rfl⟩⟩, rfl⟩)
theorem PlayN_spec (m : HouseM) (s1 s2 s3 lv : Value) (l : List Int) (e : Int) (he : playE m l = e) (h : e ≠ 0) (hm : HouseIs H m s1 s2 s3) (hr : RdS H lv 1 (encI l)) (hn : l.length ≤ 1000000) :
    CallJ Try.prog E 25 [hv m s1 s2 s3, lv] (fun v H' g' => v = .tuple #[.slice none 0 0, .int .i64 e] ∧ H' = H ∧ g' = g) H g :=
  (Play_spec E g H m s1 s2 s3 lv l hm hr hn).mono (by
    rintro v H' g' ⟨h1, rfl⟩
    rw [he, if_neg h] at h1
    exact ⟨h1.1, h1.2, rfl⟩)
theorem ProveE_spec (m : HouseM) (s1 s2 s3 lv : Value) (l : List Int) (b : Bool) (hb : proveS m l = b) (hm : HouseIs H m s1 s2 s3) (hr : RdS H lv 1 (encI l)) (hn : l.length ≤ 1000000) : CallJ Try.prog E 28 [hv m s1 s2 s3, lv] (fun v H' g' => v = .bool b ∧ H' = H ∧ g' = g) H g := by
  rw [← hb]; exact ProveTruth_spec E g H m s1 s2 s3 lv l hm hr hn
theorem faultE_spec (m : HouseM) (s1 s2 s3 : Value) (c : Int) (hc : checkS m = c) (hm : HouseIs H m s1 s2 s3) : CallJ Try.prog E 29 [hv m s1 s2 s3] (fun v H' g' => v = .int .i64 c ∧ H' = H ∧ g' = g) H g := by
  rw [← hc]; exact fault_spec E g H m s1 s2 s3 hm
theorem CheckE_spec (m : HouseM) (s1 s2 s3 : Value) (c : Int) (hc : checkS m = c) (hm : HouseIs H m s1 s2 s3) : CallJ Try.prog E 30 [hv m s1 s2 s3] (fun v H' g' => v = .int .i64 c ∧ H' = H ∧ g' = g) H g := by
  rw [← hc]; exact CheckHouse_spec E g H m s1 s2 s3 hm
theorem IsTruthE_spec (m : HouseM) (s1 s2 s3 lv : Value) (l : List Int) (b : Bool) (hb : (isE m l && riseS m l) = b) (hm : HouseIs H m s1 s2 s3) (hr : RdS H lv 1 (encI l)) (hn : l.length ≤ 1000000) (hG : Good m) : CallJ Try.prog E 31 [hv m s1 s2 s3, lv] (fun v H' g' => v = .bool b ∧ H' = H ∧ g' = g) H g := by
  rw [← hb]; exact IsTruth_spec E g H m s1 s2 s3 lv l hm hr hn hG
theorem AreE_spec (m : HouseM) (s1 s2 s3 lv : Value) (l : List Int) (b : Bool) (hb : isE m l = b) (hm : HouseIs H m s1 s2 s3) (hr : RdS H lv 1 (encI l)) (hn : l.length ≤ 1000000) : CallJ Try.prog E 32 [hv m s1 s2 s3, lv] (fun v H' g' => v = .bool b ∧ H' = H ∧ g' = g) H g := by
  rw [← hb]; exact AreErrors_spec E g H m s1 s2 s3 lv l hm hr hn
theorem plays_law (m : HouseM) (s1 s2 s3 lv : Value) (l : List Int) (hm : HouseW H m s1 s2 s3) (hr : RdS H lv 1 (encI l)) (hl : l.length ≤ 9223372036854775807) : CallJ Try.prog E 3 [hv m s1 s2 s3, lv] (fun v H' g' => v = .bool true ∧ H' = H ∧ g' = g) H g := by
  have hok : [Value.int .i64 m.hour, Value.int .i64 m.grace, s1, s2, s3].all cellOk = true := by have := hm.ok; simp [cellOk] at this ⊢; exact this
  refine CallJ.tidy ?_
  unfold hv
  refine CallJ.enter Try.func3 rfl (by simp only [Try.ntmps3, List.length_cons, List.length_nil, Nat.zero_add, Nat.reduceAdd, Nat.reduceSub, List.replicate_succ, List.replicate_zero, List.cons_append, List.nil_append]; rfl) ?_
  repeat' (first
    | (refine is_ucall ?_; first
      | refine st_callP (h := ThinW_spec _ _ _ m s1 s2 s3 (hm.ext extA)) (k := ?_)
      | refine st_callP (h := awake_spec _ _ _) (k := ?_)
      | fail)
    | (refine is_umcall ?_; first
      | refine mj_callP (h := ThinW_spec _ _ _ m s1 s2 s3 (hm.ext extA)) (k := ?_)
      | refine mj_callP (h := awake_spec _ _ _) (k := ?_)
      | fail)
    | refine W1 ?_ | refine Wc ?_ | refine W2c ?_ ?_ | refine Wg ?_ | refine W2 ?_ ?_ | exact Wdead | refine Wlive (fun hb => ?_) | intro _ _ _ _ _ _ _ _ | refine We ?_ | refine Wx ?_ | refine Wt ?_ | refine Wm ?_ | refine W2m ?_ ?_ | refine Wl ?_
    | fail)
  · exact ⟨rfl, rfl, rfl⟩
  · have ht : thinS m = true := by assumption
    have hn : l.length ≤ 1000000 := by omega
    have hI := hm.is ht
    have hrc := hI.clips
    have hnc := hI.n3
    refine st_call rfl (House_w E _ _ m s1 s2 s3 (hI.ext extA) ht) ?_
    rintro _ H1 g1 ⟨⟨t1, t2, t3, rfl, hm1, e1⟩, rfl⟩
    have x1 : Ext H H1 := Ext.trans extA e1
    have hb1 : H1[H.length]? = some (.row [.int .i64 m.hour, .int .i64 m.grace, s1, s2, s3] 1 true) := e1.get getA
    refine OpsJ.normA ?_
    repeat' (first
      | (refine is_ucall ?_; first
        | refine st_callP (h := ThinW_spec _ _ _ m s1 s2 s3 (hm.ext extA)) (k := ?_)
        | refine st_callP (h := awake_spec _ _ _) (k := ?_)
        | fail)
      | (refine is_umcall ?_; first
        | refine mj_callP (h := ThinW_spec _ _ _ m s1 s2 s3 (hm.ext extA)) (k := ?_)
        | refine mj_callP (h := awake_spec _ _ _) (k := ?_)
        | fail)
      | refine W1 ?_ | refine Wc ?_ | refine W2c ?_ ?_ | refine Wg ?_ | refine W2 ?_ ?_ | exact Wdead | refine Wlive (fun hb => ?_) | intro _ _ _ _ _ _ _ _ | refine We ?_ | refine Wx ?_ | refine Wt ?_ | refine Wm ?_ | refine W2m ?_ ?_ | refine Wl ?_
      | fail)
    refine st_call rfl (list_w E _ _ lv l (hr.ext extA) hn) ?_
    rintro lv2 H2 g2 ⟨⟨hr2, e2⟩, rfl⟩
    have x2 : Ext H H2 := Ext.trans x1 e2
    have hb2 : H2[H.length]? = some (.row [.int .i64 m.hour, .int .i64 m.grace, s1, s2, s3] 1 true) := e2.get hb1
    have hm2 := hm1.ext e2
    clear e2
    refine OpsJ.normA ?_
    repeat' (first
      | (refine is_ucall ?_; first
        | refine st_callP (h := ThinW_spec _ _ _ m s1 s2 s3 (hm.ext extA)) (k := ?_)
        | refine st_callP (h := awake_spec _ _ _) (k := ?_)
        | fail)
      | (refine is_umcall ?_; first
        | refine mj_callP (h := ThinW_spec _ _ _ m s1 s2 s3 (hm.ext extA)) (k := ?_)
        | refine mj_callP (h := awake_spec _ _ _) (k := ?_)
        | fail)
      | refine W1 ?_ | refine Wc ?_ | refine W2c ?_ ?_ | refine Wg ?_ | refine W2 ?_ ?_ | exact Wdead | refine Wlive (fun hb => ?_) | intro _ _ _ _ _ _ _ _ | refine We ?_ | refine Wx ?_ | refine Wt ?_ | refine Wm ?_ | refine W2m ?_ ?_ | refine Wl ?_
      | fail)
    by_cases hS : checkS m = 0
    · have hG := good_of hS
      cases hE : isE m l with
      | true =>
        have hz : playE m l = 0 := by unfold playE; rw [if_pos hS, hE]; rfl
        obtain ⟨b, hR⟩ : ∃ b, riseS m l = b := ⟨_, rfl⟩
        have hbb : (!(b == b)) = false := by cases b <;> rfl
        refine st_call rfl (PlayT_spec E _ _ m t1 t2 t3 lv2 l hz (hm2.ext extA) (hr2.ext extA) hn) ?_
        rintro _ H3 g3 ⟨⟨i5, c5, o5, rfl, q5, e3⟩, rfl⟩
        have x3 : Ext H H3 := Ext.trans x2 e3
        have hb3 : H3[H.length]? = some (.row [.int .i64 m.hour, .int .i64 m.grace, s1, s2, s3] 1 true) := e3.get hb2
        clear e3
        refine OpsJ.normA ?_
        repeat' (first
          | (refine is_ucall ?_; first
            | refine st_callP (h := ThinW_spec _ _ _ m s1 s2 s3 (hm.ext extA)) (k := ?_)
            | refine st_callP (h := awake_spec _ _ _) (k := ?_)
            | fail)
          | (refine is_umcall ?_; first
            | refine mj_callP (h := ThinW_spec _ _ _ m s1 s2 s3 (hm.ext extA)) (k := ?_)
            | refine mj_callP (h := awake_spec _ _ _) (k := ?_)
            | fail)
          | refine W1 ?_ | refine Wc ?_ | refine W2c ?_ ?_ | refine Wg ?_ | refine W2 ?_ ?_ | exact Wdead | refine Wlive (fun hb => ?_) | intro _ _ _ _ _ _ _ _ | refine We ?_ | refine Wx ?_ | refine Wt ?_ | refine Wm ?_ | refine W2m ?_ ?_ | refine Wl ?_
          | fail)
        refine st_call rfl (House_w E _ _ m s1 s2 s3 (hI.ext extA) ht) ?_
        rintro _ H4 g4 ⟨⟨t1, t2, t3, rfl, hm4, e4⟩, rfl⟩
        replace q5 := e4.get q5
        have x4 : Ext H H4 := Ext.trans extA e4
        have hb4 : H4[H.length]? = some (.row [.int .i64 m.hour, .int .i64 m.grace, s1, s2, s3] 1 true) := e4.get getA
        refine OpsJ.normA ?_
        repeat' (first
          | (refine is_ucall ?_; first
            | refine st_callP (h := ThinW_spec _ _ _ m s1 s2 s3 (hm.ext extA)) (k := ?_)
            | refine st_callP (h := awake_spec _ _ _) (k := ?_)
            | fail)
          | (refine is_umcall ?_; first
            | refine mj_callP (h := ThinW_spec _ _ _ m s1 s2 s3 (hm.ext extA)) (k := ?_)
            | refine mj_callP (h := awake_spec _ _ _) (k := ?_)
            | fail)
          | refine W1 ?_ | refine Wc ?_ | refine W2c ?_ ?_ | refine Wg ?_ | refine W2 ?_ ?_ | exact Wdead | refine Wlive (fun hb => ?_) | intro _ _ _ _ _ _ _ _ | refine We ?_ | refine Wx ?_ | refine Wt ?_ | refine Wm ?_ | refine W2m ?_ ?_ | refine Wl ?_
          | fail)
        refine st_call rfl (list_w E _ _ lv l (hr.ext extA) hn) ?_
        rintro lv5 H5 g5 ⟨⟨hr5, e5⟩, rfl⟩
        have x5 : Ext H H5 := Ext.trans x4 e5
        have hb5 : H5[H.length]? = some (.row [.int .i64 m.hour, .int .i64 m.grace, s1, s2, s3] 1 true) := e5.get hb4
        have hm5 := hm4.ext e5
        replace q5 := e5.get q5
        clear e5
        refine OpsJ.normA ?_
        repeat' (first
          | (refine is_ucall ?_; first
            | refine st_callP (h := ThinW_spec _ _ _ m s1 s2 s3 (hm.ext extA)) (k := ?_)
            | refine st_callP (h := awake_spec _ _ _) (k := ?_)
            | fail)
          | (refine is_umcall ?_; first
            | refine mj_callP (h := ThinW_spec _ _ _ m s1 s2 s3 (hm.ext extA)) (k := ?_)
            | refine mj_callP (h := awake_spec _ _ _) (k := ?_)
            | fail)
          | refine W1 ?_ | refine Wc ?_ | refine W2c ?_ ?_ | refine Wg ?_ | refine W2 ?_ ?_ | exact Wdead | refine Wlive (fun hb => ?_) | intro _ _ _ _ _ _ _ _ | refine We ?_ | refine Wx ?_ | refine Wt ?_ | refine Wm ?_ | refine W2m ?_ ?_ | refine Wl ?_
          | fail)
        refine st_callP (h := ProveE_spec E _ _ m t1 t2 t3 lv5 l b (by rw [prove_eq hS, hE, hR]; rfl) (hm5.ext extA) (hr5.ext extA) hn) (k := ?_)
        refine OpsJ.normA ?_
        repeat' (first
          | (refine is_ucall ?_; first
            | refine st_callP (h := ThinW_spec _ _ _ m s1 s2 s3 (hm.ext extA)) (k := ?_)
            | refine st_callP (h := awake_spec _ _ _) (k := ?_)
            | fail)
          | (refine is_umcall ?_; first
            | refine mj_callP (h := ThinW_spec _ _ _ m s1 s2 s3 (hm.ext extA)) (k := ?_)
            | refine mj_callP (h := awake_spec _ _ _) (k := ?_)
            | fail)
          | refine W1 ?_ | refine Wc ?_ | refine W2c ?_ ?_ | refine Wg ?_ | refine W2 ?_ ?_ | exact Wdead | refine Wlive (fun hb => ?_) | intro _ _ _ _ _ _ _ _ | refine We ?_ | refine Wx ?_ | refine Wt ?_ | refine Wm ?_ | refine W2m ?_ ?_ | refine Wl ?_
          | fail)
        refine st_callP (h := faultE_spec E _ _ m s1 s2 s3 0 hS (hI.ext extA)) (k := ?_)
        refine OpsJ.normA ?_
        repeat' (first
          | (refine is_ucall ?_; first
            | refine st_callP (h := ThinW_spec _ _ _ m s1 s2 s3 (hm.ext extA)) (k := ?_)
            | refine st_callP (h := awake_spec _ _ _) (k := ?_)
            | fail)
          | (refine is_umcall ?_; first
            | refine mj_callP (h := ThinW_spec _ _ _ m s1 s2 s3 (hm.ext extA)) (k := ?_)
            | refine mj_callP (h := awake_spec _ _ _) (k := ?_)
            | fail)
          | refine W1 ?_ | refine Wc ?_ | refine W2c ?_ ?_ | refine Wg ?_ | refine W2 ?_ ?_ | exact Wdead | refine Wlive (fun hb => ?_) | intro _ _ _ _ _ _ _ _ | refine We ?_ | refine Wx ?_ | refine Wt ?_ | refine Wm ?_ | refine W2m ?_ ?_ | refine Wl ?_
          | fail)
        refine st_call rfl (House_w E _ _ m s1 s2 s3 (hI.ext extA) ht) ?_
        rintro _ H6 g6 ⟨⟨t1, t2, t3, rfl, hm6, e6⟩, rfl⟩
        replace q5 := e6.get q5
        have x6 : Ext H H6 := Ext.trans extA e6
        have hb6 : H6[H.length]? = some (.row [.int .i64 m.hour, .int .i64 m.grace, s1, s2, s3] 1 true) := e6.get getA
        refine OpsJ.normA ?_
        repeat' (first
          | (refine is_ucall ?_; first
            | refine st_callP (h := ThinW_spec _ _ _ m s1 s2 s3 (hm.ext extA)) (k := ?_)
            | refine st_callP (h := awake_spec _ _ _) (k := ?_)
            | fail)
          | (refine is_umcall ?_; first
            | refine mj_callP (h := ThinW_spec _ _ _ m s1 s2 s3 (hm.ext extA)) (k := ?_)
            | refine mj_callP (h := awake_spec _ _ _) (k := ?_)
            | fail)
          | refine W1 ?_ | refine Wc ?_ | refine W2c ?_ ?_ | refine Wg ?_ | refine W2 ?_ ?_ | exact Wdead | refine Wlive (fun hb => ?_) | intro _ _ _ _ _ _ _ _ | refine We ?_ | refine Wx ?_ | refine Wt ?_ | refine Wm ?_ | refine W2m ?_ ?_ | refine Wl ?_
          | fail)
        refine st_callP (h := CheckE_spec E _ _ m t1 t2 t3 0 hS (hm6.ext extA)) (k := ?_)
        refine OpsJ.normA ?_
        repeat' (first
          | (refine is_ucall ?_; first
            | refine st_callP (h := ThinW_spec _ _ _ m s1 s2 s3 (hm.ext extA)) (k := ?_)
            | refine st_callP (h := awake_spec _ _ _) (k := ?_)
            | fail)
          | (refine is_umcall ?_; first
            | refine mj_callP (h := ThinW_spec _ _ _ m s1 s2 s3 (hm.ext extA)) (k := ?_)
            | refine mj_callP (h := awake_spec _ _ _) (k := ?_)
            | fail)
          | refine W1 ?_ | refine Wc ?_ | refine W2c ?_ ?_ | refine Wg ?_ | refine W2 ?_ ?_ | exact Wdead | refine Wlive (fun hb => ?_) | intro _ _ _ _ _ _ _ _ | refine We ?_ | refine Wx ?_ | refine Wt ?_ | refine Wm ?_ | refine W2m ?_ ?_ | refine Wl ?_
          | fail)
        refine st_callP (h := IsTruthE_spec E _ _ m s1 s2 s3 lv l b (by rw [hE, hR]; rfl) (hI.ext extA) (hr.ext extA) hn hG) (k := ?_)
        refine OpsJ.normA ?_
        repeat' (first
          | (refine is_ucall ?_; first
            | refine st_callP (h := ThinW_spec _ _ _ m s1 s2 s3 (hm.ext extA)) (k := ?_)
            | refine st_callP (h := awake_spec _ _ _) (k := ?_)
            | fail)
          | (refine is_umcall ?_; first
            | refine mj_callP (h := ThinW_spec _ _ _ m s1 s2 s3 (hm.ext extA)) (k := ?_)
            | refine mj_callP (h := awake_spec _ _ _) (k := ?_)
            | fail)
          | refine W1 ?_ | refine Wc ?_ | refine W2c ?_ ?_ | refine Wg ?_ | refine W2 ?_ ?_ | exact Wdead | refine Wlive (fun hb => ?_) | intro _ _ _ _ _ _ _ _ | refine We ?_ | refine Wx ?_ | refine Wt ?_ | refine Wm ?_ | refine W2m ?_ ?_ | refine Wl ?_
          | fail)
        refine st_callP (h := AreE_spec E _ _ m s1 s2 s3 lv l true hE (hI.ext extA) (hr.ext extA) hn) (k := ?_)
        refine OpsJ.normA ?_
        repeat' (first
          | (refine is_ucall ?_; first
            | refine st_callP (h := ThinW_spec _ _ _ m s1 s2 s3 (hm.ext extA)) (k := ?_)
            | refine st_callP (h := awake_spec _ _ _) (k := ?_)
            | fail)
          | (refine is_umcall ?_; first
            | refine mj_callP (h := ThinW_spec _ _ _ m s1 s2 s3 (hm.ext extA)) (k := ?_)
            | refine mj_callP (h := awake_spec _ _ _) (k := ?_)
            | fail)
          | refine W1 ?_ | refine Wc ?_ | refine W2c ?_ ?_ | refine Wg ?_ | refine W2 ?_ ?_ | exact Wdead | refine Wlive (fun hb => ?_) | intro _ _ _ _ _ _ _ _ | refine We ?_ | refine Wx ?_ | refine Wt ?_ | refine Wm ?_ | refine W2m ?_ ?_ | refine Wl ?_
          | fail)
        any_goals (refine absurd trivial ?_; assumption)
        have hpl : (playS m l).length = m.clips.length := by simp [playS]
        have r5 : RdS H6 (.slice (some ⟨i5, 0, none⟩) m.clips.length c5) 1 (encI (playS m l)) := by rw [← hpl]; exact rd_encE q5 (List.take_of_length_le (by simp [encE]))
        refine WPJ.loopT m.clips.length [81, 82, 83, 84, 85, 86, 87, 88, 89, 90, 91, 92, 93, 94, 95] (fun j (_ : Unit) => [(9, .int .i64 j)])
          (fun j _ H7 g7 => g7 = g6 ∧ H7 = H6) 0 () (Nat.zero_le _) (by intro p hp; simp at hp; rcases hp with rfl; rfl) ⟨rfl, rfl⟩ ?_
        rintro j _ H7 g7 hj ⟨rfl, rfl⟩ hl0
        simp only [updT, maskT, List.set_cons_zero, List.set_cons_succ]
        rcases Nat.lt_or_ge j m.clips.length with hlt | hge
        · have hmem := List.getElem_mem hlt
          have hbd := (isE_bd hG hE).1 _ hmem
          have hcj : m.clips[j]? = some m.clips[j] := by simp [hlt]
          have hxl : l[m.clips[j].clock.toNat]? = some (l[m.clips[j].clock.toNat]'hbd.2.1) := by simp [hbd.2.1]
          have hxb := (isE_bd hG hE).2 _ (List.getElem_mem hbd.2.1)
          have hel : (encI (playS m l))[(j : Int).toNat]? = some [.int .i64 (m.clips[j].minute - l[m.clips[j].clock.toNat]'hbd.2.1)] := by
            have e1 : trueM (errsOf m l) m.clips[j] = m.clips[j].minute - l[m.clips[j].clock.toNat]'hbd.2.1 := by
              rw [trueM_errs hG hE hmem]; unfold trueM; simp [List.getD, hbd.2.1]
            simp [playS, hlt, e1]
          have hbb2 := And.intro hbd.2.2.1 (And.intro hbd.2.2.2 hxb)
          have h0c := hbd.1
          generalize l[m.clips[j].clock.toNat]'hbd.2.1 = x at *
          generalize m.clips[j] = cj at *
          repeat' (first
            | (refine is_ucall ?_; first
              | refine st_callP (h := ThinW_spec _ _ _ m s1 s2 s3 (hm.ext extA)) (k := ?_)
              | refine st_callP (h := awake_spec _ _ _) (k := ?_)
              | fail)
            | (refine is_umcall ?_; first
              | refine mj_callP (h := ThinW_spec _ _ _ m s1 s2 s3 (hm.ext extA)) (k := ?_)
              | refine mj_callP (h := awake_spec _ _ _) (k := ?_)
              | fail)
            | refine W1 ?_ | refine Wc ?_ | refine W2c ?_ ?_ | refine Wg ?_ | refine W2 ?_ ?_ | exact Wdead | refine Wlive (fun hb => ?_) | intro _ _ _ _ _ _ _ _ | refine We ?_ | refine Wx ?_ | refine Wt ?_ | refine Wm ?_ | refine W2m ?_ ?_ | refine Wl ?_
            | fail)
          refine WPJ.draw 8 mixed (by kernel_rfl) (by kernel_rfl) (by kernel_rfl) (by decide) ?_
          refine MonoJ.normA ?_
          repeat' (first
            | (refine is_ucall ?_; first
              | refine st_callP (h := ThinW_spec _ _ _ m s1 s2 s3 (hm.ext extA)) (k := ?_)
              | refine st_callP (h := awake_spec _ _ _) (k := ?_)
              | fail)
            | (refine is_umcall ?_; first
              | refine mj_callP (h := ThinW_spec _ _ _ m s1 s2 s3 (hm.ext extA)) (k := ?_)
              | refine mj_callP (h := awake_spec _ _ _) (k := ?_)
              | fail)
            | refine W1 ?_ | refine Wc ?_ | refine W2c ?_ ?_ | refine Wg ?_ | refine W2 ?_ ?_ | exact Wdead | refine Wlive (fun hb => ?_) | intro _ _ _ _ _ _ _ _ | refine We ?_ | refine Wx ?_ | refine Wt ?_ | refine Wm ?_ | refine W2m ?_ ?_ | refine Wl ?_
            | fail)
          refine mj_callP (h := True_spec _ _ _ m s1 s2 s3 lv l j cj x (hI.ext extA) (hr.ext extA) hcj h0c hxl hbb2) (k := ?_)
          refine MonoJ.normA ?_
          repeat' (first
            | (refine is_ucall ?_; first
              | refine st_callP (h := ThinW_spec _ _ _ m s1 s2 s3 (hm.ext extA)) (k := ?_)
              | refine st_callP (h := awake_spec _ _ _) (k := ?_)
              | fail)
            | (refine is_umcall ?_; first
              | refine mj_callP (h := ThinW_spec _ _ _ m s1 s2 s3 (hm.ext extA)) (k := ?_)
              | refine mj_callP (h := awake_spec _ _ _) (k := ?_)
              | fail)
            | refine W1 ?_ | refine Wc ?_ | refine W2c ?_ ?_ | refine Wg ?_ | refine W2 ?_ ?_ | exact Wdead | refine Wlive (fun hb => ?_) | intro _ _ _ _ _ _ _ _ | refine We ?_ | refine Wx ?_ | refine Wt ?_ | refine Wm ?_ | refine W2m ?_ ?_ | refine Wl ?_
            | fail)
          all_goals first | exact ⟨(), hlt, (by repeat' (first | exact Weak.nil | refine Weak.wild ?_ | refine Weak.same ?_ | refine Weak.intEq (by first | omega | (simp; done) | (push_cast; omega)) ?_)), rfl, rfl⟩ | exact absurd trivial (by assumption)
        · skip
          repeat' (first
            | (refine is_ucall ?_; first
              | refine st_callP (h := ThinW_spec _ _ _ m s1 s2 s3 (hm.ext extA)) (k := ?_)
              | refine st_callP (h := awake_spec _ _ _) (k := ?_)
              | fail)
            | (refine is_umcall ?_; first
              | refine mj_callP (h := ThinW_spec _ _ _ m s1 s2 s3 (hm.ext extA)) (k := ?_)
              | refine mj_callP (h := awake_spec _ _ _) (k := ?_)
              | fail)
            | refine W1 ?_ | refine Wc ?_ | refine W2c ?_ ?_ | refine Wg ?_ | refine W2 ?_ ?_ | exact Wdead | refine Wlive (fun hb => ?_) | intro _ _ _ _ _ _ _ _ | refine We ?_ | refine Wx ?_ | refine Wt ?_ | refine Wm ?_ | refine W2m ?_ ?_ | refine Wl ?_
            | fail)
          all_goals first | exact ⟨rfl, rfl, rfl⟩ | exact absurd trivial (by assumption)
      | false =>
        have hz : playE m l = 2 := by unfold playE; rw [if_pos hS, hE]; rfl
        refine st_callP (h := PlayN_spec E _ _ m t1 t2 t3 lv2 l 2 hz (by decide) (hm2.ext extA) (hr2.ext extA) hn) (k := ?_)
        refine OpsJ.normA ?_
        repeat' (first
          | (refine is_ucall ?_; first
            | refine st_callP (h := ThinW_spec _ _ _ m s1 s2 s3 (hm.ext extA)) (k := ?_)
            | refine st_callP (h := awake_spec _ _ _) (k := ?_)
            | fail)
          | (refine is_umcall ?_; first
            | refine mj_callP (h := ThinW_spec _ _ _ m s1 s2 s3 (hm.ext extA)) (k := ?_)
            | refine mj_callP (h := awake_spec _ _ _) (k := ?_)
            | fail)
          | refine W1 ?_ | refine Wc ?_ | refine W2c ?_ ?_ | refine Wg ?_ | refine W2 ?_ ?_ | exact Wdead | refine Wlive (fun hb => ?_) | intro _ _ _ _ _ _ _ _ | refine We ?_ | refine Wx ?_ | refine Wt ?_ | refine Wm ?_ | refine W2m ?_ ?_ | refine Wl ?_
          | fail)
        refine st_call rfl (House_w E _ _ m s1 s2 s3 (hI.ext extA) ht) ?_
        rintro _ H4 g4 ⟨⟨t1, t2, t3, rfl, hm4, e4⟩, rfl⟩
        have x4 : Ext H H4 := Ext.trans extA e4
        have hb4 : H4[H.length]? = some (.row [.int .i64 m.hour, .int .i64 m.grace, s1, s2, s3] 1 true) := e4.get getA
        refine OpsJ.normA ?_
        repeat' (first
          | (refine is_ucall ?_; first
            | refine st_callP (h := ThinW_spec _ _ _ m s1 s2 s3 (hm.ext extA)) (k := ?_)
            | refine st_callP (h := awake_spec _ _ _) (k := ?_)
            | fail)
          | (refine is_umcall ?_; first
            | refine mj_callP (h := ThinW_spec _ _ _ m s1 s2 s3 (hm.ext extA)) (k := ?_)
            | refine mj_callP (h := awake_spec _ _ _) (k := ?_)
            | fail)
          | refine W1 ?_ | refine Wc ?_ | refine W2c ?_ ?_ | refine Wg ?_ | refine W2 ?_ ?_ | exact Wdead | refine Wlive (fun hb => ?_) | intro _ _ _ _ _ _ _ _ | refine We ?_ | refine Wx ?_ | refine Wt ?_ | refine Wm ?_ | refine W2m ?_ ?_ | refine Wl ?_
          | fail)
        refine st_call rfl (list_w E _ _ lv l (hr.ext extA) hn) ?_
        rintro lv5 H5 g5 ⟨⟨hr5, e5⟩, rfl⟩
        have x5 : Ext H H5 := Ext.trans x4 e5
        have hb5 : H5[H.length]? = some (.row [.int .i64 m.hour, .int .i64 m.grace, s1, s2, s3] 1 true) := e5.get hb4
        have hm5 := hm4.ext e5
        clear e5
        refine OpsJ.normA ?_
        repeat' (first
          | (refine is_ucall ?_; first
            | refine st_callP (h := ThinW_spec _ _ _ m s1 s2 s3 (hm.ext extA)) (k := ?_)
            | refine st_callP (h := awake_spec _ _ _) (k := ?_)
            | fail)
          | (refine is_umcall ?_; first
            | refine mj_callP (h := ThinW_spec _ _ _ m s1 s2 s3 (hm.ext extA)) (k := ?_)
            | refine mj_callP (h := awake_spec _ _ _) (k := ?_)
            | fail)
          | refine W1 ?_ | refine Wc ?_ | refine W2c ?_ ?_ | refine Wg ?_ | refine W2 ?_ ?_ | exact Wdead | refine Wlive (fun hb => ?_) | intro _ _ _ _ _ _ _ _ | refine We ?_ | refine Wx ?_ | refine Wt ?_ | refine Wm ?_ | refine W2m ?_ ?_ | refine Wl ?_
          | fail)
        refine st_callP (h := ProveE_spec E _ _ m t1 t2 t3 lv5 l false (by rw [prove_eq hS, hE]; rfl) (hm5.ext extA) (hr5.ext extA) hn) (k := ?_)
        refine OpsJ.normA ?_
        repeat' (first
          | (refine is_ucall ?_; first
            | refine st_callP (h := ThinW_spec _ _ _ m s1 s2 s3 (hm.ext extA)) (k := ?_)
            | refine st_callP (h := awake_spec _ _ _) (k := ?_)
            | fail)
          | (refine is_umcall ?_; first
            | refine mj_callP (h := ThinW_spec _ _ _ m s1 s2 s3 (hm.ext extA)) (k := ?_)
            | refine mj_callP (h := awake_spec _ _ _) (k := ?_)
            | fail)
          | refine W1 ?_ | refine Wc ?_ | refine W2c ?_ ?_ | refine Wg ?_ | refine W2 ?_ ?_ | exact Wdead | refine Wlive (fun hb => ?_) | intro _ _ _ _ _ _ _ _ | refine We ?_ | refine Wx ?_ | refine Wt ?_ | refine Wm ?_ | refine W2m ?_ ?_ | refine Wl ?_
          | fail)
        refine st_callP (h := faultE_spec E _ _ m s1 s2 s3 0 hS (hI.ext extA)) (k := ?_)
        refine OpsJ.normA ?_
        repeat' (first
          | (refine is_ucall ?_; first
            | refine st_callP (h := ThinW_spec _ _ _ m s1 s2 s3 (hm.ext extA)) (k := ?_)
            | refine st_callP (h := awake_spec _ _ _) (k := ?_)
            | fail)
          | (refine is_umcall ?_; first
            | refine mj_callP (h := ThinW_spec _ _ _ m s1 s2 s3 (hm.ext extA)) (k := ?_)
            | refine mj_callP (h := awake_spec _ _ _) (k := ?_)
            | fail)
          | refine W1 ?_ | refine Wc ?_ | refine W2c ?_ ?_ | refine Wg ?_ | refine W2 ?_ ?_ | exact Wdead | refine Wlive (fun hb => ?_) | intro _ _ _ _ _ _ _ _ | refine We ?_ | refine Wx ?_ | refine Wt ?_ | refine Wm ?_ | refine W2m ?_ ?_ | refine Wl ?_
          | fail)
        refine st_call rfl (House_w E _ _ m s1 s2 s3 (hI.ext extA) ht) ?_
        rintro _ H6 g6 ⟨⟨t1, t2, t3, rfl, hm6, e6⟩, rfl⟩
        have x6 : Ext H H6 := Ext.trans extA e6
        have hb6 : H6[H.length]? = some (.row [.int .i64 m.hour, .int .i64 m.grace, s1, s2, s3] 1 true) := e6.get getA
        refine OpsJ.normA ?_
        repeat' (first
          | (refine is_ucall ?_; first
            | refine st_callP (h := ThinW_spec _ _ _ m s1 s2 s3 (hm.ext extA)) (k := ?_)
            | refine st_callP (h := awake_spec _ _ _) (k := ?_)
            | fail)
          | (refine is_umcall ?_; first
            | refine mj_callP (h := ThinW_spec _ _ _ m s1 s2 s3 (hm.ext extA)) (k := ?_)
            | refine mj_callP (h := awake_spec _ _ _) (k := ?_)
            | fail)
          | refine W1 ?_ | refine Wc ?_ | refine W2c ?_ ?_ | refine Wg ?_ | refine W2 ?_ ?_ | exact Wdead | refine Wlive (fun hb => ?_) | intro _ _ _ _ _ _ _ _ | refine We ?_ | refine Wx ?_ | refine Wt ?_ | refine Wm ?_ | refine W2m ?_ ?_ | refine Wl ?_
          | fail)
        refine st_callP (h := CheckE_spec E _ _ m t1 t2 t3 0 hS (hm6.ext extA)) (k := ?_)
        refine OpsJ.normA ?_
        repeat' (first
          | (refine is_ucall ?_; first
            | refine st_callP (h := ThinW_spec _ _ _ m s1 s2 s3 (hm.ext extA)) (k := ?_)
            | refine st_callP (h := awake_spec _ _ _) (k := ?_)
            | fail)
          | (refine is_umcall ?_; first
            | refine mj_callP (h := ThinW_spec _ _ _ m s1 s2 s3 (hm.ext extA)) (k := ?_)
            | refine mj_callP (h := awake_spec _ _ _) (k := ?_)
            | fail)
          | refine W1 ?_ | refine Wc ?_ | refine W2c ?_ ?_ | refine Wg ?_ | refine W2 ?_ ?_ | exact Wdead | refine Wlive (fun hb => ?_) | intro _ _ _ _ _ _ _ _ | refine We ?_ | refine Wx ?_ | refine Wt ?_ | refine Wm ?_ | refine W2m ?_ ?_ | refine Wl ?_
          | fail)
        refine st_callP (h := IsTruthE_spec E _ _ m s1 s2 s3 lv l false (by rw [hE]; rfl) (hI.ext extA) (hr.ext extA) hn hG) (k := ?_)
        refine OpsJ.normA ?_
        repeat' (first
          | (refine is_ucall ?_; first
            | refine st_callP (h := ThinW_spec _ _ _ m s1 s2 s3 (hm.ext extA)) (k := ?_)
            | refine st_callP (h := awake_spec _ _ _) (k := ?_)
            | fail)
          | (refine is_umcall ?_; first
            | refine mj_callP (h := ThinW_spec _ _ _ m s1 s2 s3 (hm.ext extA)) (k := ?_)
            | refine mj_callP (h := awake_spec _ _ _) (k := ?_)
            | fail)
          | refine W1 ?_ | refine Wc ?_ | refine W2c ?_ ?_ | refine Wg ?_ | refine W2 ?_ ?_ | exact Wdead | refine Wlive (fun hb => ?_) | intro _ _ _ _ _ _ _ _ | refine We ?_ | refine Wx ?_ | refine Wt ?_ | refine Wm ?_ | refine W2m ?_ ?_ | refine Wl ?_
          | fail)
        refine st_callP (h := AreE_spec E _ _ m s1 s2 s3 lv l false hE (hI.ext extA) (hr.ext extA) hn) (k := ?_)
        refine OpsJ.normA ?_
        repeat' (first
          | (refine is_ucall ?_; first
            | refine st_callP (h := ThinW_spec _ _ _ m s1 s2 s3 (hm.ext extA)) (k := ?_)
            | refine st_callP (h := awake_spec _ _ _) (k := ?_)
            | fail)
          | (refine is_umcall ?_; first
            | refine mj_callP (h := ThinW_spec _ _ _ m s1 s2 s3 (hm.ext extA)) (k := ?_)
            | refine mj_callP (h := awake_spec _ _ _) (k := ?_)
            | fail)
          | refine W1 ?_ | refine Wc ?_ | refine W2c ?_ ?_ | refine Wg ?_ | refine W2 ?_ ?_ | exact Wdead | refine Wlive (fun hb => ?_) | intro _ _ _ _ _ _ _ _ | refine We ?_ | refine Wx ?_ | refine Wt ?_ | refine Wm ?_ | refine W2m ?_ ?_ | refine Wl ?_
          | fail)
        all_goals first | exact ⟨rfl, rfl, rfl⟩ | exact absurd trivial (by assumption)
    · obtain ⟨c, hc⟩ : ∃ c, checkS m = c := ⟨_, rfl⟩
      have hc0 : c ≠ 0 := by rw [← hc]; exact hS
      have hz : playE m l = c := by unfold playE; rw [if_neg hS, hc]
      have hpf : proveS m l = false := by unfold proveS; rw [decide_eq_false hS]; rfl
      refine st_callP (h := PlayN_spec E _ _ m t1 t2 t3 lv2 l c hz hc0 (hm2.ext extA) (hr2.ext extA) hn) (k := ?_)
      refine OpsJ.normA ?_
      repeat' (first
        | (refine is_ucall ?_; first
          | refine st_callP (h := ThinW_spec _ _ _ m s1 s2 s3 (hm.ext extA)) (k := ?_)
          | refine st_callP (h := awake_spec _ _ _) (k := ?_)
          | fail)
        | (refine is_umcall ?_; first
          | refine mj_callP (h := ThinW_spec _ _ _ m s1 s2 s3 (hm.ext extA)) (k := ?_)
          | refine mj_callP (h := awake_spec _ _ _) (k := ?_)
          | fail)
        | refine W1 ?_ | refine Wc ?_ | refine W2c ?_ ?_ | refine Wg ?_ | refine W2 ?_ ?_ | exact Wdead | refine Wlive (fun hb => ?_) | intro _ _ _ _ _ _ _ _ | refine We ?_ | refine Wx ?_ | refine Wt ?_ | refine Wm ?_ | refine W2m ?_ ?_ | refine Wl ?_
        | fail)
      refine st_call rfl (House_w E _ _ m s1 s2 s3 (hI.ext extA) ht) ?_
      rintro _ H4 g4 ⟨⟨t1, t2, t3, rfl, hm4, e4⟩, rfl⟩
      have x4 : Ext H H4 := Ext.trans extA e4
      have hb4 : H4[H.length]? = some (.row [.int .i64 m.hour, .int .i64 m.grace, s1, s2, s3] 1 true) := e4.get getA
      refine OpsJ.normA ?_
      repeat' (first
        | (refine is_ucall ?_; first
          | refine st_callP (h := ThinW_spec _ _ _ m s1 s2 s3 (hm.ext extA)) (k := ?_)
          | refine st_callP (h := awake_spec _ _ _) (k := ?_)
          | fail)
        | (refine is_umcall ?_; first
          | refine mj_callP (h := ThinW_spec _ _ _ m s1 s2 s3 (hm.ext extA)) (k := ?_)
          | refine mj_callP (h := awake_spec _ _ _) (k := ?_)
          | fail)
        | refine W1 ?_ | refine Wc ?_ | refine W2c ?_ ?_ | refine Wg ?_ | refine W2 ?_ ?_ | exact Wdead | refine Wlive (fun hb => ?_) | intro _ _ _ _ _ _ _ _ | refine We ?_ | refine Wx ?_ | refine Wt ?_ | refine Wm ?_ | refine W2m ?_ ?_ | refine Wl ?_
        | fail)
      refine st_call rfl (list_w E _ _ lv l (hr.ext extA) hn) ?_
      rintro lv5 H5 g5 ⟨⟨hr5, e5⟩, rfl⟩
      have x5 : Ext H H5 := Ext.trans x4 e5
      have hb5 : H5[H.length]? = some (.row [.int .i64 m.hour, .int .i64 m.grace, s1, s2, s3] 1 true) := e5.get hb4
      have hm5 := hm4.ext e5
      clear e5
      refine OpsJ.normA ?_
      repeat' (first
        | (refine is_ucall ?_; first
          | refine st_callP (h := ThinW_spec _ _ _ m s1 s2 s3 (hm.ext extA)) (k := ?_)
          | refine st_callP (h := awake_spec _ _ _) (k := ?_)
          | fail)
        | (refine is_umcall ?_; first
          | refine mj_callP (h := ThinW_spec _ _ _ m s1 s2 s3 (hm.ext extA)) (k := ?_)
          | refine mj_callP (h := awake_spec _ _ _) (k := ?_)
          | fail)
        | refine W1 ?_ | refine Wc ?_ | refine W2c ?_ ?_ | refine Wg ?_ | refine W2 ?_ ?_ | exact Wdead | refine Wlive (fun hb => ?_) | intro _ _ _ _ _ _ _ _ | refine We ?_ | refine Wx ?_ | refine Wt ?_ | refine Wm ?_ | refine W2m ?_ ?_ | refine Wl ?_
        | fail)
      refine st_callP (h := ProveE_spec E _ _ m t1 t2 t3 lv5 l false hpf (hm5.ext extA) (hr5.ext extA) hn) (k := ?_)
      refine OpsJ.normA ?_
      repeat' (first
        | (refine is_ucall ?_; first
          | refine st_callP (h := ThinW_spec _ _ _ m s1 s2 s3 (hm.ext extA)) (k := ?_)
          | refine st_callP (h := awake_spec _ _ _) (k := ?_)
          | fail)
        | (refine is_umcall ?_; first
          | refine mj_callP (h := ThinW_spec _ _ _ m s1 s2 s3 (hm.ext extA)) (k := ?_)
          | refine mj_callP (h := awake_spec _ _ _) (k := ?_)
          | fail)
        | refine W1 ?_ | refine Wc ?_ | refine W2c ?_ ?_ | refine Wg ?_ | refine W2 ?_ ?_ | exact Wdead | refine Wlive (fun hb => ?_) | intro _ _ _ _ _ _ _ _ | refine We ?_ | refine Wx ?_ | refine Wt ?_ | refine Wm ?_ | refine W2m ?_ ?_ | refine Wl ?_
        | fail)
      refine st_callP (h := faultE_spec E _ _ m s1 s2 s3 c hc (hI.ext extA)) (k := ?_)
      refine OpsJ.normA ?_
      repeat' (first
        | (refine is_ucall ?_; first
          | refine st_callP (h := ThinW_spec _ _ _ m s1 s2 s3 (hm.ext extA)) (k := ?_)
          | refine st_callP (h := awake_spec _ _ _) (k := ?_)
          | fail)
        | (refine is_umcall ?_; first
          | refine mj_callP (h := ThinW_spec _ _ _ m s1 s2 s3 (hm.ext extA)) (k := ?_)
          | refine mj_callP (h := awake_spec _ _ _) (k := ?_)
          | fail)
        | refine W1 ?_ | refine Wc ?_ | refine W2c ?_ ?_ | refine Wg ?_ | refine W2 ?_ ?_ | exact Wdead | refine Wlive (fun hb => ?_) | intro _ _ _ _ _ _ _ _ | refine We ?_ | refine Wx ?_ | refine Wt ?_ | refine Wm ?_ | refine W2m ?_ ?_ | refine Wl ?_
        | fail)
      refine st_call rfl (House_w E _ _ m s1 s2 s3 (hI.ext extA) ht) ?_
      rintro _ H6 g6 ⟨⟨t1, t2, t3, rfl, hm6, e6⟩, rfl⟩
      have x6 : Ext H H6 := Ext.trans extA e6
      have hb6 : H6[H.length]? = some (.row [.int .i64 m.hour, .int .i64 m.grace, s1, s2, s3] 1 true) := e6.get getA
      refine OpsJ.normA ?_
      repeat' (first
        | (refine is_ucall ?_; first
          | refine st_callP (h := ThinW_spec _ _ _ m s1 s2 s3 (hm.ext extA)) (k := ?_)
          | refine st_callP (h := awake_spec _ _ _) (k := ?_)
          | fail)
        | (refine is_umcall ?_; first
          | refine mj_callP (h := ThinW_spec _ _ _ m s1 s2 s3 (hm.ext extA)) (k := ?_)
          | refine mj_callP (h := awake_spec _ _ _) (k := ?_)
          | fail)
        | refine W1 ?_ | refine Wc ?_ | refine W2c ?_ ?_ | refine Wg ?_ | refine W2 ?_ ?_ | exact Wdead | refine Wlive (fun hb => ?_) | intro _ _ _ _ _ _ _ _ | refine We ?_ | refine Wx ?_ | refine Wt ?_ | refine Wm ?_ | refine W2m ?_ ?_ | refine Wl ?_
        | fail)
      refine st_callP (h := CheckE_spec E _ _ m t1 t2 t3 c hc (hm6.ext extA)) (k := ?_)
      refine OpsJ.normA ?_
      repeat' (first
        | (refine is_ucall ?_; first
          | refine st_callP (h := ThinW_spec _ _ _ m s1 s2 s3 (hm.ext extA)) (k := ?_)
          | refine st_callP (h := awake_spec _ _ _) (k := ?_)
          | fail)
        | (refine is_umcall ?_; first
          | refine mj_callP (h := ThinW_spec _ _ _ m s1 s2 s3 (hm.ext extA)) (k := ?_)
          | refine mj_callP (h := awake_spec _ _ _) (k := ?_)
          | fail)
        | refine W1 ?_ | refine Wc ?_ | refine W2c ?_ ?_ | refine Wg ?_ | refine W2 ?_ ?_ | exact Wdead | refine Wlive (fun hb => ?_) | intro _ _ _ _ _ _ _ _ | refine We ?_ | refine Wx ?_ | refine Wt ?_ | refine Wm ?_ | refine W2m ?_ ?_ | refine Wl ?_
        | fail)
      all_goals first | exact ⟨rfl, rfl, rfl⟩ | exact absurd trivial (by assumption)
  · exact ⟨rfl, rfl, rfl⟩
end
end Go.Proofs.Ytehobnpoeodhkaa
