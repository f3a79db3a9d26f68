import Derived.Test.YtehobnpoeodhkaaR8
import Derived.Test.YtehobnpoeodhkaaV9
namespace Go.Proofs.Ytehobnpoeodhkaa
open Go Go.Abs Go.Proofs
set_option maxHeartbeats 4000000
set_option maxRecDepth 20000
attribute [local irreducible] CallJ OpsJ WPJ CallV MonoJ SpecJ

section
variable {γ : Type} (E : Env γ) (g : γ) (H : AHeap)
theorem long_law (m : HouseM) (s1 s2 s3 : Value) (hm : HouseW H m s1 s2 s3) : CallJ Try.prog E 5 [hv m s1 s2 s3] (fun v H' g' => v = .bool true ∧ H' = H ∧ g' = g) H g := by
  have hok : [Value.int .i64 m.hour, Value.int .i64 m.grace, s1, s2, s3].all cellOk = true := by have := hm.ok; simp [cellOk] at this ⊢; exact this
  refine CallJ.tidy ?_
  unfold hv
  refine CallJ.enter Try.func5 rfl (by simp only [Try.ntmps5, List.length_cons, List.length_nil, Nat.zero_add, Nat.reduceSub, List.replicate_succ, List.replicate_zero, List.cons_append, List.nil_append]; rfl) ?_
  repeat' (first
    | (refine is_ucall ?_; first
      | refine st_callP (h := ThinW_spec _ _ _ m s1 s2 s3 (hm.ext extA)) (k := ?_)
      | refine st_callP (h := awake_spec _ _ _) (k := ?_)
      | refine st_callP (h := PaidRP _ _ _ m s1 s2 s3 lv _ hT hp (hI.ext extA) (hL.ext extA)) (k := ?_)
      | refine st_callP (h := LongR_spec _ _ _ m s1 s2 s3 lv _ _ (hI.ext extA) (hL.ext extA) hG hLn hLE hlt) (k := ?_)
      | fail)
    | (refine is_umcall ?_; first
      | refine mj_callP (h := ThinW_spec _ _ _ m s1 s2 s3 (hm.ext extA)) (k := ?_)
      | refine mj_callP (h := awake_spec _ _ _) (k := ?_)
      | refine mj_callP (h := PaidRP _ _ _ m s1 s2 s3 lv _ hT hp (hI.ext extA) (hL.ext extA)) (k := ?_)
      | refine mj_callP (h := LongR_spec _ _ _ m s1 s2 s3 lv _ _ (hI.ext extA) (hL.ext extA) hG hLn hLE hlt) (k := ?_)
      | fail)
    | refine W1 ?_ | refine Wc ?_ | refine W2c ?_ ?_ | refine Wg ?_ | refine W2 ?_ ?_ | exact Wdead | refine Wlive (fun hb => ?_) | intro _ _ _ _ _ _ _ _ | refine We ?_ | refine Wx ?_ | refine Wt ?_ | refine Wm ?_ | refine W2m ?_ ?_ | refine Wl ?_
    | fail)
  · exact ⟨rfl, rfl, rfl⟩
  · have ht : thinS m = true := by assumption
    have hI := hm.is ht
    refine st_call rfl (House_w E _ _ m s1 s2 s3 (hI.ext extA) ht) ?_
    rintro _ H1 g1 ⟨⟨t1, t2, t3, rfl, hm1, e1⟩, rfl⟩
    have x1 : Ext H H1 := Ext.trans extA e1
    have hb1 : H1[H.length]? = some (.row [.int .i64 m.hour, .int .i64 m.grace, s1, s2, s3] 1 true) := e1.get getA
    by_cases hT : checkT m = 0
    · obtain ⟨hS, hT2⟩ := sure_zero hT
      have hG := good_of hS
      obtain ⟨p, hp⟩ : ∃ p, paidV m = p := ⟨_, rfl⟩
      refine OpsJ.normA ?_
      repeat' (first
        | (refine is_ucall ?_; first
          | refine st_callP (h := ThinW_spec _ _ _ m s1 s2 s3 (hm.ext extA)) (k := ?_)
          | refine st_callP (h := awake_spec _ _ _) (k := ?_)
          | refine st_callP (h := PaidRP _ _ _ m s1 s2 s3 lv _ hT hp (hI.ext extA) (hL.ext extA)) (k := ?_)
          | refine st_callP (h := LongR_spec _ _ _ m s1 s2 s3 lv _ _ (hI.ext extA) (hL.ext extA) hG hLn hLE hlt) (k := ?_)
          | fail)
        | (refine is_umcall ?_; first
          | refine mj_callP (h := ThinW_spec _ _ _ m s1 s2 s3 (hm.ext extA)) (k := ?_)
          | refine mj_callP (h := awake_spec _ _ _) (k := ?_)
          | refine mj_callP (h := PaidRP _ _ _ m s1 s2 s3 lv _ hT hp (hI.ext extA) (hL.ext extA)) (k := ?_)
          | refine mj_callP (h := LongR_spec _ _ _ m s1 s2 s3 lv _ _ (hI.ext extA) (hL.ext extA) hG hLn hLE hlt) (k := ?_)
          | fail)
        | refine W1 ?_ | refine Wc ?_ | refine W2c ?_ ?_ | refine Wg ?_ | refine W2 ?_ ?_ | exact Wdead | refine Wlive (fun hb => ?_) | intro _ _ _ _ _ _ _ _ | refine We ?_ | refine Wx ?_ | refine Wt ?_ | refine Wm ?_ | refine W2m ?_ ?_ | refine Wl ?_
        | fail)
      refine st_call rfl (LongR E _ _ m t1 t2 t3 hT (hm1.ext extA)) ?_
      rintro _ H2 g2 ⟨⟨cv, rfl, hc2, e2⟩, rfl⟩
      have x2 : Ext H H2 := x1.trans e2
      have hb2 := e2.get hb1
      refine OpsJ.normA ?_
      repeat' (first
        | (refine is_ucall ?_; first
          | refine st_callP (h := ThinW_spec _ _ _ m s1 s2 s3 (hm.ext extA)) (k := ?_)
          | refine st_callP (h := awake_spec _ _ _) (k := ?_)
          | refine st_callP (h := PaidRP _ _ _ m s1 s2 s3 lv _ hT hp (hI.ext extA) (hL.ext extA)) (k := ?_)
          | refine st_callP (h := LongR_spec _ _ _ m s1 s2 s3 lv _ _ (hI.ext extA) (hL.ext extA) hG hLn hLE hlt) (k := ?_)
          | fail)
        | (refine is_umcall ?_; first
          | refine mj_callP (h := ThinW_spec _ _ _ m s1 s2 s3 (hm.ext extA)) (k := ?_)
          | refine mj_callP (h := awake_spec _ _ _) (k := ?_)
          | refine mj_callP (h := PaidRP _ _ _ m s1 s2 s3 lv _ hT hp (hI.ext extA) (hL.ext extA)) (k := ?_)
          | refine mj_callP (h := LongR_spec _ _ _ m s1 s2 s3 lv _ _ (hI.ext extA) (hL.ext extA) hG hLn hLE hlt) (k := ?_)
          | fail)
        | refine W1 ?_ | refine Wc ?_ | refine W2c ?_ ?_ | refine Wg ?_ | refine W2 ?_ ?_ | exact Wdead | refine Wlive (fun hb => ?_) | intro _ _ _ _ _ _ _ _ | refine We ?_ | refine Wx ?_ | refine Wt ?_ | refine Wm ?_ | refine W2m ?_ ?_ | refine Wl ?_
        | fail)
      refine st_call rfl (House_w E _ _ m s1 s2 s3 (hI.ext x2) ht) ?_
      rintro _ H3 g3 ⟨⟨u1, u2, u3, rfl, hm3, e3⟩, rfl⟩
      have x3 : Ext H H3 := x2.trans e3
      have hb3 := e3.get hb2
      refine OpsJ.normA ?_
      repeat' (first
        | (refine is_ucall ?_; first
          | refine st_callP (h := ThinW_spec _ _ _ m s1 s2 s3 (hm.ext extA)) (k := ?_)
          | refine st_callP (h := awake_spec _ _ _) (k := ?_)
          | refine st_callP (h := PaidRP _ _ _ m s1 s2 s3 lv _ hT hp (hI.ext extA) (hL.ext extA)) (k := ?_)
          | refine st_callP (h := LongR_spec _ _ _ m s1 s2 s3 lv _ _ (hI.ext extA) (hL.ext extA) hG hLn hLE hlt) (k := ?_)
          | fail)
        | (refine is_umcall ?_; first
          | refine mj_callP (h := ThinW_spec _ _ _ m s1 s2 s3 (hm.ext extA)) (k := ?_)
          | refine mj_callP (h := awake_spec _ _ _) (k := ?_)
          | refine mj_callP (h := PaidRP _ _ _ m s1 s2 s3 lv _ hT hp (hI.ext extA) (hL.ext extA)) (k := ?_)
          | refine mj_callP (h := LongR_spec _ _ _ m s1 s2 s3 lv _ _ (hI.ext extA) (hL.ext extA) hG hLn hLE hlt) (k := ?_)
          | fail)
        | refine W1 ?_ | refine Wc ?_ | refine W2c ?_ ?_ | refine Wg ?_ | refine W2 ?_ ?_ | exact Wdead | refine Wlive (fun hb => ?_) | intro _ _ _ _ _ _ _ _ | refine We ?_ | refine Wx ?_ | refine Wt ?_ | refine Wm ?_ | refine W2m ?_ ?_ | refine Wl ?_
        | fail)
      refine st_callP (h := PaidP E _ _ m u1 u2 u3 p hT hp (hm3.ext extA)) (k := ?_)
      refine OpsJ.normA ?_
      repeat' (first
        | (refine is_ucall ?_; first
          | refine st_callP (h := ThinW_spec _ _ _ m s1 s2 s3 (hm.ext extA)) (k := ?_)
          | refine st_callP (h := awake_spec _ _ _) (k := ?_)
          | refine st_callP (h := PaidRP _ _ _ m s1 s2 s3 lv _ hT hp (hI.ext extA) (hL.ext extA)) (k := ?_)
          | refine st_callP (h := LongR_spec _ _ _ m s1 s2 s3 lv _ _ (hI.ext extA) (hL.ext extA) hG hLn hLE hlt) (k := ?_)
          | fail)
        | (refine is_umcall ?_; first
          | refine mj_callP (h := ThinW_spec _ _ _ m s1 s2 s3 (hm.ext extA)) (k := ?_)
          | refine mj_callP (h := awake_spec _ _ _) (k := ?_)
          | refine mj_callP (h := PaidRP _ _ _ m s1 s2 s3 lv _ hT hp (hI.ext extA) (hL.ext extA)) (k := ?_)
          | refine mj_callP (h := LongR_spec _ _ _ m s1 s2 s3 lv _ _ (hI.ext extA) (hL.ext extA) hG hLn hLE hlt) (k := ?_)
          | fail)
        | refine W1 ?_ | refine Wc ?_ | refine W2c ?_ ?_ | refine Wg ?_ | refine W2 ?_ ?_ | exact Wdead | refine Wlive (fun hb => ?_) | intro _ _ _ _ _ _ _ _ | refine We ?_ | refine Wx ?_ | refine Wt ?_ | refine Wm ?_ | refine W2m ?_ ?_ | refine Wl ?_
        | fail)
      refine st_call rfl (sureT E _ _ m s1 s2 s3 hT (hI.ext x3)) ?_
      rintro _ H5 g5 ⟨⟨lv, rfl, hL, e5⟩, rfl⟩
      have x5 : Ext H H5 := x3.trans e5
      have hb5 := e5.get hb3
      have hcc := hc2.ext (e3.trans e5)
      have hLn : (refL m).length ≤ 1000000 := by have := refL_len m; omega
      have hLE := ref_isE hG
      have hcl : (longS m).length = m.tickets.length := by simp [longS]
      have hst := hI.tickets
      have hn2 := hG.n2
      clear hc2 e1 e2 e3 e5 hb1 hb2 hb3 x1 x2 x3 hm1 hm3
      refine OpsJ.normA ?_
      repeat' (first
        | (refine is_ucall ?_; first
          | refine st_callP (h := ThinW_spec _ _ _ m s1 s2 s3 (hm.ext extA)) (k := ?_)
          | refine st_callP (h := awake_spec _ _ _) (k := ?_)
          | refine st_callP (h := PaidRP _ _ _ m s1 s2 s3 lv _ hT hp (hI.ext extA) (hL.ext extA)) (k := ?_)
          | refine st_callP (h := LongR_spec _ _ _ m s1 s2 s3 lv _ _ (hI.ext extA) (hL.ext extA) hG hLn hLE hlt) (k := ?_)
          | fail)
        | (refine is_umcall ?_; first
          | refine mj_callP (h := ThinW_spec _ _ _ m s1 s2 s3 (hm.ext extA)) (k := ?_)
          | refine mj_callP (h := awake_spec _ _ _) (k := ?_)
          | refine mj_callP (h := PaidRP _ _ _ m s1 s2 s3 lv _ hT hp (hI.ext extA) (hL.ext extA)) (k := ?_)
          | refine mj_callP (h := LongR_spec _ _ _ m s1 s2 s3 lv _ _ (hI.ext extA) (hL.ext extA) hG hLn hLE hlt) (k := ?_)
          | fail)
        | refine W1 ?_ | refine Wc ?_ | refine W2c ?_ ?_ | refine Wg ?_ | refine W2 ?_ ?_ | exact Wdead | refine Wlive (fun hb => ?_) | intro _ _ _ _ _ _ _ _ | refine We ?_ | refine Wx ?_ | refine Wt ?_ | refine Wm ?_ | refine W2m ?_ ?_ | refine Wl ?_
        | fail)
      · refine absurd trivial ?_; assumption
      refine WPJ.loopT m.tickets.length [74, 75, 76, 77, 78, 79, 80, 81, 82, 83, 84, 85, 86, 87, 88] (fun j (_ : Unit) => [(9, .int .i64 j)]) (fun _ _ Hx gx => gx = g5 ∧ Hx = H5) 0 () (Nat.zero_le _) (by intro p hp; simp at hp; rcases hp with rfl; rfl) ⟨rfl, rfl⟩ ?_
      rintro j _ Hx gx hj ⟨rfl, rfl⟩ hl0
      simp only [updT, maskT, List.set_cons_zero, List.set_cons_succ]
      rcases Nat.lt_or_ge j m.tickets.length with hlt | hge
      · have hel := long_at hT hlt
        repeat' (first
          | (refine is_ucall ?_; first
            | refine st_callP (h := ThinW_spec _ _ _ m s1 s2 s3 (hm.ext extA)) (k := ?_)
            | refine st_callP (h := awake_spec _ _ _) (k := ?_)
            | refine st_callP (h := PaidRP _ _ _ m s1 s2 s3 lv _ hT hp (hI.ext extA) (hL.ext extA)) (k := ?_)
            | refine st_callP (h := LongR_spec _ _ _ m s1 s2 s3 lv _ _ (hI.ext extA) (hL.ext extA) hG hLn hLE hlt) (k := ?_)
            | fail)
          | (refine is_umcall ?_; first
            | refine mj_callP (h := ThinW_spec _ _ _ m s1 s2 s3 (hm.ext extA)) (k := ?_)
            | refine mj_callP (h := awake_spec _ _ _) (k := ?_)
            | refine mj_callP (h := PaidRP _ _ _ m s1 s2 s3 lv _ hT hp (hI.ext extA) (hL.ext extA)) (k := ?_)
            | refine mj_callP (h := LongR_spec _ _ _ m s1 s2 s3 lv _ _ (hI.ext extA) (hL.ext extA) hG hLn hLE hlt) (k := ?_)
            | fail)
          | refine W1 ?_ | refine Wc ?_ | refine W2c ?_ ?_ | refine Wg ?_ | refine W2 ?_ ?_ | exact Wdead | refine Wlive (fun hb => ?_) | intro _ _ _ _ _ _ _ _ | refine We ?_ | refine Wx ?_ | refine Wt ?_ | refine Wm ?_ | refine W2m ?_ ?_ | refine Wl ?_
          | fail)
        refine WPJ.draw 9 mixed (by kernel_rfl) (by kernel_rfl) (by kernel_rfl) (by decide) ?_
        refine MonoJ.normA ?_
        repeat' (first
          | (refine is_ucall ?_; first
            | refine st_callP (h := ThinW_spec _ _ _ m s1 s2 s3 (hm.ext extA)) (k := ?_)
            | refine st_callP (h := awake_spec _ _ _) (k := ?_)
            | refine st_callP (h := PaidRP _ _ _ m s1 s2 s3 lv _ hT hp (hI.ext extA) (hL.ext extA)) (k := ?_)
            | refine st_callP (h := LongR_spec _ _ _ m s1 s2 s3 lv _ _ (hI.ext extA) (hL.ext extA) hG hLn hLE hlt) (k := ?_)
            | fail)
          | (refine is_umcall ?_; first
            | refine mj_callP (h := ThinW_spec _ _ _ m s1 s2 s3 (hm.ext extA)) (k := ?_)
            | refine mj_callP (h := awake_spec _ _ _) (k := ?_)
            | refine mj_callP (h := PaidRP _ _ _ m s1 s2 s3 lv _ hT hp (hI.ext extA) (hL.ext extA)) (k := ?_)
            | refine mj_callP (h := LongR_spec _ _ _ m s1 s2 s3 lv _ _ (hI.ext extA) (hL.ext extA) hG hLn hLE hlt) (k := ?_)
            | fail)
          | refine W1 ?_ | refine Wc ?_ | refine W2c ?_ ?_ | refine Wg ?_ | refine W2 ?_ ?_ | exact Wdead | refine Wlive (fun hb => ?_) | intro _ _ _ _ _ _ _ _ | refine We ?_ | refine Wx ?_ | refine Wt ?_ | refine Wm ?_ | refine W2m ?_ ?_ | refine Wl ?_
          | fail)
        · refine absurd trivial ?_; assumption
        · exact ⟨(), hlt, (by repeat' (first | exact Weak.nil | refine Weak.wild ?_ | refine Weak.same ?_ | refine Weak.intEq (by first | omega | (simp; done) | (push_cast; omega)) ?_)), rfl, rfl⟩
      · obtain rfl : j = m.tickets.length := by omega
        repeat' (first
          | (refine is_ucall ?_; first
            | refine st_callP (h := ThinW_spec _ _ _ m s1 s2 s3 (hm.ext extA)) (k := ?_)
            | refine st_callP (h := awake_spec _ _ _) (k := ?_)
            | refine st_callP (h := PaidRP _ _ _ m s1 s2 s3 lv _ hT hp (hI.ext extA) (hL.ext extA)) (k := ?_)
            | refine st_callP (h := LongR_spec _ _ _ m s1 s2 s3 lv _ _ (hI.ext extA) (hL.ext extA) hG hLn hLE hlt) (k := ?_)
            | fail)
          | (refine is_umcall ?_; first
            | refine mj_callP (h := ThinW_spec _ _ _ m s1 s2 s3 (hm.ext extA)) (k := ?_)
            | refine mj_callP (h := awake_spec _ _ _) (k := ?_)
            | refine mj_callP (h := PaidRP _ _ _ m s1 s2 s3 lv _ hT hp (hI.ext extA) (hL.ext extA)) (k := ?_)
            | refine mj_callP (h := LongR_spec _ _ _ m s1 s2 s3 lv _ _ (hI.ext extA) (hL.ext extA) hG hLn hLE hlt) (k := ?_)
            | fail)
          | refine W1 ?_ | refine Wc ?_ | refine W2c ?_ ?_ | refine Wg ?_ | refine W2 ?_ ?_ | exact Wdead | refine Wlive (fun hb => ?_) | intro _ _ _ _ _ _ _ _ | refine We ?_ | refine Wx ?_ | refine Wt ?_ | refine Wm ?_ | refine W2m ?_ ?_ | refine Wl ?_
          | fail)
        exact ⟨rfl, rfl, rfl⟩
    · obtain ⟨e, he⟩ : ∃ e, checkT m = e := ⟨_, rfl⟩
      rw [he] at hT
      refine OpsJ.normA ?_
      repeat' (first
        | (refine is_ucall ?_; first
          | refine st_callP (h := ThinW_spec _ _ _ m s1 s2 s3 (hm.ext extA)) (k := ?_)
          | refine st_callP (h := awake_spec _ _ _) (k := ?_)
          | refine st_callP (h := PaidRP _ _ _ m s1 s2 s3 lv _ hT hp (hI.ext extA) (hL.ext extA)) (k := ?_)
          | refine st_callP (h := LongR_spec _ _ _ m s1 s2 s3 lv _ _ (hI.ext extA) (hL.ext extA) hG hLn hLE hlt) (k := ?_)
          | fail)
        | (refine is_umcall ?_; first
          | refine mj_callP (h := ThinW_spec _ _ _ m s1 s2 s3 (hm.ext extA)) (k := ?_)
          | refine mj_callP (h := awake_spec _ _ _) (k := ?_)
          | refine mj_callP (h := PaidRP _ _ _ m s1 s2 s3 lv _ hT hp (hI.ext extA) (hL.ext extA)) (k := ?_)
          | refine mj_callP (h := LongR_spec _ _ _ m s1 s2 s3 lv _ _ (hI.ext extA) (hL.ext extA) hG hLn hLE hlt) (k := ?_)
          | fail)
        | refine W1 ?_ | refine Wc ?_ | refine W2c ?_ ?_ | refine Wg ?_ | refine W2 ?_ ?_ | exact Wdead | refine Wlive (fun hb => ?_) | intro _ _ _ _ _ _ _ _ | refine We ?_ | refine Wx ?_ | refine Wt ?_ | refine Wm ?_ | refine W2m ?_ ?_ | refine Wl ?_
        | fail)
      refine st_call rfl (LongE E _ _ m t1 t2 t3 e he hT (hm1.ext extA)) ?_
      rintro _ H2 g2 ⟨⟨rfl, e2⟩, rfl⟩
      have x2 : Ext H H2 := x1.trans e2
      have hb2 := e2.get hb1
      refine OpsJ.normA ?_
      repeat' (first
        | (refine is_ucall ?_; first
          | refine st_callP (h := ThinW_spec _ _ _ m s1 s2 s3 (hm.ext extA)) (k := ?_)
          | refine st_callP (h := awake_spec _ _ _) (k := ?_)
          | refine st_callP (h := PaidRP _ _ _ m s1 s2 s3 lv _ hT hp (hI.ext extA) (hL.ext extA)) (k := ?_)
          | refine st_callP (h := LongR_spec _ _ _ m s1 s2 s3 lv _ _ (hI.ext extA) (hL.ext extA) hG hLn hLE hlt) (k := ?_)
          | fail)
        | (refine is_umcall ?_; first
          | refine mj_callP (h := ThinW_spec _ _ _ m s1 s2 s3 (hm.ext extA)) (k := ?_)
          | refine mj_callP (h := awake_spec _ _ _) (k := ?_)
          | refine mj_callP (h := PaidRP _ _ _ m s1 s2 s3 lv _ hT hp (hI.ext extA) (hL.ext extA)) (k := ?_)
          | refine mj_callP (h := LongR_spec _ _ _ m s1 s2 s3 lv _ _ (hI.ext extA) (hL.ext extA) hG hLn hLE hlt) (k := ?_)
          | fail)
        | refine W1 ?_ | refine Wc ?_ | refine W2c ?_ ?_ | refine Wg ?_ | refine W2 ?_ ?_ | exact Wdead | refine Wlive (fun hb => ?_) | intro _ _ _ _ _ _ _ _ | refine We ?_ | refine Wx ?_ | refine Wt ?_ | refine Wm ?_ | refine W2m ?_ ?_ | refine Wl ?_
        | fail)
      refine st_call rfl (House_w E _ _ m s1 s2 s3 (hI.ext x2) ht) ?_
      rintro _ H3 g3 ⟨⟨u1, u2, u3, rfl, hm3, e3⟩, rfl⟩
      have x3 : Ext H H3 := x2.trans e3
      have hb3 := e3.get hb2
      refine OpsJ.normA ?_
      repeat' (first
        | (refine is_ucall ?_; first
          | refine st_callP (h := ThinW_spec _ _ _ m s1 s2 s3 (hm.ext extA)) (k := ?_)
          | refine st_callP (h := awake_spec _ _ _) (k := ?_)
          | refine st_callP (h := PaidRP _ _ _ m s1 s2 s3 lv _ hT hp (hI.ext extA) (hL.ext extA)) (k := ?_)
          | refine st_callP (h := LongR_spec _ _ _ m s1 s2 s3 lv _ _ (hI.ext extA) (hL.ext extA) hG hLn hLE hlt) (k := ?_)
          | fail)
        | (refine is_umcall ?_; first
          | refine mj_callP (h := ThinW_spec _ _ _ m s1 s2 s3 (hm.ext extA)) (k := ?_)
          | refine mj_callP (h := awake_spec _ _ _) (k := ?_)
          | refine mj_callP (h := PaidRP _ _ _ m s1 s2 s3 lv _ hT hp (hI.ext extA) (hL.ext extA)) (k := ?_)
          | refine mj_callP (h := LongR_spec _ _ _ m s1 s2 s3 lv _ _ (hI.ext extA) (hL.ext extA) hG hLn hLE hlt) (k := ?_)
          | fail)
        | refine W1 ?_ | refine Wc ?_ | refine W2c ?_ ?_ | refine Wg ?_ | refine W2 ?_ ?_ | exact Wdead | refine Wlive (fun hb => ?_) | intro _ _ _ _ _ _ _ _ | refine We ?_ | refine Wx ?_ | refine Wt ?_ | refine Wm ?_ | refine W2m ?_ ?_ | refine Wl ?_
        | fail)
      refine st_callP (h := PaidE E _ _ m u1 u2 u3 e he hT (hm3.ext extA)) (k := ?_)
      refine OpsJ.normA ?_
      repeat' (first
        | (refine is_ucall ?_; first
          | refine st_callP (h := ThinW_spec _ _ _ m s1 s2 s3 (hm.ext extA)) (k := ?_)
          | refine st_callP (h := awake_spec _ _ _) (k := ?_)
          | refine st_callP (h := PaidRP _ _ _ m s1 s2 s3 lv _ hT hp (hI.ext extA) (hL.ext extA)) (k := ?_)
          | refine st_callP (h := LongR_spec _ _ _ m s1 s2 s3 lv _ _ (hI.ext extA) (hL.ext extA) hG hLn hLE hlt) (k := ?_)
          | fail)
        | (refine is_umcall ?_; first
          | refine mj_callP (h := ThinW_spec _ _ _ m s1 s2 s3 (hm.ext extA)) (k := ?_)
          | refine mj_callP (h := awake_spec _ _ _) (k := ?_)
          | refine mj_callP (h := PaidRP _ _ _ m s1 s2 s3 lv _ hT hp (hI.ext extA) (hL.ext extA)) (k := ?_)
          | refine mj_callP (h := LongR_spec _ _ _ m s1 s2 s3 lv _ _ (hI.ext extA) (hL.ext extA) hG hLn hLE hlt) (k := ?_)
          | fail)
        | refine W1 ?_ | refine Wc ?_ | refine W2c ?_ ?_ | refine Wg ?_ | refine W2 ?_ ?_ | exact Wdead | refine Wlive (fun hb => ?_) | intro _ _ _ _ _ _ _ _ | refine We ?_ | refine Wx ?_ | refine Wt ?_ | refine Wm ?_ | refine W2m ?_ ?_ | refine Wl ?_
        | fail)
      refine st_call rfl (sureN E _ _ m s1 s2 s3 e he hT (hI.ext x3)) ?_
      rintro _ H5 g5 ⟨⟨rfl, e5⟩, rfl⟩
      have x5 : Ext H H5 := x3.trans e5
      have hb5 := e5.get hb3
      refine OpsJ.normA ?_
      repeat' (first
        | (refine is_ucall ?_; first
          | refine st_callP (h := ThinW_spec _ _ _ m s1 s2 s3 (hm.ext extA)) (k := ?_)
          | refine st_callP (h := awake_spec _ _ _) (k := ?_)
          | refine st_callP (h := PaidRP _ _ _ m s1 s2 s3 lv _ hT hp (hI.ext extA) (hL.ext extA)) (k := ?_)
          | refine st_callP (h := LongR_spec _ _ _ m s1 s2 s3 lv _ _ (hI.ext extA) (hL.ext extA) hG hLn hLE hlt) (k := ?_)
          | fail)
        | (refine is_umcall ?_; first
          | refine mj_callP (h := ThinW_spec _ _ _ m s1 s2 s3 (hm.ext extA)) (k := ?_)
          | refine mj_callP (h := awake_spec _ _ _) (k := ?_)
          | refine mj_callP (h := PaidRP _ _ _ m s1 s2 s3 lv _ hT hp (hI.ext extA) (hL.ext extA)) (k := ?_)
          | refine mj_callP (h := LongR_spec _ _ _ m s1 s2 s3 lv _ _ (hI.ext extA) (hL.ext extA) hG hLn hLE hlt) (k := ?_)
          | fail)
        | refine W1 ?_ | refine Wc ?_ | refine W2c ?_ ?_ | refine Wg ?_ | refine W2 ?_ ?_ | exact Wdead | refine Wlive (fun hb => ?_) | intro _ _ _ _ _ _ _ _ | refine We ?_ | refine Wx ?_ | refine Wt ?_ | refine Wm ?_ | refine W2m ?_ ?_ | refine Wl ?_
        | fail)
      · exact ⟨rfl, rfl, rfl⟩
      all_goals (refine absurd trivial ?_; assumption)
end
end Go.Proofs.Ytehobnpoeodhkaa
