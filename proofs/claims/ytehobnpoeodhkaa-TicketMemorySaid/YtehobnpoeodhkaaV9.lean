import Derived.Test.YtehobnpoeodhkaaV6
import Derived.Test.YtehobnpoeodhkaaV8
import Derived.Test.YtehobnpoeodhkaaV4
import Derived.Test.YtehobnpoeodhkaaV5
namespace Go.Proofs.Ytehobnpoeodhkaa
open Go Go.Abs Go.Proofs
set_option maxHeartbeats 4000000
set_option maxRecDepth 20000
attribute [local irreducible] CallJ OpsJ WPJ CallV MonoJ SpecJ

section
variable {γ : Type} (E : Env γ) (g : γ) (H : AHeap)
theorem late_spec' : CallJ Try.prog E 60 [] (fun v H' g' => v = .agg ⟨[.int .i64 2, .int .i64 0, .int .i64 360]⟩ ∧ H' = H ∧ g' = g) H g := late_spec E g H
theorem rdC1 {H : AHeap} {i cap : Nat} {own : Bool} {c : ClipM} (hi : H[i]? = some (.row [.int .i64 c.ticket, .int .i64 c.clock, .int .i64 c.minute] 3 own)) : RdS H (.slice (some ⟨i, 0, none⟩) 1 cap) 3 [encC c] :=
  ⟨fun x hx => by simp at hx; subst hx; rfl, .inl ⟨i, 0, cap, _, 3, own, rfl, hi, by simp, rfl⟩⟩
theorem awake_spec : CallJ Try.prog E 24 [] (fun v H' g' => v = .bool true ∧ H' = H ∧ g' = g) H g := by
  refine CallJ.tidy ?_
  refine CallJ.enter Try.func24 rfl (by simp only [Try.ntmps24, List.length_nil, Nat.reduceSub, List.replicate_succ, List.replicate_zero, List.nil_append]; rfl) ?_
  repeat' (first
    | (refine is_ucall ?_; first
      | refine st_callP (h := between_spec _ _ _ _ _) (k := ?_)
      | refine st_callP (h := late_spec' _ _ _) (k := ?_)
      | fail)
    | (refine is_umcall ?_; first
      | refine mj_callP (h := between_spec _ _ _ _ _) (k := ?_)
      | refine mj_callP (h := late_spec' _ _ _) (k := ?_)
      | fail)
    | refine W1 ?_ | refine Wc ?_ | refine W2c ?_ ?_ | refine Wg ?_ | refine W2 ?_ ?_ | exact Wdead | refine Wlive (fun hb => ?_) | intro _ _ _ _ _ _ _ _ | refine We ?_ | refine Wx ?_ | refine Wt ?_ | refine Wm ?_ | refine W2m ?_ ?_ | refine Wl ?_
    | fail)
  refine st_call rfl (two_w E g _ 5) ?_
  rintro _ H1 g1 ⟨⟨s1, s2, s3, rfl, hm, e1⟩, rfl⟩
  refine OpsJ.normA ?_
  repeat' (first
    | (refine is_ucall ?_; first
      | refine st_callP (h := between_spec _ _ _ _ _) (k := ?_)
      | refine st_callP (h := late_spec' _ _ _) (k := ?_)
      | fail)
    | (refine is_umcall ?_; first
      | refine mj_callP (h := between_spec _ _ _ _ _) (k := ?_)
      | refine mj_callP (h := late_spec' _ _ _) (k := ?_)
      | fail)
    | refine W1 ?_ | refine Wc ?_ | refine W2c ?_ ?_ | refine Wg ?_ | refine W2 ?_ ?_ | exact Wdead | refine Wlive (fun hb => ?_) | intro _ _ _ _ _ _ _ _ | refine We ?_ | refine Wx ?_ | refine Wt ?_ | refine Wm ?_ | refine W2m ?_ ?_ | refine Wl ?_
    | fail)
  refine st_call rfl (Play_w E _ _ s1 s2 s3 _ (hm.ext extA) (rd_encE (s := [0, 3]) getA rfl)) ?_
  rintro _ H2 g2 ⟨⟨i1, c1, o1, rfl, q1, e2⟩, rfl⟩
  have x2 : Ext H H2 := Ext.trans extA e2
  clear hm e1 e2
  refine OpsJ.normA ?_
  repeat' (first
    | (refine is_ucall ?_; first
      | refine st_callP (h := between_spec _ _ _ _ _) (k := ?_)
      | refine st_callP (h := late_spec' _ _ _) (k := ?_)
      | fail)
    | (refine is_umcall ?_; first
      | refine mj_callP (h := between_spec _ _ _ _ _) (k := ?_)
      | refine mj_callP (h := late_spec' _ _ _) (k := ?_)
      | fail)
    | refine W1 ?_ | refine Wc ?_ | refine W2c ?_ ?_ | refine Wg ?_ | refine W2 ?_ ?_ | exact Wdead | refine Wlive (fun hb => ?_) | intro _ _ _ _ _ _ _ _ | refine We ?_ | refine Wx ?_ | refine Wt ?_ | refine Wm ?_ | refine W2m ?_ ?_ | refine Wl ?_
    | fail)
  refine st_call rfl (two_w E _ _ 5) ?_
  rintro _ H3 g3 ⟨⟨s1, s2, s3, rfl, hm, e1⟩, rfl⟩
  have x3 : Ext H2 H3 := Ext.trans extA e1
  refine OpsJ.normA ?_
  repeat' (first
    | (refine is_ucall ?_; first
      | refine st_callP (h := between_spec _ _ _ _ _) (k := ?_)
      | refine st_callP (h := late_spec' _ _ _) (k := ?_)
      | fail)
    | (refine is_umcall ?_; first
      | refine mj_callP (h := between_spec _ _ _ _ _) (k := ?_)
      | refine mj_callP (h := late_spec' _ _ _) (k := ?_)
      | fail)
    | refine W1 ?_ | refine Wc ?_ | refine W2c ?_ ?_ | refine Wg ?_ | refine W2 ?_ ?_ | exact Wdead | refine Wlive (fun hb => ?_) | intro _ _ _ _ _ _ _ _ | refine We ?_ | refine Wx ?_ | refine Wt ?_ | refine Wm ?_ | refine W2m ?_ ?_ | refine Wl ?_
    | fail)
  refine st_call rfl (Clocks_w E _ _ s1 s2 s3 (hm.ext extA)) ?_
  rintro _ H4 g4 ⟨⟨i2, c2, o2, rfl, q2, e2⟩, rfl⟩
  have x4 : Ext H2 H4 := Ext.trans (Ext.trans x3 extA) e2
  replace q1 := x4.get q1
  replace x4 := x2.trans x4
  clear hm e1 e2 x2 x3
  refine OpsJ.normA ?_
  repeat' (first
    | (refine is_ucall ?_; first
      | refine st_callP (h := between_spec _ _ _ _ _) (k := ?_)
      | refine st_callP (h := late_spec' _ _ _) (k := ?_)
      | fail)
    | (refine is_umcall ?_; first
      | refine mj_callP (h := between_spec _ _ _ _ _) (k := ?_)
      | refine mj_callP (h := late_spec' _ _ _) (k := ?_)
      | fail)
    | refine W1 ?_ | refine Wc ?_ | refine W2c ?_ ?_ | refine Wg ?_ | refine W2 ?_ ?_ | exact Wdead | refine Wlive (fun hb => ?_) | intro _ _ _ _ _ _ _ _ | refine We ?_ | refine Wx ?_ | refine Wt ?_ | refine Wm ?_ | refine W2m ?_ ?_ | refine Wl ?_
    | fail)
  refine st_call rfl (two_w E _ _ 3) ?_
  rintro _ H5 g5 ⟨⟨s1, s2, s3, rfl, hm, e1⟩, rfl⟩
  have x5 : Ext H4 H5 := Ext.trans extA e1
  refine OpsJ.normA ?_
  repeat' (first
    | (refine is_ucall ?_; first
      | refine st_callP (h := between_spec _ _ _ _ _) (k := ?_)
      | refine st_callP (h := late_spec' _ _ _) (k := ?_)
      | fail)
    | (refine is_umcall ?_; first
      | refine mj_callP (h := between_spec _ _ _ _ _) (k := ?_)
      | refine mj_callP (h := late_spec' _ _ _) (k := ?_)
      | fail)
    | refine W1 ?_ | refine Wc ?_ | refine W2c ?_ ?_ | refine Wg ?_ | refine W2 ?_ ?_ | exact Wdead | refine Wlive (fun hb => ?_) | intro _ _ _ _ _ _ _ _ | refine We ?_ | refine Wx ?_ | refine Wt ?_ | refine Wm ?_ | refine W2m ?_ ?_ | refine Wl ?_
    | fail)
  refine st_call rfl (Hours_w E _ _ s1 s2 s3 (hm.ext extA)) ?_
  rintro _ H6 g6 ⟨⟨i3, c3, o3, rfl, q3, e2⟩, rfl⟩
  have x6 : Ext H4 H6 := Ext.trans (Ext.trans x5 extA) e2
  replace q1 := x6.get q1
  replace q2 := x6.get q2
  replace x6 := x4.trans x6
  clear hm e1 e2 x4 x5
  refine OpsJ.normA ?_
  repeat' (first
    | (refine is_ucall ?_; first
      | refine st_callP (h := between_spec _ _ _ _ _) (k := ?_)
      | refine st_callP (h := late_spec' _ _ _) (k := ?_)
      | fail)
    | (refine is_umcall ?_; first
      | refine mj_callP (h := between_spec _ _ _ _ _) (k := ?_)
      | refine mj_callP (h := late_spec' _ _ _) (k := ?_)
      | fail)
    | refine W1 ?_ | refine Wc ?_ | refine W2c ?_ ?_ | refine Wg ?_ | refine W2 ?_ ?_ | exact Wdead | refine Wlive (fun hb => ?_) | intro _ _ _ _ _ _ _ _ | refine We ?_ | refine Wx ?_ | refine Wt ?_ | refine Wm ?_ | refine W2m ?_ ?_ | refine Wl ?_
    | fail)
  refine st_call rfl (two_w E _ _ 0) ?_
  rintro _ H7 g7 ⟨⟨s1, s2, s3, rfl, hm, e1⟩, rfl⟩
  have x7 : Ext H6 H7 := Ext.trans extA e1
  refine OpsJ.normA ?_
  repeat' (first
    | (refine is_ucall ?_; first
      | refine st_callP (h := between_spec _ _ _ _ _) (k := ?_)
      | refine st_callP (h := late_spec' _ _ _) (k := ?_)
      | fail)
    | (refine is_umcall ?_; first
      | refine mj_callP (h := between_spec _ _ _ _ _) (k := ?_)
      | refine mj_callP (h := late_spec' _ _ _) (k := ?_)
      | fail)
    | refine W1 ?_ | refine Wc ?_ | refine W2c ?_ ?_ | refine Wg ?_ | refine W2 ?_ ?_ | exact Wdead | refine Wlive (fun hb => ?_) | intro _ _ _ _ _ _ _ _ | refine We ?_ | refine Wx ?_ | refine Wt ?_ | refine Wm ?_ | refine W2m ?_ ?_ | refine Wl ?_
    | fail)
  refine st_call rfl (Long_w E _ _ s1 s2 s3 (hm.ext extA)) ?_
  rintro _ H8 g8 ⟨⟨i4, c4, o4, rfl, q4, e2⟩, rfl⟩
  have x8 : Ext H6 H8 := Ext.trans (Ext.trans x7 extA) e2
  replace q1 := x8.get q1
  replace q2 := x8.get q2
  replace q3 := x8.get q3
  replace x8 := x6.trans x8
  clear hm e1 e2 x6 x7
  refine OpsJ.normA ?_
  repeat' (first
    | (refine is_ucall ?_; first
      | refine st_callP (h := between_spec _ _ _ _ _) (k := ?_)
      | refine st_callP (h := late_spec' _ _ _) (k := ?_)
      | fail)
    | (refine is_umcall ?_; first
      | refine mj_callP (h := between_spec _ _ _ _ _) (k := ?_)
      | refine mj_callP (h := late_spec' _ _ _) (k := ?_)
      | fail)
    | refine W1 ?_ | refine Wc ?_ | refine W2c ?_ ?_ | refine Wg ?_ | refine W2 ?_ ?_ | exact Wdead | refine Wlive (fun hb => ?_) | intro _ _ _ _ _ _ _ _ | refine We ?_ | refine Wx ?_ | refine Wt ?_ | refine Wm ?_ | refine W2m ?_ ?_ | refine Wl ?_
    | fail)
  refine st_call rfl (turned_w E _ _) ?_
  rintro _ H9 g9 ⟨⟨s1, s2, s3, rfl, hm, e1⟩, rfl⟩
  have x9 : Ext H8 H9 := Ext.trans extA e1
  replace q1 := x9.get q1
  replace q2 := x9.get q2
  replace q3 := x9.get q3
  replace q4 := x9.get q4
  replace x9 := x8.trans x9
  clear x8
  refine OpsJ.normA ?_
  repeat' (first
    | (refine is_ucall ?_; first
      | refine st_callP (h := between_spec _ _ _ _ _) (k := ?_)
      | refine st_callP (h := late_spec' _ _ _) (k := ?_)
      | fail)
    | (refine is_umcall ?_; first
      | refine mj_callP (h := between_spec _ _ _ _ _) (k := ?_)
      | refine mj_callP (h := late_spec' _ _ _) (k := ?_)
      | fail)
    | refine W1 ?_ | refine Wc ?_ | refine W2c ?_ ?_ | refine Wg ?_ | refine W2 ?_ ?_ | exact Wdead | refine Wlive (fun hb => ?_) | intro _ _ _ _ _ _ _ _ | refine We ?_ | refine Wx ?_ | refine Wt ?_ | refine Wm ?_ | refine W2m ?_ ?_ | refine Wl ?_
    | fail)
  refine st_call rfl (Clash_w E _ _ s1 s2 s3 (hm.ext extA)) ?_
  rintro _ H9 gA ⟨rfl, rfl, rfl⟩
  clear hm e1
  refine OpsJ.normA ?_
  repeat' (first
    | (refine is_ucall ?_; first
      | refine st_callP (h := between_spec _ _ _ _ _) (k := ?_)
      | refine st_callP (h := late_spec' _ _ _) (k := ?_)
      | fail)
    | (refine is_umcall ?_; first
      | refine mj_callP (h := between_spec _ _ _ _ _) (k := ?_)
      | refine mj_callP (h := late_spec' _ _ _) (k := ?_)
      | fail)
    | refine W1 ?_ | refine Wc ?_ | refine W2c ?_ ?_ | refine Wg ?_ | refine W2 ?_ ?_ | exact Wdead | refine Wlive (fun hb => ?_) | intro _ _ _ _ _ _ _ _ | refine We ?_ | refine Wx ?_ | refine Wt ?_ | refine Wm ?_ | refine W2m ?_ ?_ | refine Wl ?_
    | fail)
  refine st_call rfl (two_w E _ _ 3) ?_
  rintro _ HB gB ⟨⟨s1, s2, s3, rfl, hm, e1⟩, rfl⟩
  have xB : Ext H9 HB := Ext.trans extA e1
  replace q1 := xB.get q1
  replace q2 := xB.get q2
  replace q3 := xB.get q3
  replace q4 := xB.get q4
  replace xB := x9.trans xB
  clear x9
  refine OpsJ.normA ?_
  repeat' (first
    | (refine is_ucall ?_; first
      | refine st_callP (h := between_spec _ _ _ _ _) (k := ?_)
      | refine st_callP (h := late_spec' _ _ _) (k := ?_)
      | fail)
    | (refine is_umcall ?_; first
      | refine mj_callP (h := between_spec _ _ _ _ _) (k := ?_)
      | refine mj_callP (h := late_spec' _ _ _) (k := ?_)
      | fail)
    | refine W1 ?_ | refine Wc ?_ | refine W2c ?_ ?_ | refine Wg ?_ | refine W2 ?_ ?_ | exact Wdead | refine Wlive (fun hb => ?_) | intro _ _ _ _ _ _ _ _ | refine We ?_ | refine Wx ?_ | refine Wt ?_ | refine Wm ?_ | refine W2m ?_ ?_ | refine Wl ?_
    | fail)
  refine st_call rfl (Paid_w E _ _ s1 s2 s3 (hm.ext extA)) ?_
  rintro _ HB gC ⟨rfl, rfl, rfl⟩
  clear hm e1
  refine OpsJ.normA ?_
  repeat' (first
    | (refine is_ucall ?_; first
      | refine st_callP (h := between_spec _ _ _ _ _) (k := ?_)
      | refine st_callP (h := late_spec' _ _ _) (k := ?_)
      | fail)
    | (refine is_umcall ?_; first
      | refine mj_callP (h := between_spec _ _ _ _ _) (k := ?_)
      | refine mj_callP (h := late_spec' _ _ _) (k := ?_)
      | fail)
    | refine W1 ?_ | refine Wc ?_ | refine W2c ?_ ?_ | refine Wg ?_ | refine W2 ?_ ?_ | exact Wdead | refine Wlive (fun hb => ?_) | intro _ _ _ _ _ _ _ _ | refine We ?_ | refine Wx ?_ | refine Wt ?_ | refine Wm ?_ | refine W2m ?_ ?_ | refine Wl ?_
    | fail)
  refine st_call rfl (two_w E _ _ 5) ?_
  rintro _ HC gD ⟨⟨s1, s2, s3, rfl, hm, e1⟩, rfl⟩
  have xC : Ext HB HC := Ext.trans extA e1
  replace q1 := xC.get q1
  replace q2 := xC.get q2
  replace q3 := xC.get q3
  replace q4 := xC.get q4
  replace xC := xB.trans xC
  clear xB
  refine OpsJ.normA ?_
  repeat' (first
    | (refine is_ucall ?_; first
      | refine st_callP (h := between_spec _ _ _ _ _) (k := ?_)
      | refine st_callP (h := late_spec' _ _ _) (k := ?_)
      | fail)
    | (refine is_umcall ?_; first
      | refine mj_callP (h := between_spec _ _ _ _ _) (k := ?_)
      | refine mj_callP (h := late_spec' _ _ _) (k := ?_)
      | fail)
    | refine W1 ?_ | refine Wc ?_ | refine W2c ?_ ?_ | refine Wg ?_ | refine W2 ?_ ?_ | exact Wdead | refine Wlive (fun hb => ?_) | intro _ _ _ _ _ _ _ _ | refine We ?_ | refine Wx ?_ | refine Wt ?_ | refine Wm ?_ | refine W2m ?_ ?_ | refine Wl ?_
    | fail)
  refine st_call rfl (Free_w E _ _ s1 s2 s3 (hm.ext extA)) ?_
  rintro _ HC gE ⟨rfl, rfl, rfl⟩
  clear hm e1
  refine OpsJ.normA ?_
  repeat' (first
    | (refine is_ucall ?_; first
      | refine st_callP (h := between_spec _ _ _ _ _) (k := ?_)
      | refine st_callP (h := late_spec' _ _ _) (k := ?_)
      | fail)
    | (refine is_umcall ?_; first
      | refine mj_callP (h := between_spec _ _ _ _ _) (k := ?_)
      | refine mj_callP (h := late_spec' _ _ _) (k := ?_)
      | fail)
    | refine W1 ?_ | refine Wc ?_ | refine W2c ?_ ?_ | refine Wg ?_ | refine W2 ?_ ?_ | exact Wdead | refine Wlive (fun hb => ?_) | intro _ _ _ _ _ _ _ _ | refine We ?_ | refine Wx ?_ | refine Wt ?_ | refine Wm ?_ | refine W2m ?_ ?_ | refine Wl ?_
    | fail)
  refine st_call rfl (two_w E _ _ 5) ?_
  rintro _ HD gF ⟨⟨s1, s2, s3, rfl, hm, e1⟩, rfl⟩
  have xD : Ext H HD := Ext.trans extA e1
  have qb : HD[HC.length]? = some (.row [.int .i64 483, .int .i64 487] 1 true) := e1.get getA
  replace q1 := e1.get (get_old q1)
  replace q2 := e1.get (get_old q2)
  replace q3 := e1.get (get_old q3)
  replace q4 := e1.get (get_old q4)
  clear e1 xC
  refine OpsJ.normA ?_
  repeat' (first
    | (refine is_ucall ?_; first
      | refine st_callP (h := between_spec _ _ _ _ _) (k := ?_)
      | refine st_callP (h := late_spec' _ _ _) (k := ?_)
      | fail)
    | (refine is_umcall ?_; first
      | refine mj_callP (h := between_spec _ _ _ _ _) (k := ?_)
      | refine mj_callP (h := late_spec' _ _ _) (k := ?_)
      | fail)
    | refine W1 ?_ | refine Wc ?_ | refine W2c ?_ ?_ | refine Wg ?_ | refine W2 ?_ ?_ | exact Wdead | refine Wlive (fun hb => ?_) | intro _ _ _ _ _ _ _ _ | refine We ?_ | refine Wx ?_ | refine Wt ?_ | refine Wm ?_ | refine W2m ?_ ?_ | refine Wl ?_
    | fail)
  refine st_call rfl (Look_w E _ _ s1 s2 s3 (hm.ext extA)) ?_
  rintro _ HD gG ⟨rfl, rfl, rfl⟩
  clear hm
  refine OpsJ.normA ?_
  repeat' (first
    | (refine is_ucall ?_; first
      | refine st_callP (h := between_spec _ _ _ _ _) (k := ?_)
      | refine st_callP (h := late_spec' _ _ _) (k := ?_)
      | fail)
    | (refine is_umcall ?_; first
      | refine mj_callP (h := between_spec _ _ _ _ _) (k := ?_)
      | refine mj_callP (h := late_spec' _ _ _) (k := ?_)
      | fail)
    | refine W1 ?_ | refine Wc ?_ | refine W2c ?_ ?_ | refine Wg ?_ | refine W2 ?_ ?_ | exact Wdead | refine Wlive (fun hb => ?_) | intro _ _ _ _ _ _ _ _ | refine We ?_ | refine Wx ?_ | refine Wt ?_ | refine Wm ?_ | refine W2m ?_ ?_ | refine Wl ?_
    | fail)
  refine st_call rfl (two1_w E _ _ 5 _ ⟨2, 0, 360⟩ (rdC1 (c := ⟨2, 0, 360⟩) getA)) ?_
  rintro _ HE gH ⟨⟨s1, s2, s3, rfl, hm, e1⟩, rfl⟩
  have xE : Ext HD HE := Ext.trans extA e1
  replace q1 := xE.get q1
  replace q2 := xE.get q2
  replace q3 := xE.get q3
  replace q4 := xE.get q4
  replace qb := xE.get qb
  replace xE := xD.trans xE
  clear e1 xD
  refine OpsJ.normA ?_
  repeat' (first
    | (refine is_ucall ?_; first
      | refine st_callP (h := between_spec _ _ _ _ _) (k := ?_)
      | refine st_callP (h := late_spec' _ _ _) (k := ?_)
      | fail)
    | (refine is_umcall ?_; first
      | refine mj_callP (h := between_spec _ _ _ _ _) (k := ?_)
      | refine mj_callP (h := late_spec' _ _ _) (k := ?_)
      | fail)
    | refine W1 ?_ | refine Wc ?_ | refine W2c ?_ ?_ | refine Wg ?_ | refine W2 ?_ ?_ | exact Wdead | refine Wlive (fun hb => ?_) | intro _ _ _ _ _ _ _ _ | refine We ?_ | refine Wx ?_ | refine Wt ?_ | refine Wm ?_ | refine W2m ?_ ?_ | refine Wl ?_
    | fail)
  refine st_call rfl (First_w E _ _ s1 s2 s3 (hm.ext extA)) ?_
  rintro _ HE gI ⟨rfl, rfl, rfl⟩
  clear hm
  refine OpsJ.normA ?_
  repeat' (first
    | (refine is_ucall ?_; first
      | refine st_callP (h := between_spec _ _ _ _ _) (k := ?_)
      | refine st_callP (h := late_spec' _ _ _) (k := ?_)
      | fail)
    | (refine is_umcall ?_; first
      | refine mj_callP (h := between_spec _ _ _ _ _) (k := ?_)
      | refine mj_callP (h := late_spec' _ _ _) (k := ?_)
      | fail)
    | refine W1 ?_ | refine Wc ?_ | refine W2c ?_ ?_ | refine Wg ?_ | refine W2 ?_ ?_ | exact Wdead | refine Wlive (fun hb => ?_) | intro _ _ _ _ _ _ _ _ | refine We ?_ | refine Wx ?_ | refine Wt ?_ | refine Wm ?_ | refine W2m ?_ ?_ | refine Wl ?_
    | fail)
  refine st_call rfl (two1_w E _ _ 5 _ ⟨2, 0, 360⟩ (rdC1 (c := ⟨2, 0, 360⟩) getA)) ?_
  rintro _ HF gJ ⟨⟨s1, s2, s3, rfl, hm, e1⟩, rfl⟩
  have xF : Ext HE HF := Ext.trans extA e1
  refine OpsJ.normA ?_
  repeat' (first
    | (refine is_ucall ?_; first
      | refine st_callP (h := between_spec _ _ _ _ _) (k := ?_)
      | refine st_callP (h := late_spec' _ _ _) (k := ?_)
      | fail)
    | (refine is_umcall ?_; first
      | refine mj_callP (h := between_spec _ _ _ _ _) (k := ?_)
      | refine mj_callP (h := late_spec' _ _ _) (k := ?_)
      | fail)
    | refine W1 ?_ | refine Wc ?_ | refine W2c ?_ ?_ | refine Wg ?_ | refine W2 ?_ ?_ | exact Wdead | refine Wlive (fun hb => ?_) | intro _ _ _ _ _ _ _ _ | refine We ?_ | refine Wx ?_ | refine Wt ?_ | refine Wm ?_ | refine W2m ?_ ?_ | refine Wl ?_
    | fail)
  refine st_call rfl (Leave_w E _ _ s1 s2 s3 (hm.ext extA)) ?_
  rintro _ HG gK ⟨⟨i5, c5, cs5, o5, rfl, q5, hc5, e2⟩, rfl⟩
  have xG : Ext HE HG := Ext.trans (Ext.trans xF extA) e2
  replace q1 := xG.get q1
  replace q2 := xG.get q2
  replace q3 := xG.get q3
  replace q4 := xG.get q4
  replace qb := xG.get qb
  replace xG := xE.trans xG
  clear e1 e2 hm xE xF
  have r1 : RdS HG (.slice (some ⟨i1, 0, none⟩) 4 c1) 1 (encI [300, 363, 365, 485]) := rd_encE (s := [300, 363, 365, 485]) q1 rfl
  have r4 : RdS HG (.slice (some ⟨i4, 0, none⟩) 3 c4) 1 (encI [1, 3, 2]) := rd_encE (s := [1, 3, 2]) q4 rfl
  have r5 : RdS HG (.slice (some ⟨i5, 0, none⟩) 1 c5) 1 (encI [4]) := rd_encE (s := [4]) q5 hc5
  refine OpsJ.normA ?_
  repeat' (first
    | (refine is_ucall ?_; first
      | refine st_callP (h := between_spec _ _ _ _ _) (k := ?_)
      | refine st_callP (h := late_spec' _ _ _) (k := ?_)
      | fail)
    | (refine is_umcall ?_; first
      | refine mj_callP (h := between_spec _ _ _ _ _) (k := ?_)
      | refine mj_callP (h := late_spec' _ _ _) (k := ?_)
      | fail)
    | refine W1 ?_ | refine Wc ?_ | refine W2c ?_ ?_ | refine Wg ?_ | refine W2 ?_ ?_ | exact Wdead | refine Wlive (fun hb => ?_) | intro _ _ _ _ _ _ _ _ | refine We ?_ | refine Wx ?_ | refine Wt ?_ | refine Wm ?_ | refine W2m ?_ ?_ | refine Wl ?_
    | fail)
  refine WPJ.draw 102 mixed (by kernel_rfl) (by kernel_rfl) (by kernel_rfl) (by decide) ?_
  refine MonoJ.normA ?_
  repeat' (first
    | (refine is_ucall ?_; first
      | refine st_callP (h := between_spec _ _ _ _ _) (k := ?_)
      | refine st_callP (h := late_spec' _ _ _) (k := ?_)
      | fail)
    | (refine is_umcall ?_; first
      | refine mj_callP (h := between_spec _ _ _ _ _) (k := ?_)
      | refine mj_callP (h := late_spec' _ _ _) (k := ?_)
      | fail)
    | refine W1 ?_ | refine Wc ?_ | refine W2c ?_ ?_ | refine Wg ?_ | refine W2 ?_ ?_ | exact Wdead | refine Wlive (fun hb => ?_) | intro _ _ _ _ _ _ _ _ | refine We ?_ | refine Wx ?_ | refine Wt ?_ | refine Wm ?_ | refine W2m ?_ ?_ | refine Wl ?_
    | fail)
  refine mj_callP (h := ints_spec _ _ _ _ _ [300, 363, 365, 485] [300, 363, 365, 485] ?_ ?_ (by decide) (by decide)) (k := ?_)
  · exact r1.ext extA
  · exact rd_encE (s := [300, 363, 365, 485]) getA rfl
  rw [decide_eq_true rfl]
  refine MonoJ.normA ?_
  repeat' (first
    | (refine is_ucall ?_; first
      | refine st_callP (h := between_spec _ _ _ _ _) (k := ?_)
      | refine st_callP (h := late_spec' _ _ _) (k := ?_)
      | fail)
    | (refine is_umcall ?_; first
      | refine mj_callP (h := between_spec _ _ _ _ _) (k := ?_)
      | refine mj_callP (h := late_spec' _ _ _) (k := ?_)
      | fail)
    | refine W1 ?_ | refine Wc ?_ | refine W2c ?_ ?_ | refine Wg ?_ | refine W2 ?_ ?_ | exact Wdead | refine Wlive (fun hb => ?_) | intro _ _ _ _ _ _ _ _ | refine We ?_ | refine Wx ?_ | refine Wt ?_ | refine Wm ?_ | refine W2m ?_ ?_ | refine Wl ?_
    | fail)
  refine mj_eqI (n := 2) (xs := [1, 5]) (ys := [1, 5]) rfl rfl rfl rfl ?_
  rw [decide_eq_true rfl]
  refine MonoJ.normA ?_
  repeat' (first
    | (refine is_ucall ?_; first
      | refine st_callP (h := between_spec _ _ _ _ _) (k := ?_)
      | refine st_callP (h := late_spec' _ _ _) (k := ?_)
      | fail)
    | (refine is_umcall ?_; first
      | refine mj_callP (h := between_spec _ _ _ _ _) (k := ?_)
      | refine mj_callP (h := late_spec' _ _ _) (k := ?_)
      | fail)
    | refine W1 ?_ | refine Wc ?_ | refine W2c ?_ ?_ | refine Wg ?_ | refine W2 ?_ ?_ | exact Wdead | refine Wlive (fun hb => ?_) | intro _ _ _ _ _ _ _ _ | refine We ?_ | refine Wx ?_ | refine Wt ?_ | refine Wm ?_ | refine W2m ?_ ?_ | refine Wl ?_
    | fail)
  refine mj_eqI (n := 2) (xs := [1, 2]) (ys := [1, 2]) rfl rfl rfl rfl ?_
  rw [decide_eq_true rfl]
  refine MonoJ.normA ?_
  repeat' (first
    | (refine is_ucall ?_; first
      | refine st_callP (h := between_spec _ _ _ _ _) (k := ?_)
      | refine st_callP (h := late_spec' _ _ _) (k := ?_)
      | fail)
    | (refine is_umcall ?_; first
      | refine mj_callP (h := between_spec _ _ _ _ _) (k := ?_)
      | refine mj_callP (h := late_spec' _ _ _) (k := ?_)
      | fail)
    | refine W1 ?_ | refine Wc ?_ | refine W2c ?_ ?_ | refine Wg ?_ | refine W2 ?_ ?_ | exact Wdead | refine Wlive (fun hb => ?_) | intro _ _ _ _ _ _ _ _ | refine We ?_ | refine Wx ?_ | refine Wt ?_ | refine Wm ?_ | refine W2m ?_ ?_ | refine Wl ?_
    | fail)
  refine mj_callP (h := ints_spec _ _ _ _ _ [1, 3, 2] [1, 3, 2] ?_ ?_ (by decide) (by decide)) (k := ?_)
  · exact r4.ext extA
  · exact rd_encE (s := [1, 3, 2]) getA rfl
  rw [decide_eq_true rfl]
  refine MonoJ.normA ?_
  repeat' (first
    | (refine is_ucall ?_; first
      | refine st_callP (h := between_spec _ _ _ _ _) (k := ?_)
      | refine st_callP (h := late_spec' _ _ _) (k := ?_)
      | fail)
    | (refine is_umcall ?_; first
      | refine mj_callP (h := between_spec _ _ _ _ _) (k := ?_)
      | refine mj_callP (h := late_spec' _ _ _) (k := ?_)
      | fail)
    | refine W1 ?_ | refine Wc ?_ | refine W2c ?_ ?_ | refine Wg ?_ | refine W2 ?_ ?_ | exact Wdead | refine Wlive (fun hb => ?_) | intro _ _ _ _ _ _ _ _ | refine We ?_ | refine Wx ?_ | refine Wt ?_ | refine Wm ?_ | refine W2m ?_ ?_ | refine Wl ?_
    | fail)
  refine mj_eqI (n := 2) (xs := [483, 487]) (ys := [483, 487]) rfl rfl rfl rfl ?_
  rw [decide_eq_true rfl]
  refine MonoJ.normA ?_
  repeat' (first
    | (refine is_ucall ?_; first
      | refine st_callP (h := between_spec _ _ _ _ _) (k := ?_)
      | refine st_callP (h := late_spec' _ _ _) (k := ?_)
      | fail)
    | (refine is_umcall ?_; first
      | refine mj_callP (h := between_spec _ _ _ _ _) (k := ?_)
      | refine mj_callP (h := late_spec' _ _ _) (k := ?_)
      | fail)
    | refine W1 ?_ | refine Wc ?_ | refine W2c ?_ ?_ | refine Wg ?_ | refine W2 ?_ ?_ | exact Wdead | refine Wlive (fun hb => ?_) | intro _ _ _ _ _ _ _ _ | refine We ?_ | refine Wx ?_ | refine Wt ?_ | refine Wm ?_ | refine W2m ?_ ?_ | refine Wl ?_
    | fail)
  refine mj_callP (h := ints_spec _ _ _ _ _ [4] [4] ?_ ?_ (by decide) (by decide)) (k := ?_)
  · exact r5.ext extA
  · exact rd_encE (s := [4]) getA rfl
  rw [decide_eq_true rfl]
  refine MonoJ.normA ?_
  repeat' (first
    | (refine is_ucall ?_; first
      | refine st_callP (h := between_spec _ _ _ _ _) (k := ?_)
      | refine st_callP (h := late_spec' _ _ _) (k := ?_)
      | fail)
    | (refine is_umcall ?_; first
      | refine mj_callP (h := between_spec _ _ _ _ _) (k := ?_)
      | refine mj_callP (h := late_spec' _ _ _) (k := ?_)
      | fail)
    | refine W1 ?_ | refine Wc ?_ | refine W2c ?_ ?_ | refine Wg ?_ | refine W2 ?_ ?_ | exact Wdead | refine Wlive (fun hb => ?_) | intro _ _ _ _ _ _ _ _ | refine We ?_ | refine Wx ?_ | refine Wt ?_ | refine Wm ?_ | refine W2m ?_ ?_ | refine Wl ?_
    | fail)
  refine OpsJ.list (by simp only [List.append_eq, List.cons_append, List.nil_append, List.drop_succ_cons, List.drop_zero]; rfl) ?_
  repeat' (first
    | (refine is_ucall ?_; first
      | refine st_callP (h := between_spec _ _ _ _ _) (k := ?_)
      | refine st_callP (h := late_spec' _ _ _) (k := ?_)
      | fail)
    | (refine is_umcall ?_; first
      | refine mj_callP (h := between_spec _ _ _ _ _) (k := ?_)
      | refine mj_callP (h := late_spec' _ _ _) (k := ?_)
      | fail)
    | refine W1 ?_ | refine Wc ?_ | refine W2c ?_ ?_ | refine Wg ?_ | refine W2 ?_ ?_ | exact Wdead | refine Wlive (fun hb => ?_) | intro _ _ _ _ _ _ _ _ | refine We ?_ | refine Wx ?_ | refine Wt ?_ | refine Wm ?_ | refine W2m ?_ ?_ | refine Wl ?_
    | fail)
  exact ⟨rfl, rfl, rfl⟩
end
end Go.Proofs.Ytehobnpoeodhkaa
