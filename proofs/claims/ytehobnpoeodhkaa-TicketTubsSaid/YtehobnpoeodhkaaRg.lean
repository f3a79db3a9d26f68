import Derived.Test.YtehobnpoeodhkaaRf
namespace Go.Proofs.Ytehobnpoeodhkaa
open Go Go.Abs Go.Proofs
set_option maxHeartbeats 1600000
attribute [local irreducible] CallJ OpsJ WPJ CallV MonoJ SpecJ

theorem list_wr {γ : Type} (E : Env γ) (g : γ) (H : AHeap) (sv : Value) (l : List Int) (hr : RdS H sv 1 (encI l)) (hn : l.length ≤ 1000000) : CallJ Try.prog E 27 [sv] (fun v H' g' => (RdS H' v 1 (encI l) ∧ Ext H H') ∧ g' = g) H g :=
  (list_spec E g H sv l hr hn).mono (by rintro v H' g' ⟨rfl, rfl, rfl⟩; exact ⟨⟨sl_rd (enc := enc1) (w := 1) (fun _ => rfl) H l, ⟨_, rfl⟩⟩, rfl⟩)
theorem rd_enc {H : AHeap} {i cap : Nat} {cs : List Value} {own : Bool} {l : List Int} (hi : H[i]? = some (.row cs 1 own)) (ht : cs.take l.length = encE l) : RdS H (.slice (some ⟨i, 0, none⟩) l.length cap) 1 (encI l) := by
  have h1 : (encE l).length = l.length := by simp [encE]
  have h2 : l.length ≤ cs.length := by have := congrArg List.length ht; rw [List.length_take, h1] at this; omega
  refine ⟨fun x hx => by obtain ⟨a, _, rfl⟩ := List.mem_map.1 hx; rfl, .inl ⟨i, 0, cap, cs, 1, own, by simp, hi, by simp; omega, ?_⟩⟩
  rw [List.drop_zero, encI_eq, enc1_flat]
  simpa using ht
section
variable {γ : Type} (E : Env γ) (g : γ) (H : AHeap)
theorem LeaveR (m : HouseM) (s1 s2 s3 : Value) (hS : checkS m = 0) (hm : HouseIs H m s1 s2 s3) : CallJ Try.prog E 53 [hv m s1 s2 s3] (fun v H' g' => (∃ sv, v = .tuple #[sv, .int .i64 0] ∧ RdS H' sv 1 (encI (leaveS m)) ∧ Ext H H') ∧ g' = g) H g :=
  (Leave_spec E g H m s1 s2 s3 hm).mono (by
    rintro v H' g' ⟨h, rfl⟩
    unfold LeaveA at h
    rw [if_pos hS] at h
    rcases h with ⟨h0, rfl, rfl⟩ | ⟨cs, cap, rfl, rfl, ht, _⟩
    · exact ⟨⟨_, rfl, by rw [h0]; exact ⟨by simp, .inr ⟨rfl, .inl rfl⟩⟩, Ext.refl _⟩, rfl⟩
    · exact ⟨⟨_, rfl, rd_enc List.getElem?_concat_length ht, ⟨_, rfl⟩⟩, rfl⟩)
theorem pickT (m : HouseM) (s1 s2 s3 : Value) (w : Int) (hw : 0 ≤ w ∧ w ≤ 65535) (hS : checkS m = 0) (hT : hasS m = true) (hm : HouseIs H m s1 s2 s3) : CallJ Try.prog E 62 [hv m s1 s2 s3, .int .u16 w] (fun v H' g' => (∃ tv l, v = .tuple #[tv, .bool true] ∧ l ∈ refL m ∧ RdS H' tv 1 (encI l) ∧ Ext H H') ∧ g' = g) H g := by
  have hok := hm.cells
  have hG := good_of hS
  have hwr : IntKind.i64.wrap w = w := wrap64_eq ⟨by omega, by omega⟩
  unfold hv
  refine CallJ.enter Try.func62 rfl (by simp only [Try.ntmps62, List.length_cons, List.length_nil, Nat.zero_add, Nat.reduceAdd, Nat.reduceSub, List.replicate_succ, List.replicate_zero, List.cons_append, List.nil_append]; rfl) ?_
  repeat' (first
    | refine W1 ?_ | refine Wc ?_ | refine W2c ?_ ?_ | refine Wg ?_ | refine W2 ?_ ?_ | exact Wdead | refine Wlive (fun hb => ?_) | intro _ _ _ _ _ _ _ _ | refine We ?_ | refine Wx ?_ | refine Wt ?_ | refine Wm ?_ | refine W2m ?_ ?_ | refine Wl ?_
    | fail)
  refine st_call rfl (Truths_spec E _ _ m s1 s2 s3 (hm.ext extA) hG) ?_
  rintro lv H1 g1 ⟨⟨hL, e1⟩, rfl⟩
  have x1 : Ext H H1 := Ext.trans extA e1
  obtain ⟨vs, hvs, hvl, hin⟩ := hL
  have hne : (refL m).length ≠ 0 := by
    intro e
    have := (ref_ne hG).1 (List.length_eq_zero_iff.1 e)
    rw [this] at hT; cases hT
  have hne2 : vs.length ≠ 0 := by omega
  have hlv : (vs.map fun x => [x]).length = vs.length := by simp
  have hm0 : 0 ≤ w % (vs.length : Int) := Int.emod_nonneg _ (by omega)
  have hm1 : w % (vs.length : Int) < vs.length := Int.emod_lt_of_pos _ (by omega)
  have hj : (w % (vs.length : Int)).toNat < (refL m).length := by omega
  obtain ⟨x, hel, hrx⟩ := LL.at_ hvl hin hj
  rw [Int.toNat_natCast] at hel
  have hE := ref_isE hG _ (List.getElem_mem hj)
  have hln : (refL m)[(w % (vs.length : Int)).toNat].length ≤ 1000000 := by
    have hn1 := hG.n1
    simp only [isE, Bool.and_eq_true, decide_eq_true_eq] at hE
    omega
  refine OpsJ.normA ?_
  repeat' (first
    | refine W1 ?_ | refine Wc ?_ | refine W2c ?_ ?_ | refine Wg ?_ | refine W2 ?_ ?_ | exact Wdead | refine Wlive (fun hb => ?_) | intro _ _ _ _ _ _ _ _ | refine We ?_ | refine Wx ?_ | refine Wt ?_ | refine Wm ?_ | refine W2m ?_ ?_ | refine Wl ?_
    | fail)
  rw [hwr]
  refine OpsJ.normA ?_
  repeat' (first
    | refine W1 ?_ | refine Wc ?_ | refine W2c ?_ ?_ | refine Wg ?_ | refine W2 ?_ ?_ | exact Wdead | refine Wlive (fun hb => ?_) | intro _ _ _ _ _ _ _ _ | refine We ?_ | refine Wx ?_ | refine Wt ?_ | refine Wm ?_ | refine W2m ?_ ?_ | refine Wl ?_
    | fail)
  refine st_call rfl (list_wr E _ _ x _ (hrx.ext extA) hln) ?_
  rintro tv H2 g2 ⟨⟨hr2, e2⟩, rfl⟩
  have x2 : Ext H H2 := x1.trans e2
  refine OpsJ.normA ?_
  repeat' (first
    | refine W1 ?_ | refine Wc ?_ | refine W2c ?_ ?_ | refine Wg ?_ | refine W2 ?_ ?_ | exact Wdead | refine Wlive (fun hb => ?_) | intro _ _ _ _ _ _ _ _ | refine We ?_ | refine Wx ?_ | refine Wt ?_ | refine Wm ?_ | refine W2m ?_ ?_ | refine Wl ?_
    | fail)
  exact ⟨⟨tv, _, rfl, List.getElem_mem hj, hr2, x2⟩, rfl⟩
theorem pickN (m : HouseM) (s1 s2 s3 : Value) (w : Int) (hS : checkS m = 0) (hT : hasS m = false) (hm : HouseIs H m s1 s2 s3) : CallJ Try.prog E 62 [hv m s1 s2 s3, .int .u16 w] (fun v H' g' => (v = .tuple #[.slice none 0 0, .bool false] ∧ Ext H H') ∧ g' = g) H g := by
  have hok := hm.cells
  have hG := good_of hS
  unfold hv
  refine CallJ.enter Try.func62 rfl (by simp only [Try.ntmps62, List.length_cons, List.length_nil, Nat.zero_add, Nat.reduceAdd, Nat.reduceSub, List.replicate_succ, List.replicate_zero, List.cons_append, List.nil_append]; rfl) ?_
  repeat' (first
    | refine W1 ?_ | refine Wc ?_ | refine W2c ?_ ?_ | refine Wg ?_ | refine W2 ?_ ?_ | exact Wdead | refine Wlive (fun hb => ?_) | intro _ _ _ _ _ _ _ _ | refine We ?_ | refine Wx ?_ | refine Wt ?_ | refine Wm ?_ | refine W2m ?_ ?_ | refine Wl ?_
    | fail)
  refine st_call rfl (Truths_spec E _ _ m s1 s2 s3 (hm.ext extA) hG) ?_
  rintro lv H1 g1 ⟨⟨hL, e1⟩, rfl⟩
  have x1 : Ext H H1 := Ext.trans extA e1
  obtain ⟨vs, hvs, hvl, hin⟩ := hL
  have hne : vs.length = 0 := by rw [hvl, (ref_ne hG).2 hT]; rfl
  refine OpsJ.normA ?_
  repeat' (first
    | refine W1 ?_ | refine Wc ?_ | refine W2c ?_ ?_ | refine Wg ?_ | refine W2 ?_ ?_ | exact Wdead | refine Wlive (fun hb => ?_) | intro _ _ _ _ _ _ _ _ | refine We ?_ | refine Wx ?_ | refine Wt ?_ | refine Wm ?_ | refine W2m ?_ ?_ | refine Wl ?_
    | fail)
  exact ⟨⟨rfl, x1⟩, rfl⟩
end
end Go.Proofs.Ytehobnpoeodhkaa
