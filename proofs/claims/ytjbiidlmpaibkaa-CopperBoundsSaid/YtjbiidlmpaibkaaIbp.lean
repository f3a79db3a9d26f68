import Derived.Test.YtjbiidlmpaibkaaU6
namespace Go.Proofs.Ytjbiidlmpaibkaa
open Go Go.Abs Go.Proofs
set_option maxHeartbeats 1600000
attribute [local irreducible] CallJ OpsJ WPJ CallV MonoJ SpecJ
def withCW (m : CopM) (cl wl : List Int) : CopM := { m with coal := cl, want := wl }
theorem pad5_getD (l : List Int) {j : Nat} (hj : j < 5) : (pad5 l).getD j 0 = l.getD j 0 := by
  unfold pad5 arr5
  rw [List.getD_eq_getElem?_getD, List.getElem?_map, List.getElem?_range hj]
  simp only [Option.map_some, Option.getD_some]
  split
  · rfl
  · rename_i h
    rw [List.getD_eq_getElem?_getD, List.getElem?_eq_none (by omega)]; rfl
section
variable {γ : Type} (E : Env γ)
theorem HeatLeft (m : CopM) (s1 s2 s3 s4 tl cs ws : Value) (h : Int) (ls cl wl : List Int) (hok : (ccells m s1 s2 s3 s4).all cellOk = true) (hW : WOk (withCW m cl wl)) (hT : TOk h (pad5 ls)) (hll : ls.length = hrs m) : ∀ (j : Nat), j < hrs m →
    (∀ (g : γ) (H : AHeap), RdS H tl 1 (encI ls) → RdS H cs 1 (encI cl) → RdS H ws 1 (encI wl) → CallJ Try.prog E 86 [cv m s1 s2 s3 s4, .agg ⟨[.int .i64 h, tl]⟩, cs, ws, .int .i64 j] (fun v H' g' => v = .int .i64 (heatS (withCW m cl wl) h (pad5 ls) j) ∧ H' = H ∧ g' = g) H g) ∧
    (∀ (g : γ) (H : AHeap), RdS H tl 1 (encI ls) → RdS H cs 1 (encI cl) → RdS H ws 1 (encI wl) → CallJ Try.prog E 30 [cv m s1 s2 s3 s4, .agg ⟨[.int .i64 h, tl]⟩, cs, ws, .int .i64 j] (fun v H' g' => v = .int .i64 (leftS (withCW m cl wl) h (pad5 ls) j) ∧ H' = H ∧ g' = g) H g) := by
  have hn5 : hrs m ≤ 5 := (hrs_le hW).1
  have hcl : cl.length = hrs m := hW.cl
  have hwl : wl.length = hrs m := hW.wl
  have hmost := hW.most
  have hper := hW.per
  have hst := hW.start
  unfold withCW at hmost hper hst
  simp only at hmost hper hst
  have step : ∀ (j : Nat), j < hrs m → ∀ (x : Int), 0 ≤ x → x ≤ m.most → (j = 0 → x = m.start) → x = leftsS (withCW m cl wl) h (pad5 ls) j →
      (0 < j → ∀ (g : γ) (H : AHeap), RdS H tl 1 (encI ls) → RdS H cs 1 (encI cl) → RdS H ws 1 (encI wl) → CallJ Try.prog E 30 [cv m s1 s2 s3 s4, .agg ⟨[.int .i64 h, tl]⟩, cs, ws, .int .i64 ((j : Int) - 1)] (fun v H' g' => v = .int .i64 x ∧ H' = H ∧ g' = g) H g) →
      ∀ (g : γ) (H : AHeap), RdS H tl 1 (encI ls) → RdS H cs 1 (encI cl) → RdS H ws 1 (encI wl) → CallJ Try.prog E 86 [cv m s1 s2 s3 s4, .agg ⟨[.int .i64 h, tl]⟩, cs, ws, .int .i64 j] (fun v H' g' => v = .int .i64 (heatS (withCW m cl wl) h (pad5 ls) j) ∧ H' = H ∧ g' = g) H g := by
    intro j hj x hx0 hxm hxs hxe hcall g H hr1 hr2 hr3
    have hres : heatS (withCW m cl wl) h (pad5 ls) j = max (min (x + h * cl[j]) m.most - ls[j]) 0 := by
      unfold heatS heatF
      rw [← hxe, pad5_getD ls (by omega)]
      unfold withCW
      simp only [List.getD, List.getElem?_eq_getElem (show j < cl.length by omega), List.getElem?_eq_getElem (show j < ls.length by omega), Option.getD_some]
    have hec : (encI cl)[(j : Int).toNat]? = some [.int .i64 cl[j]] := by simp [hcl, hj]
    have hel : (encI ls)[(j : Int).toNat]? = some [.int .i64 ls[j]] := by simp [hll, hj]
    have hcb := hW.c3 cl[j] (List.getElem_mem _)
    have hlb : 0 ≤ ls[j] ∧ ls[j] ≤ 99 := by
      have := getD_bd hT.l (by omega) j
      rw [pad5_getD ls (by omega)] at this
      simpa [List.getD, List.getElem?_eq_getElem (show j < ls.length by omega)] using this
    have hhb := hT.h
    have hokt : [Value.int .i64 h, tl].all cellOk = true := by
      obtain ⟨a, b, c, rfl⟩ := RdS.shape hr1; rfl
    rw [hres]
    generalize cl[j] = c at *
    generalize ls[j] = l at *
    have hhc : 0 ≤ h * c ∧ h * c ≤ 99 * 3 := ⟨Int.mul_nonneg hhb.1 hcb.1, Int.mul_le_mul hhb.2 hcb.2 (by omega) (by omega)⟩
    have hhc2 : c * h = h * c := Int.mul_comm _ _
    refine CallJ.tidy ?_
    unfold cv
    rcases Nat.eq_zero_or_pos j with h0 | h0
    · have hx := hxs h0
      subst hx
      refine CallJ.enter Try.func86 rfl (by simp only [Try.ntmps86, List.length_cons, List.length_nil, Nat.zero_add, Nat.reduceAdd, Nat.reduceSub, List.replicate_succ, List.replicate_zero, List.cons_append, List.nil_append]; rfl) ?_
      repeat' (first
        | ((fail_if_success (first | refine is_ucall ?_ | refine is_umcall ?_)); first | refine W1 ?_ | refine Wc ?_ | refine W2c ?_ ?_ | refine Wg ?_ | refine W2 ?_ ?_ | exact Wdead | refine Wlive (fun hb => ?_) | intro _ _ _ _ _ _ _ _ | refine We ?_ | refine Wx ?_ | refine Wt ?_ | refine Wm ?_ | refine W2m ?_ ?_ | refine Wl ?_)
        | fail)
      refine WPJ.draw 20 mixed (by kernel_rfl) (by kernel_rfl) (by kernel_rfl) (by decide) ?_
      refine MonoJ.normA ?_
      repeat' (first
        | ((fail_if_success (first | refine is_ucall ?_ | refine is_umcall ?_)); first | refine W1 ?_ | refine Wc ?_ | refine W2c ?_ ?_ | refine Wg ?_ | refine W2 ?_ ?_ | exact Wdead | refine Wlive (fun hb => ?_) | intro _ _ _ _ _ _ _ _ | refine We ?_ | refine Wx ?_ | refine Wt ?_ | refine Wm ?_ | refine W2m ?_ ?_ | refine Wl ?_)
        | fail)
      refine ⟨?_, rfl, rfl⟩
      show Value.int _ _ = _
      congr 1
      rw [hhc2]
      repeat' split
      all_goals omega
    · have hc := hcall h0
      clear hcall
      refine CallJ.enter Try.func86 rfl (by simp only [Try.ntmps86, List.length_cons, List.length_nil, Nat.zero_add, Nat.reduceAdd, Nat.reduceSub, List.replicate_succ, List.replicate_zero, List.cons_append, List.nil_append]; rfl) ?_
      repeat' (first
        | ((fail_if_success (first | refine is_ucall ?_ | refine is_umcall ?_)); first | refine W1 ?_ | refine Wc ?_ | refine W2c ?_ ?_ | refine Wg ?_ | refine W2 ?_ ?_ | exact Wdead | refine Wlive (fun hb => ?_) | intro _ _ _ _ _ _ _ _ | refine We ?_ | refine Wx ?_ | refine Wt ?_ | refine Wm ?_ | refine W2m ?_ ?_ | refine Wl ?_)
        | fail)
      refine st_callP (h := hc _ _ ?_ ?_ ?_) (k := ?_)
      · exact hr1.ext extA
      · exact hr2.ext extA
      · exact hr3.ext extA
      clear hc
      refine OpsJ.normA ?_
      repeat' (first
        | ((fail_if_success (first | refine is_ucall ?_ | refine is_umcall ?_)); first | refine W1 ?_ | refine Wc ?_ | refine W2c ?_ ?_ | refine Wg ?_ | refine W2 ?_ ?_ | exact Wdead | refine Wlive (fun hb => ?_) | intro _ _ _ _ _ _ _ _ | refine We ?_ | refine Wx ?_ | refine Wt ?_ | refine Wm ?_ | refine W2m ?_ ?_ | refine Wl ?_)
        | fail)
      refine WPJ.draw 20 mixed (by kernel_rfl) (by kernel_rfl) (by kernel_rfl) (by decide) ?_
      refine MonoJ.normA ?_
      repeat' (first
        | ((fail_if_success (first | refine is_ucall ?_ | refine is_umcall ?_)); first | refine W1 ?_ | refine Wc ?_ | refine W2c ?_ ?_ | refine Wg ?_ | refine W2 ?_ ?_ | exact Wdead | refine Wlive (fun hb => ?_) | intro _ _ _ _ _ _ _ _ | refine We ?_ | refine Wx ?_ | refine Wt ?_ | refine Wm ?_ | refine W2m ?_ ?_ | refine Wl ?_)
        | fail)
      refine ⟨?_, rfl, rfl⟩
      show Value.int _ _ = _
      congr 1
      rw [hhc2]
      repeat' split
      all_goals omega
  have stepL : ∀ (j : Nat), j < hrs m → (∀ (g : γ) (H : AHeap), RdS H tl 1 (encI ls) → RdS H cs 1 (encI cl) → RdS H ws 1 (encI wl) → CallJ Try.prog E 86 [cv m s1 s2 s3 s4, .agg ⟨[.int .i64 h, tl]⟩, cs, ws, .int .i64 j] (fun v H' g' => v = .int .i64 (heatS (withCW m cl wl) h (pad5 ls) j) ∧ H' = H ∧ g' = g) H g) →
      ∀ (g : γ) (H : AHeap), RdS H tl 1 (encI ls) → RdS H cs 1 (encI cl) → RdS H ws 1 (encI wl) → CallJ Try.prog E 30 [cv m s1 s2 s3 s4, .agg ⟨[.int .i64 h, tl]⟩, cs, ws, .int .i64 j] (fun v H' g' => v = .int .i64 (leftS (withCW m cl wl) h (pad5 ls) j) ∧ H' = H ∧ g' = g) H g := by
    intro j hj hheat g H hr1 hr2 hr3
    have hokt : [Value.int .i64 h, tl].all cellOk = true := by
      obtain ⟨a, b, c, rfl⟩ := RdS.shape hr1; rfl
    have hb := heatS_bd hW hT j
    have hew : (encI wl)[(j : Int).toNat]? = some [.int .i64 wl[j]] := by simp [hwl, hj]
    have hwb := hW.w40 wl[j] (List.getElem_mem _)
    have hres : leftS (withCW m cl wl) h (pad5 ls) j = if wl[j] ≤ heatS (withCW m cl wl) h (pad5 ls) j / m.per then heatS (withCW m cl wl) h (pad5 ls) j - m.per * wl[j] else 0 := by
      show leftF _ j _ = _
      unfold leftF
      unfold withCW
      simp only [List.getD, List.getElem?_eq_getElem (show j < wl.length by omega), Option.getD_some]
      rfl
    rw [hres]
    unfold withCW at hb
    simp only at hb
    have hb2 : 0 ≤ heatS (withCW m cl wl) h (pad5 ls) j ∧ heatS (withCW m cl wl) h (pad5 ls) j ≤ m.most := hb
    clear hb
    generalize heatS (withCW m cl wl) h (pad5 ls) j = x at *
    generalize wl[j] = w at *
    have hpw : 0 ≤ m.per * w ∧ m.per * w ≤ 20 * 1000 := ⟨Int.mul_nonneg (by omega) hwb.1, Int.mul_le_mul hper.2 hwb.2 (by omega) (by omega)⟩
    have htd : x.tdiv m.per = x / m.per := Int.tdiv_eq_ediv_of_nonneg hb2.1
    have hdb : 0 ≤ x / m.per ∧ x / m.per ≤ 999 := ⟨Int.ediv_nonneg hb2.1 (by omega), by have := Int.ediv_le_self m.per hb2.1; omega⟩
    have hne : m.per ≠ 0 := by omega
    have hwq : IntKind.i64.wrap (x.tdiv m.per) = x / m.per := by rw [htd, wrap64_eq ⟨by omega, by omega⟩]
    refine CallJ.tidy ?_
    unfold cv
    refine CallJ.enter Try.func30 rfl (by simp only [Try.ntmps30, List.length_cons, List.length_nil, Nat.zero_add, Nat.reduceAdd, Nat.reduceSub, List.replicate_succ, List.replicate_zero, List.cons_append, List.nil_append]; rfl) ?_
    repeat' (first
      | ((fail_if_success (first | refine is_ucall ?_ | refine is_umcall ?_)); first | refine W1 ?_ | refine Wc ?_ | refine W2c ?_ ?_ | refine Wg ?_ | refine W2 ?_ ?_ | exact Wdead | refine Wlive (fun hb => ?_) | intro _ _ _ _ _ _ _ _ | refine We ?_ | refine Wx ?_ | refine Wt ?_ | refine Wm ?_ | refine W2m ?_ ?_ | refine Wl ?_)
      | fail)
    refine st_callP (h := hheat _ _ ?_ ?_ ?_) (k := ?_)
    · exact hr1.ext extA
    · exact hr2.ext extA
    · exact hr3.ext extA
    clear hheat
    refine OpsJ.normA ?_
    repeat' (first
      | ((fail_if_success (first | refine is_ucall ?_ | refine is_umcall ?_)); first | refine W1 ?_ | refine Wc ?_ | refine W2c ?_ ?_ | refine Wg ?_ | refine W2 ?_ ?_ | exact Wdead | refine Wlive (fun hb => ?_) | intro _ _ _ _ _ _ _ _ | refine We ?_ | refine Wx ?_ | refine Wt ?_ | refine Wm ?_ | refine W2m ?_ ?_ | refine Wl ?_)
      | fail)
    refine WPJ.draw 9 mixed (by kernel_rfl) (by kernel_rfl) (by kernel_rfl) (by decide) ?_
    refine MonoJ.normA ?_
    repeat' (first
      | ((fail_if_success (first | refine is_ucall ?_ | refine is_umcall ?_)); first | refine W1 ?_ | refine Wc ?_ | refine W2c ?_ ?_ | refine Wg ?_ | refine W2 ?_ ?_ | exact Wdead | refine Wlive (fun hb => ?_) | intro _ _ _ _ _ _ _ _ | refine We ?_ | refine Wx ?_ | refine Wt ?_ | refine Wm ?_ | refine W2m ?_ ?_ | refine Wl ?_)
      | fail)
    · rw [hwq] at hb
      rw [if_neg (by omega)]; exact ⟨rfl, rfl, rfl⟩
    · rw [hwq] at hb
      clear htd hdb hwq
      refine WPJ.draw 10 mixed (by kernel_rfl) (by kernel_rfl) (by kernel_rfl) (by decide) ?_
      refine MonoJ.normA ?_
      repeat' (first
        | ((fail_if_success (first | refine is_ucall ?_ | refine is_umcall ?_)); first | refine W1 ?_ | refine Wc ?_ | refine W2c ?_ ?_ | refine Wg ?_ | refine W2 ?_ ?_ | exact Wdead | refine Wlive (fun hb => ?_) | intro _ _ _ _ _ _ _ _ | refine We ?_ | refine Wx ?_ | refine Wt ?_ | refine Wm ?_ | refine W2m ?_ ?_ | refine Wl ?_)
        | fail)
      rw [if_pos hb]; exact ⟨rfl, rfl, rfl⟩
  intro j
  induction j with
  | zero =>
    intro hj
    have hH := step 0 hj m.start hst.1 hst.2 (fun _ => rfl) rfl (fun h => absurd h (Nat.lt_irrefl 0))
    exact ⟨hH, stepL 0 hj hH⟩
  | succ j ih =>
    intro hj
    have hL := (ih (by omega)).2
    have hlb := lefts_bd hW hT (j + 1)
    have hH := step (j + 1) hj (leftsS (withCW m cl wl) h (pad5 ls) (j + 1)) hlb.1 hlb.2 (fun h => absurd h (Nat.succ_ne_zero j)) rfl (fun _ g H h1 h2 h3 => by
      rw [show (((j + 1 : Nat) : Int) - 1) = (j : Int) by omega]
      exact hL g H h1 h2 h3)
    exact ⟨hH, stepL (j + 1) hj hH⟩
end
end Go.Proofs.Ytjbiidlmpaibkaa
