import Derived.Test.YtjbiidlmpaibkaaIbp
namespace Go.Proofs.Ytjbiidlmpaibkaa
open Go Go.Abs Go.Proofs
set_option maxHeartbeats 1600000
attribute [local irreducible] CallJ OpsJ WPJ CallV MonoJ SpecJ
theorem hot_bd {q : CopM} {h : Int} {ls : List Int} (hW : WOk q) (hT : TOk h ls) (j : Nat) : 0 ≤ hotS q h ls j ∧ hotS q h ls j ≤ 999 := by
  have hb := heatS_bd hW hT j
  have hp := hW.per
  have hm := hW.most
  unfold hotS
  refine ⟨Int.ediv_nonneg hb.1 (by omega), ?_⟩
  have := Int.ediv_le_self q.per hb.1
  omega
theorem withCW_self (m : CopM) : withCW m m.coal m.want = m := rfl
section
variable {γ : Type} (E : Env γ) (g : γ) (H : AHeap)
theorem Is_spec (n : Int) (r : Int × Int) : CallJ Try.prog E 85 [.int .i64 n, .agg ⟨encR r⟩] (fun v H' g' => v = .bool (inR r.1 r.2 n) ∧ H' = H ∧ g' = g) H g := by
  refine CallJ.tidy ?_
  unfold encR
  refine CallJ.enter Try.func85 rfl (by simp only [Try.ntmps85, List.length_cons, List.length_nil, Nat.zero_add, Nat.reduceAdd, Nat.reduceSub, List.replicate_succ, List.replicate_zero, List.cons_append, List.nil_append]; rfl) ?_
  repeat' (first
    | ((fail_if_success (first | refine is_ucall ?_ | refine is_umcall ?_)); first | refine W1 ?_ | refine Wc ?_ | refine W2c ?_ ?_ | refine Wg ?_ | refine W2 ?_ ?_ | exact Wdead | refine Wlive (fun hb => ?_) | intro _ _ _ _ _ _ _ _ | refine We ?_ | refine Wx ?_ | refine Wt ?_ | refine Wm ?_ | refine W2m ?_ ?_ | refine Wl ?_)
    | fail)
  refine st_callP (h := In_spec _ _ _ n r.1 r.2) (k := ?_)
  refine OpsJ.normA ?_
  repeat' (first
    | ((fail_if_success (first | refine is_ucall ?_ | refine is_umcall ?_)); first | refine W1 ?_ | refine Wc ?_ | refine W2c ?_ ?_ | refine Wg ?_ | refine W2 ?_ ?_ | exact Wdead | refine Wlive (fun hb => ?_) | intro _ _ _ _ _ _ _ _ | refine We ?_ | refine Wx ?_ | refine Wt ?_ | refine Wm ?_ | refine W2m ?_ ?_ | refine Wl ?_)
    | fail)
  exact ⟨rfl, rfl, rfl⟩
theorem Hot_spec (m : CopM) (s1 s2 s3 s4 tl cs ws : Value) (h : Int) (ls cl wl : List Int) (hok : (ccells m s1 s2 s3 s4).all cellOk = true) (hW : WOk (withCW m cl wl)) (hT : TOk h (pad5 ls)) (hll : ls.length = hrs m) (j : Nat) (hj : j < hrs m)
    (hr1 : RdS H tl 1 (encI ls)) (hr2 : RdS H cs 1 (encI cl)) (hr3 : RdS H ws 1 (encI wl)) : CallJ Try.prog E 29 [cv m s1 s2 s3 s4, .agg ⟨[.int .i64 h, tl]⟩, cs, ws, .int .i64 j] (fun v H' g' => v = .int .i64 (hotS (withCW m cl wl) h (pad5 ls) j) ∧ H' = H ∧ g' = g) H g := by
  have hokt : [Value.int .i64 h, tl].all cellOk = true := by
    obtain ⟨a, b, c, rfl⟩ := RdS.shape hr1; rfl
  have hb := heatS_bd hW hT j
  have hper := hW.per
  have hmost := hW.most
  unfold withCW at hper hmost
  simp only at hper hmost
  have hb2 : 0 ≤ heatS (withCW m cl wl) h (pad5 ls) j ∧ heatS (withCW m cl wl) h (pad5 ls) j ≤ m.most := hb
  have hres : hotS (withCW m cl wl) h (pad5 ls) j = heatS (withCW m cl wl) h (pad5 ls) j / m.per := rfl
  have hcall := fun (g' : Unit) (H' : AHeap) => (HeatLeft trivE m s1 s2 s3 s4 tl cs ws h ls cl wl hok hW hT hll j hj).1 g' H'
  rw [hres]
  clear hb
  generalize heatS (withCW m cl wl) h (pad5 ls) j = x at *
  have htd : x.tdiv m.per = x / m.per := Int.tdiv_eq_ediv_of_nonneg hb2.1
  have hdb : 0 ≤ x / m.per ∧ x / m.per ≤ 999 := ⟨Int.ediv_nonneg hb2.1 (by omega), by have := Int.ediv_le_self m.per hb2.1; omega⟩
  have hne : m.per ≠ 0 := by omega
  have hwq : IntKind.i64.wrap (x.tdiv m.per) = x / m.per := by rw [htd, wrap64_eq ⟨by omega, by omega⟩]
  refine CallJ.tidy ?_
  unfold cv
  refine CallJ.enter Try.func29 rfl (by simp only [Try.ntmps29, List.length_cons, List.length_nil, Nat.zero_add, Nat.reduceAdd, Nat.reduceSub, List.replicate_succ, List.replicate_zero, List.cons_append, List.nil_append]; rfl) ?_
  repeat' (first
    | ((fail_if_success (first | refine is_ucall ?_ | refine is_umcall ?_)); first | refine W1 ?_ | refine Wc ?_ | refine W2c ?_ ?_ | refine Wg ?_ | refine W2 ?_ ?_ | exact Wdead | refine Wlive (fun hb => ?_) | intro _ _ _ _ _ _ _ _ | refine We ?_ | refine Wx ?_ | refine Wt ?_ | refine Wm ?_ | refine W2m ?_ ?_ | refine Wl ?_)
    | fail)
  refine WPJ.draw 10 mixed (by kernel_rfl) (by kernel_rfl) (by kernel_rfl) (by decide) ?_
  refine MonoJ.normA ?_
  repeat' (first
    | ((fail_if_success (first | refine is_ucall ?_ | refine is_umcall ?_)); first | refine W1 ?_ | refine Wc ?_ | refine W2c ?_ ?_ | refine Wg ?_ | refine W2 ?_ ?_ | exact Wdead | refine Wlive (fun hb => ?_) | intro _ _ _ _ _ _ _ _ | refine We ?_ | refine Wx ?_ | refine Wt ?_ | refine Wm ?_ | refine W2m ?_ ?_ | refine Wl ?_)
    | fail)
  refine mj_callP (h := hcall _ _ ?_ ?_ ?_) (k := ?_)
  · exact hr1.ext extA
  · exact hr2.ext extA
  · exact hr3.ext extA
  clear hcall
  refine MonoJ.normA ?_
  repeat' (first
    | ((fail_if_success (first | refine is_ucall ?_ | refine is_umcall ?_)); first | refine W1 ?_ | refine Wc ?_ | refine W2c ?_ ?_ | refine Wg ?_ | refine W2 ?_ ?_ | exact Wdead | refine Wlive (fun hb => ?_) | intro _ _ _ _ _ _ _ _ | refine We ?_ | refine Wx ?_ | refine Wt ?_ | refine Wm ?_ | refine W2m ?_ ?_ | refine Wl ?_)
    | fail)
  rw [hwq]
  exact ⟨rfl, rfl, rfl⟩
end
end Go.Proofs.Ytjbiidlmpaibkaa
