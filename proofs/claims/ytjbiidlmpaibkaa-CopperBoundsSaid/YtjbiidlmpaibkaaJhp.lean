import Derived.Test.YtjbiidlmpaibkaaJip
import Derived.Test.YtjbiidlmpaibkaaIpp
import Derived.Test.YtjbiidlmpaibkaaGxp
import Derived.Test.YtjbiidlmpaibkaaGyp
namespace Go.Proofs.Ytjbiidlmpaibkaa
open Go Go.Abs Go.Proofs
set_option maxHeartbeats 8000000
set_option maxRecDepth 20000
attribute [local irreducible] CallJ OpsJ WPJ CallV MonoJ SpecJ VarJ VK VP VQ AllV
section
variable {γ : Type} (E : Env γ) (g : γ) (H : AHeap)
theorem Empty_spec : CallJ Try.prog E 91 [] (fun v H' g' => v = .agg ⟨encR (1099511627776, -1)⟩ ∧ H' = H ∧ g' = g) H g := by
  refine CallJ.tidy ?_
  refine CallJ.enter Try.func91 rfl (by simp only [Try.ntmps91, List.length_nil, Nat.reduceSub, List.replicate_succ, List.replicate_zero, List.nil_append]; rfl) ?_
  repeat' (first
    | ((fail_if_success (first | refine is_ucall ?_ | refine is_umcall ?_)); first | refine W1 ?_ | refine Wc ?_ | refine W2c ?_ ?_ | refine Wg ?_ | refine W2 ?_ ?_ | exact Wdead | refine Wlive (fun hb => ?_) | intro _ _ _ _ _ _ _ _ | refine We ?_ | refine Wx ?_ | refine Wt ?_ | refine Wm ?_ | refine W2m ?_ ?_ | refine Wl ?_)
    | fail)
  exact ⟨rfl, rfl, rfl⟩
theorem Wider_spec (r : Int × Int) (n : Int) : CallJ Try.prog E 92 [.agg ⟨encR r⟩, .int .i64 n] (fun v H' g' => v = .agg ⟨encR (min r.1 n, max r.2 n)⟩ ∧ H' = H ∧ g' = g) H g := by
  have e1 : min r.1 n = if n < r.1 then n else r.1 := by omega
  have e2 : max r.2 n = if n > r.2 then n else r.2 := by omega
  rw [e1, e2]
  refine CallJ.tidy ?_
  unfold encR
  refine CallJ.enter Try.func92 rfl (by simp only [Try.ntmps92, List.length_cons, List.length_nil, Nat.zero_add, Nat.reduceAdd, Nat.reduceSub, List.replicate_succ, List.replicate_zero, List.cons_append, List.nil_append]; rfl) ?_
  repeat' (first
    | ((fail_if_success (first | refine is_ucall ?_ | refine is_umcall ?_)); first | refine W1 ?_ | refine Wc ?_ | refine W2c ?_ ?_ | refine Wg ?_ | refine W2 ?_ ?_ | exact Wdead | refine Wlive (fun hb => ?_) | intro _ _ _ _ _ _ _ _ | refine We ?_ | refine Wx ?_ | refine Wt ?_ | refine Wm ?_ | refine W2m ?_ ?_ | refine Wl ?_)
    | fail)
  exact ⟨rfl, rfl, rfl⟩
def loR (l : List TM) (q : TM → Int) : Int := (l.map q).foldl min 1099511627776
def hiR (l : List TM) (q : TM → Int) : Int := (l.map q).foldl max (-1)
theorem loR_snoc (l : List TM) (q : TM → Int) (t : TM) : loR (l ++ [t]) q = min (loR l q) (q t) := by simp [loR]
theorem hiR_snoc (l : List TM) (q : TM → Int) (t : TM) : hiR (l ++ [t]) q = max (hiR l q) (q t) := by simp [hiR]
theorem boundsR_eq {m : CopM} (hG : Good m) (hs : hasS m = true) (q : TM → Nat → Int) (k : Nat) (hb : ∀ t ∈ truthsL m, 0 ≤ q t k ∧ q t k ≤ 999) :
    (loR (truR m (manyS m).toNat) (fun t => q (padT t) k), hiR (truR m (manyS m).toNat) (fun t => q (padT t) k)) = bdS m q k := by
  obtain ⟨t0, h0⟩ := some_truth hs
  have hm : ∀ y, y ∈ (truthsL m).map (fun t => q t k) ↔ y ∈ (truR m (manyS m).toNat).map fun t => q (padT t) k := by
    intro y
    simp only [List.mem_map]
    constructor
    · rintro ⟨t, ht, rfl⟩
      obtain ⟨s, hs, rfl⟩ := truR_sur hG ht
      exact ⟨s, hs, rfl⟩
    · rintro ⟨s, hs, rfl⟩
      exact ⟨_, (truR_mem hG hs).1, rfl⟩
  have hy : ∀ y ∈ (truthsL m).map (fun t => q t k), 0 ≤ y ∧ y ≤ 999 := fun y h => by obtain ⟨t, ht, rfl⟩ := List.mem_map.1 h; exact hb t ht
  have h1 := List.mem_map_of_mem (f := fun t => q t k) h0
  unfold bdS loR hiR loS hiS
  rw [fmin_same h1 hm (a := 9223372036854775807) (b := 1099511627776) (fun y h => by have := hy y h; omega) (fun y h => by have := hy y h; omega),
    fmax_same h1 hm (a := -9223372036854775808) (b := -1) (fun y h => by have := hy y h; omega) (fun y h => by have := hy y h; omega)]
theorem BoundsR_spec (m : CopM) (s1 s2 s3 s4 lv : Value) (ts : List (Int × List Int)) (hm : CopY H m s1 s2 s3 s4) (hG : Good m) (hl : TrL H lv ts) (hts : ∀ t ∈ ts, t.2.length = hrs m ∧ TOk t.1 (pad5 t.2)) (hn : ts.length ≤ 3000) (j : Nat) (hj : j < hrs m) :
    CallJ Try.prog E 33 [cv m s1 s2 s3 s4, lv, .int .i64 j] (fun v H' g' => v = .tuple #[.agg ⟨encR (loR ts fun t => hotQ m (padT t) j, hiR ts fun t => hotQ m (padT t) j)⟩, .agg ⟨encR (loR ts fun t => leftQ m (padT t) j, hiR ts fun t => leftQ m (padT t) j)⟩] ∧ H' = H ∧ g' = g) H g := by
  have hok := hm.cells
  have hr1 := hm.coal
  have hrw := hm.want
  have hlc : cellOk lv = true := by obtain ⟨tv, hr, _⟩ := hl; obtain ⟨a, b, c, rfl⟩ := RdS.shape hr; rfl
  obtain ⟨tw, hr2, htl, hrow⟩ := hl
  refine CallJ.tidy ?_
  unfold cv
  refine CallJ.enter Try.func33 rfl (by simp only [Try.ntmps33, List.length_cons, List.length_nil, Nat.zero_add, Nat.reduceAdd, Nat.reduceSub, List.replicate_succ, List.replicate_zero, List.cons_append, List.nil_append]; rfl) ?_
  repeat' (first
    | ((fail_if_success (first | refine is_ucall ?_ | refine is_umcall ?_)); first | refine W1 ?_ | refine Wc ?_ | refine W2c ?_ ?_ | refine Wg ?_ | refine W2 ?_ ?_ | exact Wdead | refine Wlive (fun hb => ?_) | intro _ _ _ _ _ _ _ _ | refine We ?_ | refine Wx ?_ | refine Wt ?_ | refine Wm ?_ | refine W2m ?_ ?_ | refine Wl ?_)
    | fail)
  refine st_callP (h := Empty_spec _ _ _) (k := ?_)
  refine OpsJ.normA ?_
  repeat' (first
    | ((fail_if_success (first | refine is_ucall ?_ | refine is_umcall ?_)); first | refine W1 ?_ | refine Wc ?_ | refine W2c ?_ ?_ | refine Wg ?_ | refine W2 ?_ ?_ | exact Wdead | refine Wlive (fun hb => ?_) | intro _ _ _ _ _ _ _ _ | refine We ?_ | refine Wx ?_ | refine Wt ?_ | refine Wm ?_ | refine W2m ?_ ?_ | refine Wl ?_)
    | fail)
  refine st_callP (h := Empty_spec _ _ _) (k := ?_)
  refine OpsJ.normA ?_
  repeat' (first
    | ((fail_if_success (first | refine is_ucall ?_ | refine is_umcall ?_)); first | refine W1 ?_ | refine Wc ?_ | refine W2c ?_ ?_ | refine Wg ?_ | refine W2 ?_ ?_ | exact Wdead | refine Wlive (fun hb => ?_) | intro _ _ _ _ _ _ _ _ | refine We ?_ | refine Wx ?_ | refine Wt ?_ | refine Wm ?_ | refine W2m ?_ ?_ | refine Wl ?_)
    | fail)
  refine WPJ.loopT ts.length [13, 14, 15, 16, 19, 20, 21, 22, 23, 24, 25, 26, 27, 28, 29, 30, 31, 32, 33, 34, 35, 36, 37, 38, 39, 40, 41, 42, 43, 44, 17, 18] (fun i (_ : Unit) => [(10, .int .i64 i)])
    (fun i _ H5 g5 => g5 = g ∧ Ext H H5 ∧ H5[H.length]? = some (.row (ccells m s1 s2 s3 s4) 1 true) ∧ (∃ c1 c2, c1.length = 2 ∧ c2.length = 2 ∧ H5[H.length + 1]? = some (.row c1 1 true) ∧ H5[H.length + 2]? = some (.row c2 1 true)) ∧
      H5[H.length + 3]? = some (.row (encR (loR (ts.take i) fun t => hotQ m (padT t) j, hiR (ts.take i) fun t => hotQ m (padT t) j)) 1 true) ∧ H5[H.length + 4]? = some (.row (encR (loR (ts.take i) fun t => leftQ m (padT t) j, hiR (ts.take i) fun t => leftQ m (padT t) j)) 1 true) ∧ H.length + 5 ≤ H5.length) 0 () (Nat.zero_le _)
    (by intro p hp; simp at hp; rcases hp with rfl; rfl) ⟨rfl, extA, getA, ⟨_, _, ?_, ?_, getA, getA⟩, getA, getA, by simp⟩ ?_
  · rfl
  · rfl
  rintro i _ H5 g5 hi ⟨rfl, e5, hb0, ⟨c1, c2, hc1, hc2, hb1, hb2⟩, hb3, hb4, hlen⟩ hl1
  simp only [updT, maskT, List.set_cons_zero, List.set_cons_succ]
  rcases Nat.lt_or_ge i ts.length with hlt | hge
  · obtain ⟨r1, r2⟩ := hrow i (by omega) hlt
    obtain ⟨y1, y2⟩ := hts _ (List.getElem_mem hlt)
    have hel : (tw.map encV)[(i : Int).toNat]? = some [.int .i64 ts[i].1, tw[i].2] := by simp [show i < tw.length by omega, encV, r1]
    have hHot : ∀ (g' : Unit) (H' : AHeap), Ext H H' → CallJ Try.prog trivE 29 [cv m s1 s2 s3 s4, .agg ⟨[.int .i64 ts[i].1, tw[i].2]⟩, s1, s2, .int .i64 j] (fun v H2 g2 => v = .int .i64 (hotQ m (padT ts[i]) j) ∧ H2 = H' ∧ g2 = g') H' g' := fun g' H' ee => by
      have := Hot_spec trivE g' H' m s1 s2 s3 s4 tw[i].2 s1 s2 ts[i].1 ts[i].2 m.coal m.want hok hG.w y2 y1 j hj (r2.ext ee) (hr1.ext ee) (hrw.ext ee)
      rw [withCW_self] at this
      exact this
    have hLeft : ∀ (g' : Unit) (H' : AHeap), Ext H H' → CallJ Try.prog trivE 30 [cv m s1 s2 s3 s4, .agg ⟨[.int .i64 ts[i].1, tw[i].2]⟩, s1, s2, .int .i64 j] (fun v H2 g2 => v = .int .i64 (leftQ m (padT ts[i]) j) ∧ H2 = H' ∧ g2 = g') H' g' := fun g' H' ee => by
      have := (HeatLeft trivE m s1 s2 s3 s4 tw[i].2 s1 s2 ts[i].1 ts[i].2 m.coal m.want hok hG.w y2 y1 j hj).2 g' H' (r2.ext ee) (hr1.ext ee) (hrw.ext ee)
      rw [withCW_self] at this
      exact this
    have htk : ts.take (i + 1) = ts.take i ++ [ts[i]] := List.take_succ_eq_append_getElem hlt
    rw [htk, loR_snoc, hiR_snoc, loR_snoc, hiR_snoc]
    generalize hotQ m (padT ts[i]) j = X at *
    generalize leftQ m (padT ts[i]) j = Y at *
    generalize loR (ts.take i) (fun t => hotQ m (padT t) j) = a1 at *
    generalize hiR (ts.take i) (fun t => hotQ m (padT t) j) = a2 at *
    generalize loR (ts.take i) (fun t => leftQ m (padT t) j) = a3 at *
    generalize hiR (ts.take i) (fun t => leftQ m (padT t) j) = a4 at *
    generalize ts[i] = t at *
    generalize tw[i].2 = tl at *
    replace hr2 := hr2.ext e5
    clear hrow r1 hts y1 y2 r2 hr1 hrw htk
    repeat' (first
      | ((fail_if_success (first | refine is_ucall ?_ | refine is_umcall ?_)); first | refine W1 ?_ | refine Wc ?_ | refine W2c ?_ ?_ | refine Wg ?_ | refine W2 ?_ ?_ | exact Wdead | refine Wlive (fun hb => ?_) | intro _ _ _ _ _ _ _ _ | refine We ?_ | refine Wx ?_ | refine Wt ?_ | refine Wm ?_ | refine W2m ?_ ?_ | refine Wl ?_)
      | fail)
    refine WPJ.draw 26 mixed (by kernel_rfl) (by kernel_rfl) (by kernel_rfl) (by decide) ?_
    refine MonoJ.normA ?_
    repeat' (first
      | ((fail_if_success (first | refine is_ucall ?_ | refine is_umcall ?_)); first | refine W1 ?_ | refine Wc ?_ | refine W2c ?_ ?_ | refine Wg ?_ | refine W2 ?_ ?_ | exact Wdead | refine Wlive (fun hb => ?_) | intro _ _ _ _ _ _ _ _ | refine We ?_ | refine Wx ?_ | refine Wt ?_ | refine Wm ?_ | refine W2m ?_ ?_ | refine Wl ?_)
      | fail)
    refine mj_callP (h := hHot _ _ e5) (k := ?_)
    refine MonoJ.normA ?_
    repeat' (first
      | ((fail_if_success (first | refine is_ucall ?_ | refine is_umcall ?_)); first | refine W1 ?_ | refine Wc ?_ | refine W2c ?_ ?_ | refine Wg ?_ | refine W2 ?_ ?_ | exact Wdead | refine Wlive (fun hb => ?_) | intro _ _ _ _ _ _ _ _ | refine We ?_ | refine Wx ?_ | refine Wt ?_ | refine Wm ?_ | refine W2m ?_ ?_ | refine Wl ?_)
      | fail)
    refine mj_callP (h := Wider_spec _ _ _ (a1, a2) X) (k := ?_)
    refine MonoJ.normA ?_
    repeat' (first
      | ((fail_if_success (first | refine is_ucall ?_ | refine is_umcall ?_)); first | refine W1 ?_ | refine Wc ?_ | refine W2c ?_ ?_ | refine Wg ?_ | refine W2 ?_ ?_ | exact Wdead | refine Wlive (fun hb => ?_) | intro _ _ _ _ _ _ _ _ | refine We ?_ | refine Wx ?_ | refine Wt ?_ | refine Wm ?_ | refine W2m ?_ ?_ | refine Wl ?_)
      | fail)
    refine mj_callP (h := hLeft _ _ e5) (k := ?_)
    refine MonoJ.normA ?_
    repeat' (first
      | ((fail_if_success (first | refine is_ucall ?_ | refine is_umcall ?_)); first | refine W1 ?_ | refine Wc ?_ | refine W2c ?_ ?_ | refine Wg ?_ | refine W2 ?_ ?_ | exact Wdead | refine Wlive (fun hb => ?_) | intro _ _ _ _ _ _ _ _ | refine We ?_ | refine Wx ?_ | refine Wt ?_ | refine Wm ?_ | refine W2m ?_ ?_ | refine Wl ?_)
      | fail)
    refine mj_callP (h := Wider_spec _ _ _ (a3, a4) Y) (k := ?_)
    refine MonoJ.normA ?_
    repeat' (first
      | ((fail_if_success (first | refine is_ucall ?_ | refine is_umcall ?_)); first | refine W1 ?_ | refine Wc ?_ | refine W2c ?_ ?_ | refine Wg ?_ | refine W2 ?_ ?_ | exact Wdead | refine Wlive (fun hb => ?_) | intro _ _ _ _ _ _ _ _ | refine We ?_ | refine Wx ?_ | refine Wt ?_ | refine Wm ?_ | refine W2m ?_ ?_ | refine Wl ?_)
      | fail)
    refine ⟨(), hlt, (by repeat' (first | exact Weak.nil | refine Weak.wild ?_ | refine Weak.same ?_ | refine Weak.intEq (by first | omega | (simp; done) | (push_cast; omega)) ?_)), rfl, extA, getA, ⟨c1, c2, hc1, hc2, getA, getA⟩, ?_, ?_, by simp; omega⟩
    · exact getA
    · exact getA
  · obtain rfl : i = ts.length := by omega
    rw [List.take_length] at hb3 hb4
    generalize (loR ts (fun t => hotQ m (padT t) j), hiR ts fun t => hotQ m (padT t) j) = A at *
    generalize (loR ts (fun t => leftQ m (padT t) j), hiR ts fun t => leftQ m (padT t) j) = B at *
    have hsp1 : splice c1 0 (encR A) = encR A := by simp [splice, hc1]
    have hsp2 : splice c2 0 (encR B) = encR B := by simp [splice, hc2]
    repeat' (first
      | ((fail_if_success (first | refine is_ucall ?_ | refine is_umcall ?_)); first | refine W1 ?_ | refine Wc ?_ | refine W2c ?_ ?_ | refine Wg ?_ | refine W2 ?_ ?_ | exact Wdead | refine Wlive (fun hb => ?_) | intro _ _ _ _ _ _ _ _ | refine We ?_ | refine Wx ?_ | refine Wt ?_ | refine Wm ?_ | refine W2m ?_ ?_ | refine Wl ?_)
      | fail)
    refine WPJ.drawV 4 [2, 3] [⟨2, H.length + 1, .row c1 1 true, .row (encR A) 1 true⟩, ⟨3, H.length + 2, .row c2 1 true, .row (encR B) 1 true⟩] [Ph.read [0], Ph.read [0, 1], Ph.turn 0, Ph.turn 1] mixed (by kernel_rfl) (by kernel_rfl) (by kernel_rfl) (by decide) (by kernel_rfl) (by kernel_rfl) (by kernel_rfl) rfl (by repeat' (first | exact trivial | rfl | exact encE_flat _ | assumption | refine And.intro ?_ ?_)) ?_
    refine VarJ.normA ?_
    repeat' (first
      | (with_reducible refine is_vj ?_; first | refine vj_go0 ?_ | refine vj_go1 ?_ | refine vj_go2 ?_ | (refine vj_end1 ?_; refine OpsJ.normA ?_) | (refine vj_end2 ?_; refine OpsJ.normA ?_) | (refine vj_end3 ?_; refine OpsJ.normA ?_))
      | (with_reducible refine is_vk ?_; refine vk0 rfl ?_ ?_)
      | (with_reducible refine is_av ?_; first | exact allv_nil | refine allv_cons ?_ ?_)
      | (with_reducible refine is_vq ?_; first | refine vq1 rfl rfl ?_ | refine vq2 rfl rfl ?_)
      | (with_reducible refine is_vp ?_; exact vp_end)
      | ((fail_if_success (first | refine is_ucall ?_ | refine is_umcall ?_)); first | refine W1 ?_ | refine Wc ?_ | refine W2c ?_ ?_ | refine Wg ?_ | refine W2 ?_ ?_ | exact Wdead | refine Wlive (fun hb => ?_) | intro _ _ _ _ _ _ _ _ | refine We ?_ | refine Wx ?_ | refine Wt ?_ | refine Wm ?_ | refine W2m ?_ ?_ | refine Wl ?_)
      | fail)
    refine vj_store (vs := encR A) rfl rfl rfl rfl rfl rfl getA (by simp; omega) hsp1 ?_
    refine VarJ.normA ?_
    repeat' (first
      | (with_reducible refine is_vj ?_; first | refine vj_go0 ?_ | refine vj_go1 ?_ | refine vj_go2 ?_ | (refine vj_end1 ?_; refine OpsJ.normA ?_) | (refine vj_end2 ?_; refine OpsJ.normA ?_) | (refine vj_end3 ?_; refine OpsJ.normA ?_))
      | (with_reducible refine is_vk ?_; refine vk0 rfl ?_ ?_)
      | (with_reducible refine is_av ?_; first | exact allv_nil | refine allv_cons ?_ ?_)
      | (with_reducible refine is_vq ?_; first | refine vq1 rfl rfl ?_ | refine vq2 rfl rfl ?_)
      | (with_reducible refine is_vp ?_; exact vp_end)
      | ((fail_if_success (first | refine is_ucall ?_ | refine is_umcall ?_)); first | refine W1 ?_ | refine Wc ?_ | refine W2c ?_ ?_ | refine Wg ?_ | refine W2 ?_ ?_ | exact Wdead | refine Wlive (fun hb => ?_) | intro _ _ _ _ _ _ _ _ | refine We ?_ | refine Wx ?_ | refine Wt ?_ | refine Wm ?_ | refine W2m ?_ ?_ | refine Wl ?_)
      | fail)
    refine vj_store (vs := encR B) rfl rfl rfl rfl rfl rfl (by simp only [mutH, List.take_succ_cons, List.take_zero]; exact getA) (by simp; omega) hsp2 ?_
    refine VarJ.normA ?_
    repeat' (first
      | (with_reducible refine is_vj ?_; first | refine vj_go0 ?_ | refine vj_go1 ?_ | refine vj_go2 ?_ | (refine vj_end1 ?_; refine OpsJ.normA ?_) | (refine vj_end2 ?_; refine OpsJ.normA ?_) | (refine vj_end3 ?_; refine OpsJ.normA ?_))
      | (with_reducible refine is_vk ?_; refine vk0 rfl ?_ ?_)
      | (with_reducible refine is_av ?_; first | exact allv_nil | refine allv_cons ?_ ?_)
      | (with_reducible refine is_vq ?_; first | refine vq1 rfl rfl ?_ | refine vq2 rfl rfl ?_)
      | (with_reducible refine is_vp ?_; exact vp_end)
      | ((fail_if_success (first | refine is_ucall ?_ | refine is_umcall ?_)); first | refine W1 ?_ | refine Wc ?_ | refine W2c ?_ ?_ | refine Wg ?_ | refine W2 ?_ ?_ | exact Wdead | refine Wlive (fun hb => ?_) | intro _ _ _ _ _ _ _ _ | refine We ?_ | refine Wx ?_ | refine Wt ?_ | refine Wm ?_ | refine W2m ?_ ?_ | refine Wl ?_)
      | fail)
    refine exitQ_ret (Res.two rfl (RV.cellN (cells := encR A) rfl rfl getA (Nat.le_refl 2) rfl) (RV.cellN (cells := encR B) rfl rfl getA (Nat.le_refl 2) rfl)) ?_
    have hx : Ext H ((List.set H5 (List.length H + 1) (AObj.row (encR A) 1 true)).set (List.length H + 2) (AObj.row (encR B) 1 true)) := extA
    generalize (List.set H5 (List.length H + 1) (AObj.row (encR A) 1 true)).set (List.length H + 2) (AObj.row (encR B) 1 true) = Hz at *
    obtain ⟨L, rfl⟩ := hx
    exact Tidy.none (.tuple2 (.agg rfl) (.agg rfl)) ⟨rfl, rfl, rfl⟩
theorem bounds_law (m : CopM) (s1 s2 s3 s4 : Value) (hm : CopZ H m s1 s2 s3 s4) : CallJ Try.prog E 4 [cv m s1 s2 s3 s4] (fun v H' g' => v = .bool true ∧ H' = H ∧ g' = g) H g := by
  have hok := hm.cells
  refine CallJ.tidy ?_
  unfold cv
  refine CallJ.enter Try.func4 rfl (by simp only [Try.ntmps4, List.length_cons, List.length_nil, Nat.zero_add, Nat.reduceSub, List.replicate_succ, List.replicate_zero, List.cons_append, List.nil_append]; rfl) ?_
  repeat' (first
    | (refine is_ucall ?_; first
      | refine st_callP (h := awake_spec _ _ _) (k := ?_)
      | refine st_callP (h := ThinZ_spec _ _ _ m s1 s2 s3 s4 (hm.ext extA)) (k := ?_)
      | fail)
    | (refine is_umcall ?_; first
      | refine mj_callP (h := awake_spec _ _ _) (k := ?_)
      | refine mj_callP (h := ThinZ_spec _ _ _ m s1 s2 s3 s4 (hm.ext extA)) (k := ?_)
      | fail)
    | ((fail_if_success (first | refine is_ucall ?_ | refine is_umcall ?_)); first | refine W1 ?_ | refine Wc ?_ | refine W2c ?_ ?_ | refine Wg ?_ | refine W2 ?_ ?_ | exact Wdead | refine Wlive (fun hb => ?_) | intro _ _ _ _ _ _ _ _ | refine We ?_ | refine Wx ?_ | refine Wt ?_ | refine Wm ?_ | refine W2m ?_ ?_ | refine Wl ?_)
    | fail)
  · exact ⟨rfl, rfl, rfl⟩
  · have hr : thinS m = true := by assumption
    have hI := hm.is hr
    obtain ⟨k1, k2, k3, k4⟩ := thin_of hr
    refine st_call rfl (Copper_w E _ _ m s1 s2 s3 s4 ?_ (by omega) (by omega)) ?_
    · exact (hI.ext extA).y
    rintro _ H1 g1 ⟨⟨t1, t2, t3, t4, rfl, hm1, e1⟩, rfl⟩
    have hb1 : H1[H.length]? = some (.row (ccells m s1 s2 s3 s4) 1 true) := e1.get getA
    have x1 : Ext H H1 := Ext.trans extA e1
    clear e1
    refine OpsJ.normA ?_
    repeat' (first
      | (refine is_ucall ?_; first
        | refine st_callP (h := awake_spec _ _ _) (k := ?_)
        | refine st_callP (h := ThinZ_spec _ _ _ m s1 s2 s3 s4 (hm.ext extA)) (k := ?_)
        | fail)
      | (refine is_umcall ?_; first
        | refine mj_callP (h := awake_spec _ _ _) (k := ?_)
        | refine mj_callP (h := ThinZ_spec _ _ _ m s1 s2 s3 s4 (hm.ext extA)) (k := ?_)
        | fail)
      | ((fail_if_success (first | refine is_ucall ?_ | refine is_umcall ?_)); first | refine W1 ?_ | refine Wc ?_ | refine W2c ?_ ?_ | refine Wg ?_ | refine W2 ?_ ?_ | exact Wdead | refine Wlive (fun hb => ?_) | intro _ _ _ _ _ _ _ _ | refine We ?_ | refine Wx ?_ | refine Wt ?_ | refine Wm ?_ | refine W2m ?_ ?_ | refine Wl ?_)
      | fail)
    by_cases hz : checkT m = 0
    case neg =>
      refine st_callP (h := BoundsN_spec _ _ _ m t1 t2 t3 t4 hz (hm1.ext extA)) (k := ?_)
      clear hm1
      refine OpsJ.normA ?_
      repeat' (first
        | (refine is_ucall ?_; first
          | refine st_callP (h := awake_spec _ _ _) (k := ?_)
          | refine st_callP (h := ThinZ_spec _ _ _ m s1 s2 s3 s4 (hm.ext extA)) (k := ?_)
          | fail)
        | (refine is_umcall ?_; first
          | refine mj_callP (h := awake_spec _ _ _) (k := ?_)
          | refine mj_callP (h := ThinZ_spec _ _ _ m s1 s2 s3 s4 (hm.ext extA)) (k := ?_)
          | fail)
        | ((fail_if_success (first | refine is_ucall ?_ | refine is_umcall ?_)); first | refine W1 ?_ | refine Wc ?_ | refine W2c ?_ ?_ | refine Wg ?_ | refine W2 ?_ ?_ | exact Wdead | refine Wlive (fun hb => ?_) | intro _ _ _ _ _ _ _ _ | refine We ?_ | refine Wx ?_ | refine Wt ?_ | refine Wm ?_ | refine W2m ?_ ?_ | refine Wl ?_)
        | fail)
      refine st_call rfl (sure_spec E _ _ m s1 s2 s3 s4 (hI.ext x1).y) ?_
      rintro _ H3 g3 ⟨⟨⟨lv, rfl, hl⟩, e3⟩, rfl⟩
      have hb3 := e3.get hb1
      have x3 : Ext H H3 := x1.trans e3
      clear e3 hb1 x1
      refine OpsJ.normA ?_
      repeat' (first
        | (refine is_ucall ?_; first
          | refine st_callP (h := awake_spec _ _ _) (k := ?_)
          | refine st_callP (h := ThinZ_spec _ _ _ m s1 s2 s3 s4 (hm.ext extA)) (k := ?_)
          | fail)
        | (refine is_umcall ?_; first
          | refine mj_callP (h := awake_spec _ _ _) (k := ?_)
          | refine mj_callP (h := ThinZ_spec _ _ _ m s1 s2 s3 s4 (hm.ext extA)) (k := ?_)
          | fail)
        | ((fail_if_success (first | refine is_ucall ?_ | refine is_umcall ?_)); first | refine W1 ?_ | refine Wc ?_ | refine W2c ?_ ?_ | refine Wg ?_ | refine W2 ?_ ?_ | exact Wdead | refine Wlive (fun hb => ?_) | intro _ _ _ _ _ _ _ _ | refine We ?_ | refine Wx ?_ | refine Wt ?_ | refine Wm ?_ | refine W2m ?_ ?_ | refine Wl ?_)
        | fail)
      all_goals first | exact ⟨rfl, rfl, rfl⟩ | exact absurd trivial (by assumption) | exact absurd rfl (by assumption) | trace_state
    case pos =>
      have hz0 := checkT_zero hz
      have hG := good_of hz0
      have hs : hasS m = true := by
        have := checkT_good hG
        rw [hz] at this
        cases hh : hasS m with
        | true => rfl
        | false => rw [hh] at this; cases this
      obtain ⟨hn5, hnl⟩ := hrs_le hG.w
      have hAl := hotB_len m
      have hBl := leftB_len m
      have hM : (truR m (manyS m).toNat).length ≤ 3000 := by have := manyS_eq m; have := truR_len m (manyS m).toNat; omega
      refine st_call rfl (BoundsQ_spec E _ _ m t1 t2 t3 t4 hz hm1) ?_
      rintro _ H2 g2 ⟨⟨av, bv, rfl, hav, hbv, e2⟩, rfl⟩
      have hb2 := e2.get hb1
      have x2 := x1.trans e2
      clear e2 hb1 x1 hm1
      refine OpsJ.normA ?_
      repeat' (first
        | (refine is_ucall ?_; first
          | refine st_callP (h := awake_spec _ _ _) (k := ?_)
          | refine st_callP (h := ThinZ_spec _ _ _ m s1 s2 s3 s4 (hm.ext extA)) (k := ?_)
          | fail)
        | (refine is_umcall ?_; first
          | refine mj_callP (h := awake_spec _ _ _) (k := ?_)
          | refine mj_callP (h := ThinZ_spec _ _ _ m s1 s2 s3 s4 (hm.ext extA)) (k := ?_)
          | fail)
        | ((fail_if_success (first | refine is_ucall ?_ | refine is_umcall ?_)); first | refine W1 ?_ | refine Wc ?_ | refine W2c ?_ ?_ | refine Wg ?_ | refine W2 ?_ ?_ | exact Wdead | refine Wlive (fun hb => ?_) | intro _ _ _ _ _ _ _ _ | refine We ?_ | refine Wx ?_ | refine Wt ?_ | refine Wm ?_ | refine W2m ?_ ?_ | refine Wl ?_)
        | fail)
      refine st_call rfl (sure_spec E _ _ m s1 s2 s3 s4 (hI.ext x2).y) ?_
      rintro _ H4 g4 ⟨⟨⟨lv, rfl, hl⟩, e4⟩, rfl⟩
      have hb4 := e4.get hb2
      have x4 : Ext H H4 := x2.trans e4
      replace hav := hav.ext e4
      replace hbv := hbv.ext e4
      replace hl := hl hz
      have hlc : cellOk lv = true := by obtain ⟨tv, hr, _⟩ := hl; obtain ⟨a, b, c, rfl⟩ := RdS.shape hr; rfl
      rw [hz]
      clear e4 hb2 x2
      refine OpsJ.normA ?_
      repeat' (first
        | (refine is_ucall ?_; first
          | refine st_callP (h := awake_spec _ _ _) (k := ?_)
          | refine st_callP (h := ThinZ_spec _ _ _ m s1 s2 s3 s4 (hm.ext extA)) (k := ?_)
          | fail)
        | (refine is_umcall ?_; first
          | refine mj_callP (h := awake_spec _ _ _) (k := ?_)
          | refine mj_callP (h := ThinZ_spec _ _ _ m s1 s2 s3 s4 (hm.ext extA)) (k := ?_)
          | fail)
        | ((fail_if_success (first | refine is_ucall ?_ | refine is_umcall ?_)); first | refine W1 ?_ | refine Wc ?_ | refine W2c ?_ ?_ | refine Wg ?_ | refine W2 ?_ ?_ | exact Wdead | refine Wlive (fun hb => ?_) | intro _ _ _ _ _ _ _ _ | refine We ?_ | refine Wx ?_ | refine Wt ?_ | refine Wm ?_ | refine W2m ?_ ?_ | refine Wl ?_)
        | fail)
      refine WPJ.loopT (hrs m) [60, 61, 62, 63, 66, 67, 68, 69, 70, 71, 72, 9, 10, 73, 74, 75, 76, 77, 78, 79, 80, 81, 82, 83, 84, 85, 86, 87, 88, 64, 65] (fun j (_ : Unit) => [(8, .int .i64 j)])
        (fun j _ H5 g5 => g5 = g4 ∧ Ext H4 H5) 0 () (Nat.zero_le _) (by intro p hp; simp at hp; rcases hp with rfl; rfl) ⟨rfl, Ext.refl _⟩ ?_
      rintro j _ H5 g5 hj ⟨rfl, e5⟩ hl0
      simp only [updT, maskT, List.set_cons_zero, List.set_cons_succ]
      have hb5 := e5.get hb4
      have x5 := x4.trans e5
      rcases Nat.lt_or_ge j (hrs m) with hlt | hge
      · have hA := hotB_at hlt
        have hB := leftB_at hlt
        have hK := BoundsR_spec E g5 H5 m s1 s2 s3 s4 lv _ (hI.ext x5).y hG (hl.ext e5) (fun t ht => (truR_mem hG ht).2) hM j hlt
        rw [boundsR_eq hG hs (hotQ m) j (fun t ht => hotQ_bd hG ht j), boundsR_eq hG hs (leftQ m) j (fun t ht => leftQ_bd hG ht j)] at hK
        generalize bdS m (hotQ m) j = p at *
        generalize bdS m (leftQ m) j = q at *
        replace hav := hav.ext e5
        replace hbv := hbv.ext e5
        generalize hotB m = hbl at *
        generalize leftB m = lbl at *
        repeat' (first
          | (refine is_ucall ?_; first
            | refine st_callP (h := awake_spec _ _ _) (k := ?_)
            | refine st_callP (h := ThinZ_spec _ _ _ m s1 s2 s3 s4 (hm.ext extA)) (k := ?_)
            | fail)
          | (refine is_umcall ?_; first
            | refine mj_callP (h := awake_spec _ _ _) (k := ?_)
            | refine mj_callP (h := ThinZ_spec _ _ _ m s1 s2 s3 s4 (hm.ext extA)) (k := ?_)
            | fail)
          | ((fail_if_success (first | refine is_ucall ?_ | refine is_umcall ?_)); first | refine W1 ?_ | refine Wc ?_ | refine W2c ?_ ?_ | refine Wg ?_ | refine W2 ?_ ?_ | exact Wdead | refine Wlive (fun hb => ?_) | intro _ _ _ _ _ _ _ _ | refine We ?_ | refine Wx ?_ | refine Wt ?_ | refine Wm ?_ | refine W2m ?_ ?_ | refine Wl ?_)
          | fail)
        refine st_callP (h := hK) (k := ?_)
        clear hK
        refine OpsJ.normA ?_
        repeat' (first
          | (refine is_ucall ?_; first
            | refine st_callP (h := awake_spec _ _ _) (k := ?_)
            | refine st_callP (h := ThinZ_spec _ _ _ m s1 s2 s3 s4 (hm.ext extA)) (k := ?_)
            | fail)
          | (refine is_umcall ?_; first
            | refine mj_callP (h := awake_spec _ _ _) (k := ?_)
            | refine mj_callP (h := ThinZ_spec _ _ _ m s1 s2 s3 s4 (hm.ext extA)) (k := ?_)
            | fail)
          | ((fail_if_success (first | refine is_ucall ?_ | refine is_umcall ?_)); first | refine W1 ?_ | refine Wc ?_ | refine W2c ?_ ?_ | refine Wg ?_ | refine W2 ?_ ?_ | exact Wdead | refine Wlive (fun hb => ?_) | intro _ _ _ _ _ _ _ _ | refine We ?_ | refine Wx ?_ | refine Wt ?_ | refine Wm ?_ | refine W2m ?_ ?_ | refine Wl ?_)
          | fail)
        refine WPJ.draw 16 mixed (by kernel_rfl) (by kernel_rfl) (by kernel_rfl) (by decide) ?_
        refine MonoJ.normA ?_
        repeat' (first
          | (refine is_ucall ?_; first
            | refine st_callP (h := awake_spec _ _ _) (k := ?_)
            | refine st_callP (h := ThinZ_spec _ _ _ m s1 s2 s3 s4 (hm.ext extA)) (k := ?_)
            | fail)
          | (refine is_umcall ?_; first
            | refine mj_callP (h := awake_spec _ _ _) (k := ?_)
            | refine mj_callP (h := ThinZ_spec _ _ _ m s1 s2 s3 s4 (hm.ext extA)) (k := ?_)
            | fail)
          | ((fail_if_success (first | refine is_ucall ?_ | refine is_umcall ?_)); first | refine W1 ?_ | refine Wc ?_ | refine W2c ?_ ?_ | refine Wg ?_ | refine W2 ?_ ?_ | exact Wdead | refine Wlive (fun hb => ?_) | intro _ _ _ _ _ _ _ _ | refine We ?_ | refine Wx ?_ | refine Wt ?_ | refine Wm ?_ | refine W2m ?_ ?_ | refine Wl ?_)
          | fail)
        refine mj_callP (h := to_spec _ _ _ p) (k := ?_)
        refine MonoJ.normA ?_
        repeat' (first
          | (refine is_ucall ?_; first
            | refine st_callP (h := awake_spec _ _ _) (k := ?_)
            | refine st_callP (h := ThinZ_spec _ _ _ m s1 s2 s3 s4 (hm.ext extA)) (k := ?_)
            | fail)
          | (refine is_umcall ?_; first
            | refine mj_callP (h := awake_spec _ _ _) (k := ?_)
            | refine mj_callP (h := ThinZ_spec _ _ _ m s1 s2 s3 s4 (hm.ext extA)) (k := ?_)
            | fail)
          | ((fail_if_success (first | refine is_ucall ?_ | refine is_umcall ?_)); first | refine W1 ?_ | refine Wc ?_ | refine W2c ?_ ?_ | refine Wg ?_ | refine W2 ?_ ?_ | exact Wdead | refine Wlive (fun hb => ?_) | intro _ _ _ _ _ _ _ _ | refine We ?_ | refine Wx ?_ | refine Wt ?_ | refine Wm ?_ | refine W2m ?_ ?_ | refine Wl ?_)
          | fail)
        refine mj_neI (xs := [p.1, p.2]) (ys := [p.1, p.2]) rfl rfl rfl rfl ?_
        rw [decide_eq_true rfl]
        refine MonoJ.normA ?_
        repeat' (first
          | (refine is_ucall ?_; first
            | refine st_callP (h := awake_spec _ _ _) (k := ?_)
            | refine st_callP (h := ThinZ_spec _ _ _ m s1 s2 s3 s4 (hm.ext extA)) (k := ?_)
            | fail)
          | (refine is_umcall ?_; first
            | refine mj_callP (h := awake_spec _ _ _) (k := ?_)
            | refine mj_callP (h := ThinZ_spec _ _ _ m s1 s2 s3 s4 (hm.ext extA)) (k := ?_)
            | fail)
          | ((fail_if_success (first | refine is_ucall ?_ | refine is_umcall ?_)); first | refine W1 ?_ | refine Wc ?_ | refine W2c ?_ ?_ | refine Wg ?_ | refine W2 ?_ ?_ | exact Wdead | refine Wlive (fun hb => ?_) | intro _ _ _ _ _ _ _ _ | refine We ?_ | refine Wx ?_ | refine Wt ?_ | refine Wm ?_ | refine W2m ?_ ?_ | refine Wl ?_)
          | fail)
        refine mj_callP (h := to_spec _ _ _ q) (k := ?_)
        refine MonoJ.normA ?_
        repeat' (first
          | (refine is_ucall ?_; first
            | refine st_callP (h := awake_spec _ _ _) (k := ?_)
            | refine st_callP (h := ThinZ_spec _ _ _ m s1 s2 s3 s4 (hm.ext extA)) (k := ?_)
            | fail)
          | (refine is_umcall ?_; first
            | refine mj_callP (h := awake_spec _ _ _) (k := ?_)
            | refine mj_callP (h := ThinZ_spec _ _ _ m s1 s2 s3 s4 (hm.ext extA)) (k := ?_)
            | fail)
          | ((fail_if_success (first | refine is_ucall ?_ | refine is_umcall ?_)); first | refine W1 ?_ | refine Wc ?_ | refine W2c ?_ ?_ | refine Wg ?_ | refine W2 ?_ ?_ | exact Wdead | refine Wlive (fun hb => ?_) | intro _ _ _ _ _ _ _ _ | refine We ?_ | refine Wx ?_ | refine Wt ?_ | refine Wm ?_ | refine W2m ?_ ?_ | refine Wl ?_)
          | fail)
        refine mj_neI (xs := [q.1, q.2]) (ys := [q.1, q.2]) rfl rfl rfl rfl ?_
        rw [decide_eq_true rfl]
        refine MonoJ.normA ?_
        repeat' (first
          | (refine is_ucall ?_; first
            | refine st_callP (h := awake_spec _ _ _) (k := ?_)
            | refine st_callP (h := ThinZ_spec _ _ _ m s1 s2 s3 s4 (hm.ext extA)) (k := ?_)
            | fail)
          | (refine is_umcall ?_; first
            | refine mj_callP (h := awake_spec _ _ _) (k := ?_)
            | refine mj_callP (h := ThinZ_spec _ _ _ m s1 s2 s3 s4 (hm.ext extA)) (k := ?_)
            | fail)
          | ((fail_if_success (first | refine is_ucall ?_ | refine is_umcall ?_)); first | refine W1 ?_ | refine Wc ?_ | refine W2c ?_ ?_ | refine Wg ?_ | refine W2 ?_ ?_ | exact Wdead | refine Wlive (fun hb => ?_) | intro _ _ _ _ _ _ _ _ | refine We ?_ | refine Wx ?_ | refine Wt ?_ | refine Wm ?_ | refine W2m ?_ ?_ | refine Wl ?_)
          | fail)
        exact ⟨(), hlt, (by repeat' (first | exact Weak.nil | refine Weak.wild ?_ | refine Weak.same ?_ | refine Weak.intEq (by first | omega | (simp; done) | (push_cast; omega)) ?_)), rfl, extA⟩
      · obtain rfl : j = hrs m := by omega
        repeat' (first
          | (refine is_ucall ?_; first
            | refine st_callP (h := awake_spec _ _ _) (k := ?_)
            | refine st_callP (h := ThinZ_spec _ _ _ m s1 s2 s3 s4 (hm.ext extA)) (k := ?_)
            | fail)
          | (refine is_umcall ?_; first
            | refine mj_callP (h := awake_spec _ _ _) (k := ?_)
            | refine mj_callP (h := ThinZ_spec _ _ _ m s1 s2 s3 s4 (hm.ext extA)) (k := ?_)
            | fail)
          | ((fail_if_success (first | refine is_ucall ?_ | refine is_umcall ?_)); first | refine W1 ?_ | refine Wc ?_ | refine W2c ?_ ?_ | refine Wg ?_ | refine W2 ?_ ?_ | exact Wdead | refine Wlive (fun hb => ?_) | intro _ _ _ _ _ _ _ _ | refine We ?_ | refine Wx ?_ | refine Wt ?_ | refine Wm ?_ | refine W2m ?_ ?_ | refine Wl ?_)
          | fail)
        all_goals first | exact ⟨rfl, rfl, rfl⟩ | exact absurd trivial (by assumption) | exact absurd rfl (by assumption) | trace_state
end
end Go.Proofs.Ytjbiidlmpaibkaa
