import Derived.Test.YtjbiidlmpaibkaaJiw
namespace Go.Proofs.Ytjbiidlmpaibkaa
open Go Go.Abs Go.Proofs
set_option maxHeartbeats 8000000
set_option maxRecDepth 100000
attribute [local irreducible] CallJ OpsJ WPJ CallV MonoJ SpecJ

/-! ### Four bits, gathered over truths -/
def orB (b : Nat) (e : Nat → Bool) : Nat → Nat
  | 0 => b
  | j + 1 => if e j then orB b e j ||| 2 ^ j else orB b e j
theorem orB_bit (b : Nat) (e : Nat → Bool) : ∀ j i, (orB b e j).testBit i = (b.testBit i || (decide (i < j) && e i))
  | 0, i => by simp [orB]
  | j + 1, i => by
    have ih := orB_bit b e j i
    simp only [orB]
    cases he : e j with
    | true =>
      rw [if_pos rfl, Nat.testBit_or, ih, Nat.testBit_two_pow]
      by_cases h : j = i
      · subst h; simp [he]
      · by_cases h2 : i < j
        · simp [h, h2, show i < j + 1 by omega]
        · simp [h, h2, show ¬ i < j + 1 by omega]
    | false =>
      rw [if_neg (by simp), ih]
      by_cases h : j = i
      · subst h; simp [he]
      · by_cases h2 : i < j
        · simp [h2, show i < j + 1 by omega]
        · simp [h2, show ¬ i < j + 1 by omega]
theorem orB_lt {b : Nat} {e : Nat → Bool} (hb : b < 16) : ∀ j, j ≤ 4 → orB b e j < 16
  | 0, _ => hb
  | j + 1, h => by
    have ih := orB_lt (e := e) hb j (by omega)
    simp only [orB]
    split
    · exact Nat.or_lt_two_pow (n := 4) ih (Nat.pow_lt_pow_right (by decide) (by omega))
    · exact ih
def metB {α : Type} (f : α → Nat → Bool) (l : List α) : Nat := l.foldl (fun b t => orB b (f t) 4) 0
theorem metB_snoc {α : Type} (f : α → Nat → Bool) (l : List α) (t : α) : metB f (l ++ [t]) = orB (metB f l) (f t) 4 := by simp [metB]
theorem metB_lt {α : Type} (f : α → Nat → Bool) (l : List α) : metB f l < 16 := by
  unfold metB
  suffices h : ∀ (l : List α) b, b < 16 → l.foldl (fun b t => orB b (f t) 4) b < 16 from h l 0 (by decide)
  intro l
  induction l with
  | nil => intro b hb; exact hb
  | cons t l ih => intro b hb; exact ih _ (orB_lt hb 4 (Nat.le_refl _))
theorem metB_bit {α : Type} (f : α → Nat → Bool) (l : List α) {i : Nat} (hi : i < 4) : (metB f l).testBit i = l.any fun t => f t i := by
  unfold metB
  suffices h : ∀ (l : List α) b, (l.foldl (fun b t => orB b (f t) 4) b).testBit i = (b.testBit i || l.any fun t => f t i) by
    rw [h]; simp
  intro l
  induction l with
  | nil => intro b; simp
  | cons t l ih => intro b; rw [List.foldl_cons, ih, orB_bit, decide_eq_true hi, List.any_cons, Bool.true_and, Bool.or_assoc]
theorem metB_all {α : Type} {f : α → Nat → Bool} {l : List α} (h : ∀ i < 4, ∃ t ∈ l, f t i = true) : metB f l = 15 := by
  have h1 : ∀ i < 4, (metB f l).testBit i = true := fun i hi => by
    rw [metB_bit f l hi, List.any_eq_true]; exact h i hi
  have h2 := metB_lt f l
  have key : ∀ b < 16, b.testBit 0 = true → b.testBit 1 = true → b.testBit 2 = true → b.testBit 3 = true → b = 15 := by decide
  exact key _ h2 (h1 0 (by decide)) (h1 1 (by decide)) (h1 2 (by decide)) (h1 3 (by decide))
def endQ (p q : Int × Int) (x y : Int) : Nat → Bool
  | 0 => decide (x = p.1)
  | 1 => decide (x = p.2)
  | 2 => decide (y = q.1)
  | _ => decide (y = q.2)
/-- both ends are reached, in a truth that is listed -/
theorem ends_all {m : CopM} (hG : Good m) (hs : hasS m = true) (k : Nat) :
    metB (fun t => endQ (bdS m (hotQ m) k) (bdS m (leftQ m) k) (hotQ m (padT t) k) (leftQ m (padT t) k)) (truR m (manyS m).toNat) = 15 := by
  obtain ⟨t0, ht0⟩ := some_truth hs
  have h1 := lo_char (q := fun t => hotQ m t k) ht0 (fun t ht => hotQ_bd hG ht k)
  have h2 := hi_char (q := fun t => hotQ m t k) ht0 (fun t ht => hotQ_bd hG ht k)
  have h3 := lo_char (q := fun t => leftQ m t k) ht0 (fun t ht => leftQ_bd hG ht k)
  have h4 := hi_char (q := fun t => leftQ m t k) ht0 (fun t ht => leftQ_bd hG ht k)
  refine metB_all fun i hi => ?_
  have get : ∀ t ∈ truthsL m, endQ (bdS m (hotQ m) k) (bdS m (leftQ m) k) (hotQ m t k) (leftQ m t k) i = true → ∃ s ∈ truR m (manyS m).toNat, endQ (bdS m (hotQ m) k) (bdS m (leftQ m) k) (hotQ m (padT s) k) (leftQ m (padT s) k) i = true := by
    intro t ht h
    obtain ⟨s, hs, rfl⟩ := truR_sur hG ht
    exact ⟨s, hs, h⟩
  match i, hi with
  | 0, _ => obtain ⟨t, ht, h⟩ := h1.1; exact get t ht (decide_eq_true h)
  | 1, _ => obtain ⟨t, ht, h⟩ := h2.1; exact get t ht (decide_eq_true h)
  | 2, _ => obtain ⟨t, ht, h⟩ := h3.1; exact get t ht (decide_eq_true h)
  | 3, _ => obtain ⟨t, ht, h⟩ := h4.1; exact get t ht (decide_eq_true h)
section
variable {γ : Type} (E : Env γ) (g : γ) (H : AHeap)
theorem ends_law (m : CopM) (s1 s2 s3 s4 : Value) (w : Int) (hm : CopZ H m s1 s2 s3 s4) (hw : 0 ≤ w ∧ w ≤ 255) : CallJ Try.prog E 10 [cv m s1 s2 s3 s4, .int .u8 w] (fun v H' g' => v = .bool true ∧ H' = H ∧ g' = g) H g := by
  have hok := hm.cells
  refine CallJ.tidy ?_
  unfold cv
  refine CallJ.enter Try.func10 rfl (by simp only [Try.ntmps10, List.length_cons, List.length_nil, Nat.zero_add, Nat.reduceAdd, Nat.reduceSub, List.replicate_succ, List.replicate_zero, List.cons_append, List.nil_append]; rfl) ?_
  repeat' (first
    | (refine is_ucall ?_; first
      | refine st_callP (h := readyZ_spec _ _ _ m s1 s2 s3 s4 (hm.ext extA)) (k := ?_)
      | refine st_callP (h := awake_spec _ _ _) (k := ?_)
      | fail)
    | (refine is_umcall ?_; first
      | refine mj_callP (h := readyZ_spec _ _ _ m s1 s2 s3 s4 (hm.ext extA)) (k := ?_)
      | refine mj_callP (h := awake_spec _ _ _) (k := ?_)
      | fail)
    | ((fail_if_success (first | refine is_ucall ?_ | refine is_umcall ?_)); first | refine W1 ?_ | refine Wc ?_ | refine W2c ?_ ?_ | refine Wg ?_ | refine W2 ?_ ?_ | exact Wdead | refine Wlive (fun hb => ?_) | intro _ _ _ _ _ _ _ _ | refine We ?_ | refine Wx ?_ | refine Wt ?_ | refine Wm ?_ | refine W2m ?_ ?_ | refine Wl ?_)
    | fail)
  · exact ⟨rfl, rfl, rfl⟩
  · have hr : thinS m = true ∧ checkS m = 0 := by assumption
    have hI := hm.is hr.1
    have hG := good_of hr.2
    have hN := hG.nr
    obtain ⟨hn5, hnl⟩ := hrs_le hG.w
    have hl0 := hG.w.l0
    have hl4 := hG.w.l4
    have hll := hG.ll
    have hwr : IntKind.i64.wrap w = ((w.toNat : Nat) : Int) := by rw [wrap64_eq ⟨by omega, by omega⟩]; omega
    have hrem : ((w.toNat : Nat) : Int) % (m.last + 1) = ((w.toNat % hrs m : Nat) : Int) := by rw [← hnl]; rfl
    have hk : w.toNat % hrs m < hrs m := Nat.mod_lt _ (by omega)
    generalize w.toNat % hrs m = k at *
    have hT := checkT_good hG
    have hn0 := truR_nil hG
    repeat' (first
      | (refine is_ucall ?_; first
        | refine st_callP (h := readyZ_spec _ _ _ m s1 s2 s3 s4 (hm.ext extA)) (k := ?_)
        | refine st_callP (h := awake_spec _ _ _) (k := ?_)
        | fail)
      | (refine is_umcall ?_; first
        | refine mj_callP (h := readyZ_spec _ _ _ m s1 s2 s3 s4 (hm.ext extA)) (k := ?_)
        | refine mj_callP (h := awake_spec _ _ _) (k := ?_)
        | fail)
      | ((fail_if_success (first | refine is_ucall ?_ | refine is_umcall ?_)); first | refine W1 ?_ | refine Wc ?_ | refine W2c ?_ ?_ | refine Wg ?_ | refine W2 ?_ ?_ | exact Wdead | refine Wlive (fun hb => ?_) | intro _ _ _ _ _ _ _ _ | refine We ?_ | refine Wx ?_ | refine Wt ?_ | refine Wm ?_ | refine W2m ?_ ?_ | refine Wl ?_)
      | fail)
    rw [hwr, show IntKind.i64.wrap (m.last + 1) = m.last + 1 from wrap64_eq ⟨by omega, by omega⟩]
    refine OpsJ.normA ?_
    repeat' (first
      | (refine is_ucall ?_; first
        | refine st_callP (h := readyZ_spec _ _ _ m s1 s2 s3 s4 (hm.ext extA)) (k := ?_)
        | refine st_callP (h := awake_spec _ _ _) (k := ?_)
        | fail)
      | (refine is_umcall ?_; first
        | refine mj_callP (h := readyZ_spec _ _ _ m s1 s2 s3 s4 (hm.ext extA)) (k := ?_)
        | refine mj_callP (h := awake_spec _ _ _) (k := ?_)
        | fail)
      | ((fail_if_success (first | refine is_ucall ?_ | refine is_umcall ?_)); first | refine W1 ?_ | refine Wc ?_ | refine W2c ?_ ?_ | refine Wg ?_ | refine W2 ?_ ?_ | exact Wdead | refine Wlive (fun hb => ?_) | intro _ _ _ _ _ _ _ _ | refine We ?_ | refine Wx ?_ | refine Wt ?_ | refine Wm ?_ | refine W2m ?_ ?_ | refine Wl ?_)
      | fail)
    refine st_call rfl (Copper_w E _ _ m s1 s2 s3 s4 ?_ (by omega) (by omega)) ?_
    · exact (hI.ext extA).y
    rintro _ H1 g1 ⟨⟨t1, t2, t3, t4, rfl, hm1, e1⟩, rfl⟩
    have hb1 : H1[H.length]? = some (.row (ccells m s1 s2 s3 s4) 1 true) := e1.get getA
    have x1 : Ext H H1 := Ext.trans extA e1
    clear e1
    rw [hrem]
    refine OpsJ.normA ?_
    repeat' (first
      | (refine is_ucall ?_; first
        | refine st_callP (h := readyZ_spec _ _ _ m s1 s2 s3 s4 (hm.ext extA)) (k := ?_)
        | refine st_callP (h := awake_spec _ _ _) (k := ?_)
        | fail)
      | (refine is_umcall ?_; first
        | refine mj_callP (h := readyZ_spec _ _ _ m s1 s2 s3 s4 (hm.ext extA)) (k := ?_)
        | refine mj_callP (h := awake_spec _ _ _) (k := ?_)
        | fail)
      | ((fail_if_success (first | refine is_ucall ?_ | refine is_umcall ?_)); first | refine W1 ?_ | refine Wc ?_ | refine W2c ?_ ?_ | refine Wg ?_ | refine W2 ?_ ?_ | exact Wdead | refine Wlive (fun hb => ?_) | intro _ _ _ _ _ _ _ _ | refine We ?_ | refine Wx ?_ | refine Wt ?_ | refine Wm ?_ | refine W2m ?_ ?_ | refine Wl ?_)
      | fail)
    cases hs : hasS m with
    | false =>
      rw [hs] at hT hn0
      have hT : checkT m = 11 := hT
      have hne : ¬ checkT m = 0 := by rw [hT]; decide
      have h0 : (truR m (manyS m).toNat).length = 0 := by simpa using hn0
      clear hn0
      have hB := BoundsN_spec E g1 H1 m t1 t2 t3 t4 hne hm1
      rw [hT] at hB
      refine st_callP (h := hB) (k := ?_)
      clear hB hm1
      refine OpsJ.normA ?_
      repeat' (first
        | (refine is_ucall ?_; first
          | refine st_callP (h := readyZ_spec _ _ _ m s1 s2 s3 s4 (hm.ext extA)) (k := ?_)
          | refine st_callP (h := awake_spec _ _ _) (k := ?_)
          | fail)
        | (refine is_umcall ?_; first
          | refine mj_callP (h := readyZ_spec _ _ _ m s1 s2 s3 s4 (hm.ext extA)) (k := ?_)
          | refine mj_callP (h := awake_spec _ _ _) (k := ?_)
          | fail)
        | ((fail_if_success (first | refine is_ucall ?_ | refine is_umcall ?_)); first | refine W1 ?_ | refine Wc ?_ | refine W2c ?_ ?_ | refine Wg ?_ | refine W2 ?_ ?_ | exact Wdead | refine Wlive (fun hb => ?_) | intro _ _ _ _ _ _ _ _ | refine We ?_ | refine Wx ?_ | refine Wt ?_ | refine Wm ?_ | refine W2m ?_ ?_ | refine Wl ?_)
        | fail)
      refine st_call rfl (Truths_spec E _ _ m s1 s2 s3 s4 (hI.ext x1).y hG) ?_
      rintro lv H2 g2 ⟨⟨hl, e2⟩, rfl⟩
      have x2 : Ext H H2 := x1.trans e2
      obtain ⟨tw, hr2, htl, hrow⟩ := id hl
      have htl0 : tw.length = 0 := by omega
      refine OpsJ.normA ?_
      repeat' (first
        | (refine is_ucall ?_; first
          | refine st_callP (h := readyZ_spec _ _ _ m s1 s2 s3 s4 (hm.ext extA)) (k := ?_)
          | refine st_callP (h := awake_spec _ _ _) (k := ?_)
          | fail)
        | (refine is_umcall ?_; first
          | refine mj_callP (h := readyZ_spec _ _ _ m s1 s2 s3 s4 (hm.ext extA)) (k := ?_)
          | refine mj_callP (h := awake_spec _ _ _) (k := ?_)
          | fail)
        | ((fail_if_success (first | refine is_ucall ?_ | refine is_umcall ?_)); first | refine W1 ?_ | refine Wc ?_ | refine W2c ?_ ?_ | refine Wg ?_ | refine W2 ?_ ?_ | exact Wdead | refine Wlive (fun hb => ?_) | intro _ _ _ _ _ _ _ _ | refine We ?_ | refine Wx ?_ | refine Wt ?_ | refine Wm ?_ | refine W2m ?_ ?_ | refine Wl ?_)
        | fail)
      all_goals first | exact ⟨rfl, rfl, rfl⟩ | exact absurd trivial (by assumption) | exact absurd rfl (by assumption) | trace_state
    | true =>
      rw [hs] at hT hn0
      have hT : checkT m = 0 := hT
      have h0 : 0 < (truR m (manyS m).toNat).length := by simpa using hn0
      clear hn0
      have hM : (truR m (manyS m).toNat).length ≤ 3000 := by have := manyS_eq m; have := truR_len m (manyS m).toNat; have := hG.sz; omega
      have hend := ends_all hG hs k
      have hA := hotB_at hk
      have hB := leftB_at hk
      have hAl := hotB_len m
      have hBl := leftB_len m
      have hts : ∀ t ∈ truR m (manyS m).toNat, t.2.length = hrs m ∧ TOk t.1 (pad5 t.2) := fun t ht => (truR_mem hG ht).2
      generalize bdS m (hotQ m) k = p at *
      generalize bdS m (leftQ m) k = q at *
      refine st_call rfl (BoundsQ_spec E _ _ m t1 t2 t3 t4 hT hm1) ?_
      rintro _ H2 g2 ⟨⟨av, bv, rfl, hav, hbv, e2⟩, rfl⟩
      have hb2 := e2.get hb1
      have x2 := x1.trans e2
      clear e2 hb1 x1 hm1
      refine OpsJ.normA ?_
      repeat' (first
        | (refine is_ucall ?_; first
          | refine st_callP (h := readyZ_spec _ _ _ m s1 s2 s3 s4 (hm.ext extA)) (k := ?_)
          | refine st_callP (h := awake_spec _ _ _) (k := ?_)
          | fail)
        | (refine is_umcall ?_; first
          | refine mj_callP (h := readyZ_spec _ _ _ m s1 s2 s3 s4 (hm.ext extA)) (k := ?_)
          | refine mj_callP (h := awake_spec _ _ _) (k := ?_)
          | fail)
        | ((fail_if_success (first | refine is_ucall ?_ | refine is_umcall ?_)); first | refine W1 ?_ | refine Wc ?_ | refine W2c ?_ ?_ | refine Wg ?_ | refine W2 ?_ ?_ | exact Wdead | refine Wlive (fun hb => ?_) | intro _ _ _ _ _ _ _ _ | refine We ?_ | refine Wx ?_ | refine Wt ?_ | refine Wm ?_ | refine W2m ?_ ?_ | refine Wl ?_)
        | fail)
      refine st_call rfl (Truths_spec E _ _ m s1 s2 s3 s4 (hI.ext x2).y hG) ?_
      rintro lv H3 g3 ⟨⟨hl, e3⟩, rfl⟩
      have hb3 := e3.get hb2
      have x3 := x2.trans e3
      replace hav := hav.ext e3
      replace hbv := hbv.ext e3
      clear e3 hb2 x2
      have hlc : cellOk lv = true := by obtain ⟨tv, hr, _⟩ := hl; obtain ⟨a, b, c, rfl⟩ := RdS.shape hr; rfl
      obtain ⟨tw, hr2, htl, hrow⟩ := id hl
      generalize truR m (manyS m).toNat = ts at *
      generalize hotB m = hbl at *
      generalize leftB m = lbl at *
      refine OpsJ.normA ?_
      repeat' (first
        | (refine is_ucall ?_; first
          | refine st_callP (h := readyZ_spec _ _ _ m s1 s2 s3 s4 (hm.ext extA)) (k := ?_)
          | refine st_callP (h := awake_spec _ _ _) (k := ?_)
          | fail)
        | (refine is_umcall ?_; first
          | refine mj_callP (h := readyZ_spec _ _ _ m s1 s2 s3 s4 (hm.ext extA)) (k := ?_)
          | refine mj_callP (h := awake_spec _ _ _) (k := ?_)
          | fail)
        | ((fail_if_success (first | refine is_ucall ?_ | refine is_umcall ?_)); first | refine W1 ?_ | refine Wc ?_ | refine W2c ?_ ?_ | refine Wg ?_ | refine W2 ?_ ?_ | exact Wdead | refine Wlive (fun hb => ?_) | intro _ _ _ _ _ _ _ _ | refine We ?_ | refine Wx ?_ | refine Wt ?_ | refine Wm ?_ | refine W2m ?_ ?_ | refine Wl ?_)
        | fail)
      have hr1 := hI.coal
      have hrw := hI.want
      refine WPJ.loopT ts.length [12, 13, 14, 15, 61, 62, 63, 64, 67, 68, 69, 70, 71, 72, 73, 74, 75, 76, 77, 78, 79, 80, 81, 82, 83, 84, 85, 86, 87, 88, 89, 90, 91, 92, 93, 94, 95, 96, 97, 98, 99, 100, 101, 102, 103, 104, 105, 106, 107, 108, 109, 110, 111, 112, 113, 114, 115, 116, 117, 118, 119, 122, 123, 124, 125, 126, 127, 128, 129, 120, 121, 65, 66] (fun i (_ : Unit) => [(11, .int .i64 i), (10, .int .i64 (metB (fun t => endQ p q (hotQ m (padT t) k) (leftQ m (padT t) k)) (ts.take i) : Nat))])
        (fun i _ H5 g5 => g5 = g3 ∧ Ext H3 H5) 0 () (Nat.zero_le _) (by intro p hp; simp at hp; rcases hp with rfl | rfl <;> rfl) ⟨rfl, Ext.refl _⟩ ?_
      rintro i _ H5 g5 hi ⟨rfl, e5⟩ hl1
      simp only [updT, maskT, List.set_cons_zero, List.set_cons_succ]
      have hb5 := e5.get hb3
      have x5 := x3.trans e5
      rcases Nat.lt_or_ge i ts.length with hlt | hge
      · obtain ⟨r1, r2⟩ := hrow i (by omega) hlt
        obtain ⟨y1, y2⟩ := hts _ (List.getElem_mem hlt)
        have hel : (tw.map encV)[(i : Int).toNat]? = some [.int .i64 ts[i].1, tw[i].2] := by simp [show i < tw.length by omega, encV, r1]
        have hmt : metB (fun t => endQ p q (hotQ m (padT t) k) (leftQ m (padT t) k)) (ts.take (i + 1)) = orB (metB (fun t => endQ p q (hotQ m (padT t) k) (leftQ m (padT t) k)) (ts.take i)) (endQ p q (hotQ m (padT ts[i]) k) (leftQ m (padT ts[i]) k)) 4 := by
          rw [List.take_succ_eq_append_getElem hlt, metB_snoc]
        have hbl2 := metB_lt (fun t => endQ p q (hotQ m (padT t) k) (leftQ m (padT t) k)) (ts.take i)
        have hHot : ∀ (g' : Unit) (H' : AHeap), Ext H3 H' → CallJ Try.prog trivE 29 [cv m s1 s2 s3 s4, .agg ⟨[.int .i64 ts[i].1, tw[i].2]⟩, s1, s2, .int .i64 k] (fun v H2 g2 => v = .int .i64 (hotQ m (padT ts[i]) k) ∧ H2 = H' ∧ g2 = g') H' g' := fun g' H' ee => by
          have := Hot_spec trivE g' H' m s1 s2 s3 s4 tw[i].2 s1 s2 ts[i].1 ts[i].2 m.coal m.want hok hG.w y2 y1 k hk (r2.ext ee) ((hr1.ext x3).ext ee) ((hrw.ext x3).ext ee)
          rw [withCW_self] at this
          exact this
        have hLeft : ∀ (g' : Unit) (H' : AHeap), Ext H3 H' → CallJ Try.prog trivE 30 [cv m s1 s2 s3 s4, .agg ⟨[.int .i64 ts[i].1, tw[i].2]⟩, s1, s2, .int .i64 k] (fun v H2 g2 => v = .int .i64 (leftQ m (padT ts[i]) k) ∧ H2 = H' ∧ g2 = g') H' g' := fun g' H' ee => by
          have := (HeatLeft trivE m s1 s2 s3 s4 tw[i].2 s1 s2 ts[i].1 ts[i].2 m.coal m.want hok hG.w y2 y1 k hk).2 g' H' (r2.ext ee) ((hr1.ext x3).ext ee) ((hrw.ext x3).ext ee)
          rw [withCW_self] at this
          exact this
        rw [hmt]
        generalize hotQ m (padT ts[i]) k = X at *
        generalize leftQ m (padT ts[i]) k = Y at *
        generalize metB (fun t => endQ p q (hotQ m (padT t) k) (leftQ m (padT t) k)) (ts.take i) = b at *
        generalize ts[i] = t at *
        generalize tw[i].2 = tl at *
        replace hr2 := hr2.ext e5
        replace hav := hav.ext e5
        replace hbv := hbv.ext e5
        clear hrow r1 hts hend hmt y1 y2 r2 hr1 hrw
        repeat' (first
          | (refine is_ucall ?_; first
            | refine st_callP (h := readyZ_spec _ _ _ m s1 s2 s3 s4 (hm.ext extA)) (k := ?_)
            | refine st_callP (h := awake_spec _ _ _) (k := ?_)
            | fail)
          | (refine is_umcall ?_; first
            | refine mj_callP (h := readyZ_spec _ _ _ m s1 s2 s3 s4 (hm.ext extA)) (k := ?_)
            | refine mj_callP (h := awake_spec _ _ _) (k := ?_)
            | fail)
          | ((fail_if_success (first | refine is_ucall ?_ | refine is_umcall ?_)); first | refine W1 ?_ | refine Wc ?_ | refine W2c ?_ ?_ | refine Wg ?_ | refine W2 ?_ ?_ | exact Wdead | refine Wlive (fun hb => ?_) | intro _ _ _ _ _ _ _ _ | refine We ?_ | refine Wx ?_ | refine Wt ?_ | refine Wm ?_ | refine W2m ?_ ?_ | refine Wl ?_)
          | fail)
        refine WPJ.draw 24 mixed (by kernel_rfl) (by kernel_rfl) (by kernel_rfl) (by decide) ?_
        refine MonoJ.normA ?_
        repeat' (first
          | (refine is_ucall ?_; first
            | refine st_callP (h := readyZ_spec _ _ _ m s1 s2 s3 s4 (hm.ext extA)) (k := ?_)
            | refine st_callP (h := awake_spec _ _ _) (k := ?_)
            | fail)
          | (refine is_umcall ?_; first
            | refine mj_callP (h := readyZ_spec _ _ _ m s1 s2 s3 s4 (hm.ext extA)) (k := ?_)
            | refine mj_callP (h := awake_spec _ _ _) (k := ?_)
            | fail)
          | ((fail_if_success (first | refine is_ucall ?_ | refine is_umcall ?_)); first | refine W1 ?_ | refine Wc ?_ | refine W2c ?_ ?_ | refine Wg ?_ | refine W2 ?_ ?_ | exact Wdead | refine Wlive (fun hb => ?_) | intro _ _ _ _ _ _ _ _ | refine We ?_ | refine Wx ?_ | refine Wt ?_ | refine Wm ?_ | refine W2m ?_ ?_ | refine Wl ?_)
          | fail)
        refine mj_callP (h := hHot _ _ e5) (k := ?_)
        refine MonoJ.normA ?_
        repeat' (first
          | (refine is_ucall ?_; first
            | refine st_callP (h := readyZ_spec _ _ _ m s1 s2 s3 s4 (hm.ext extA)) (k := ?_)
            | refine st_callP (h := awake_spec _ _ _) (k := ?_)
            | fail)
          | (refine is_umcall ?_; first
            | refine mj_callP (h := readyZ_spec _ _ _ m s1 s2 s3 s4 (hm.ext extA)) (k := ?_)
            | refine mj_callP (h := awake_spec _ _ _) (k := ?_)
            | fail)
          | ((fail_if_success (first | refine is_ucall ?_ | refine is_umcall ?_)); first | refine W1 ?_ | refine Wc ?_ | refine W2c ?_ ?_ | refine Wg ?_ | refine W2 ?_ ?_ | exact Wdead | refine Wlive (fun hb => ?_) | intro _ _ _ _ _ _ _ _ | refine We ?_ | refine Wx ?_ | refine Wt ?_ | refine Wm ?_ | refine W2m ?_ ?_ | refine Wl ?_)
          | fail)
        refine mj_callP (h := hLeft _ _ e5) (k := ?_)
        refine MonoJ.normA ?_
        clear hHot hLeft
        repeat' (first
          | (refine is_ucall ?_; first
            | refine st_callP (h := readyZ_spec _ _ _ m s1 s2 s3 s4 (hm.ext extA)) (k := ?_)
            | refine st_callP (h := awake_spec _ _ _) (k := ?_)
            | fail)
          | (refine is_umcall ?_; first
            | refine mj_callP (h := readyZ_spec _ _ _ m s1 s2 s3 s4 (hm.ext extA)) (k := ?_)
            | refine mj_callP (h := awake_spec _ _ _) (k := ?_)
            | fail)
          | ((fail_if_success (first | refine is_ucall ?_ | refine is_umcall ?_)); first | refine W1 ?_ | refine Wc ?_ | refine W2c ?_ ?_ | refine Wg ?_ | refine W2 ?_ ?_ | exact Wdead | refine Wlive (fun hb => ?_) | intro _ _ _ _ _ _ _ _ | refine We ?_ | refine Wx ?_ | refine Wt ?_ | refine Wm ?_ | refine W2m ?_ ?_ | refine Wl ?_)
          | fail)
        refine WPJ.draw 30 mixed (by kernel_rfl) (by kernel_rfl) (by kernel_rfl) (by decide) ?_
        refine MonoJ.normA ?_
        iterate 33 (first
          | (refine is_ucall ?_; first
            | refine st_callP (h := readyZ_spec _ _ _ m s1 s2 s3 s4 (hm.ext extA)) (k := ?_)
            | refine st_callP (h := awake_spec _ _ _) (k := ?_)
            | fail)
          | (refine is_umcall ?_; first
            | refine mj_callP (h := readyZ_spec _ _ _ m s1 s2 s3 s4 (hm.ext extA)) (k := ?_)
            | refine mj_callP (h := awake_spec _ _ _) (k := ?_)
            | fail)
          | ((fail_if_success (first | refine is_ucall ?_ | refine is_umcall ?_)); first | refine W1 ?_ | refine Wc ?_ | refine W2c ?_ ?_ | refine Wg ?_ | refine W2 ?_ ?_ | exact Wdead | refine Wlive (fun hb => ?_) | intro _ _ _ _ _ _ _ _ | refine We ?_ | refine Wx ?_ | refine Wt ?_ | refine Wm ?_ | refine W2m ?_ ?_ | refine Wl ?_)
          | fail)
        refine mj_alloc ?_
        refine mj_nil ?_
        have q0 : (X == p.1) = endQ p q X Y 0 := rfl
        have q1 : (X == p.2) = endQ p q X Y 1 := rfl
        have q2 : (Y == q.1) = endQ p q X Y 2 := rfl
        have q3 : (Y == q.2) = endQ p q X Y 3 := rfl
        rw [q0, q1, q2, q3]
        clear q0 q1 q2 q3
        generalize endQ p q X Y = e at *
        refine OpsJ.normA ?_
        refine st_storeA (cells := [.bool false, .bool false, .bool false, .bool false]) (v := .agg ⟨[.bool (e 0), .bool (e 1), .bool (e 2), .bool (e 3)]⟩) rfl rfl rfl rfl getA rfl ?_
        refine OpsJ.normA ?_
        repeat' (first
          | (refine is_ucall ?_; first
            | refine st_callP (h := readyZ_spec _ _ _ m s1 s2 s3 s4 (hm.ext extA)) (k := ?_)
            | refine st_callP (h := awake_spec _ _ _) (k := ?_)
            | fail)
          | (refine is_umcall ?_; first
            | refine mj_callP (h := readyZ_spec _ _ _ m s1 s2 s3 s4 (hm.ext extA)) (k := ?_)
            | refine mj_callP (h := awake_spec _ _ _) (k := ?_)
            | fail)
          | ((fail_if_success (first | refine is_ucall ?_ | refine is_umcall ?_)); first | refine W1 ?_ | refine Wc ?_ | refine W2c ?_ ?_ | refine Wg ?_ | refine W2 ?_ ?_ | exact Wdead | refine Wlive (fun hb => ?_) | intro _ _ _ _ _ _ _ _ | refine We ?_ | refine Wx ?_ | refine Wt ?_ | refine Wm ?_ | refine W2m ?_ ?_ | refine Wl ?_)
          | fail)
        refine WPJ.loopT 4 [118, 119, 122, 123, 124, 125, 126, 127, 128, 129, 120, 121] (fun j (_ : Unit) => [(15, .int .i64 j), (10, .int .i64 (orB b e j : Nat))])
          (fun j _ H6 g6 => g6 = g5 ∧ H6 = H5 ++ [.row [.bool (e 0), .bool (e 1), .bool (e 2), .bool (e 3)] 1 true]) 0 () (Nat.zero_le _) (by intro p hp; simp at hp; rcases hp with rfl | rfl <;> rfl) ⟨rfl, rfl⟩ ?_
        rintro j _ H6 g6 hj4 ⟨rfl, rfl⟩ hl2
        simp only [updT, maskT, List.set_cons_zero, List.set_cons_succ]
        rcases Nat.lt_or_ge j 4 with hlt4 | hge4
        · have hjc : j = 0 ∨ j = 1 ∨ j = 2 ∨ j = 3 := by omega
          have hld : ([.bool (e 0), .bool (e 1), .bool (e 2), .bool (e 3)] : List Value)[j * 1]? = some (.bool (e j)) := by rcases hjc with rfl | rfl | rfl | rfl <;> rfl
          have hob := orB_lt (e := e) hbl2 j (by omega)
          have hp30 : 2 ^ j ≤ 2 ^ 3 := Nat.pow_le_pow_right (by decide) (by omega)
          have hor := or_nat (a := orB b e j) (b := 2 ^ j) (by omega) (by omega)
          have ep := shl_eq (a := 1) (j := j) (k := j) (p := 2 ^ j) rfl (by rw [Nat.one_mul]) (by omega) (by omega)
          have ep' : IntKind.i64.wrap (1 * 2 ^ (min ((j : Int)).toNat IntKind.i64.bits)) = ((2 ^ j : Nat) : Int) := ep
          have hnx : orB b e (j + 1) = if e j then orB b e j ||| 2 ^ j else orB b e j := rfl
          rw [hnx]
          clear hnx ep
          generalize orB b e j = c at *
          cases hej : e j with
          | true =>
            rw [hej] at hld
            rw [if_pos rfl]
            repeat' (first
              | (refine is_ucall ?_; first
                | refine st_callP (h := readyZ_spec _ _ _ m s1 s2 s3 s4 (hm.ext extA)) (k := ?_)
                | refine st_callP (h := awake_spec _ _ _) (k := ?_)
                | fail)
              | (refine is_umcall ?_; first
                | refine mj_callP (h := readyZ_spec _ _ _ m s1 s2 s3 s4 (hm.ext extA)) (k := ?_)
                | refine mj_callP (h := awake_spec _ _ _) (k := ?_)
                | fail)
              | ((fail_if_success (first | refine is_ucall ?_ | refine is_umcall ?_)); first | refine W1 ?_ | refine Wc ?_ | refine W2c ?_ ?_ | refine Wg ?_ | refine W2 ?_ ?_ | exact Wdead | refine Wlive (fun hb => ?_) | intro _ _ _ _ _ _ _ _ | refine We ?_ | refine Wx ?_ | refine Wt ?_ | refine Wm ?_ | refine W2m ?_ ?_ | refine Wl ?_)
              | fail)
            rw [wrap_u64 (n := (j : Int)) (by omega) (by omega)]
            refine OpsJ.normA ?_
            refine st_shl rfl rfl (by omega) ?_
            rw [ep']
            refine OpsJ.normA ?_
            refine st_bits rfl rfl hor ?_
            refine OpsJ.normA ?_
            repeat' (first
              | (refine is_ucall ?_; first
                | refine st_callP (h := readyZ_spec _ _ _ m s1 s2 s3 s4 (hm.ext extA)) (k := ?_)
                | refine st_callP (h := awake_spec _ _ _) (k := ?_)
                | fail)
              | (refine is_umcall ?_; first
                | refine mj_callP (h := readyZ_spec _ _ _ m s1 s2 s3 s4 (hm.ext extA)) (k := ?_)
                | refine mj_callP (h := awake_spec _ _ _) (k := ?_)
                | fail)
              | ((fail_if_success (first | refine is_ucall ?_ | refine is_umcall ?_)); first | refine W1 ?_ | refine Wc ?_ | refine W2c ?_ ?_ | refine Wg ?_ | refine W2 ?_ ?_ | exact Wdead | refine Wlive (fun hb => ?_) | intro _ _ _ _ _ _ _ _ | refine We ?_ | refine Wx ?_ | refine Wt ?_ | refine Wm ?_ | refine W2m ?_ ?_ | refine Wl ?_)
              | fail)
            exact ⟨(), hlt4, (by repeat' (first | exact Weak.nil | refine Weak.wild ?_ | refine Weak.same ?_ | refine Weak.intEq (by first | omega | (simp; done) | (push_cast; omega)) ?_)), rfl, rfl⟩
          | false =>
            rw [hej] at hld
            rw [if_neg (by simp)]
            repeat' (first
              | (refine is_ucall ?_; first
                | refine st_callP (h := readyZ_spec _ _ _ m s1 s2 s3 s4 (hm.ext extA)) (k := ?_)
                | refine st_callP (h := awake_spec _ _ _) (k := ?_)
                | fail)
              | (refine is_umcall ?_; first
                | refine mj_callP (h := readyZ_spec _ _ _ m s1 s2 s3 s4 (hm.ext extA)) (k := ?_)
                | refine mj_callP (h := awake_spec _ _ _) (k := ?_)
                | fail)
              | ((fail_if_success (first | refine is_ucall ?_ | refine is_umcall ?_)); first | refine W1 ?_ | refine Wc ?_ | refine W2c ?_ ?_ | refine Wg ?_ | refine W2 ?_ ?_ | exact Wdead | refine Wlive (fun hb => ?_) | intro _ _ _ _ _ _ _ _ | refine We ?_ | refine Wx ?_ | refine Wt ?_ | refine Wm ?_ | refine W2m ?_ ?_ | refine Wl ?_)
              | fail)
            exact ⟨(), hlt4, (by repeat' (first | exact Weak.nil | refine Weak.wild ?_ | refine Weak.same ?_ | refine Weak.intEq (by first | omega | (simp; done) | (push_cast; omega)) ?_)), rfl, rfl⟩
        · obtain rfl : j = 4 := by omega
          repeat' (first
            | (refine is_ucall ?_; first
              | refine st_callP (h := readyZ_spec _ _ _ m s1 s2 s3 s4 (hm.ext extA)) (k := ?_)
              | refine st_callP (h := awake_spec _ _ _) (k := ?_)
              | fail)
            | (refine is_umcall ?_; first
              | refine mj_callP (h := readyZ_spec _ _ _ m s1 s2 s3 s4 (hm.ext extA)) (k := ?_)
              | refine mj_callP (h := awake_spec _ _ _) (k := ?_)
              | fail)
            | ((fail_if_success (first | refine is_ucall ?_ | refine is_umcall ?_)); first | refine W1 ?_ | refine Wc ?_ | refine W2c ?_ ?_ | refine Wg ?_ | refine W2 ?_ ?_ | exact Wdead | refine Wlive (fun hb => ?_) | intro _ _ _ _ _ _ _ _ | refine We ?_ | refine Wx ?_ | refine Wt ?_ | refine Wm ?_ | refine W2m ?_ ?_ | refine Wl ?_)
            | fail)
          exact ⟨(), hlt, (by repeat' (first | exact Weak.nil | refine Weak.wild ?_ | refine Weak.same ?_ | refine Weak.intEq (by first | omega | (simp; done) | (push_cast; omega)) ?_)), rfl, extA⟩
      · obtain rfl : i = ts.length := by omega
        rw [List.take_length, hend]
        repeat' (first
          | (refine is_ucall ?_; first
            | refine st_callP (h := readyZ_spec _ _ _ m s1 s2 s3 s4 (hm.ext extA)) (k := ?_)
            | refine st_callP (h := awake_spec _ _ _) (k := ?_)
            | fail)
          | (refine is_umcall ?_; first
            | refine mj_callP (h := readyZ_spec _ _ _ m s1 s2 s3 s4 (hm.ext extA)) (k := ?_)
            | refine mj_callP (h := awake_spec _ _ _) (k := ?_)
            | fail)
          | ((fail_if_success (first | refine is_ucall ?_ | refine is_umcall ?_)); first | refine W1 ?_ | refine Wc ?_ | refine W2c ?_ ?_ | refine Wg ?_ | refine W2 ?_ ?_ | exact Wdead | refine Wlive (fun hb => ?_) | intro _ _ _ _ _ _ _ _ | refine We ?_ | refine Wx ?_ | refine Wt ?_ | refine Wm ?_ | refine W2m ?_ ?_ | refine Wl ?_)
          | fail)
        all_goals first | exact ⟨rfl, rfl, rfl⟩ | exact absurd trivial (by assumption) | exact absurd rfl (by assumption) | trace_state
end
end Go.Proofs.Ytjbiidlmpaibkaa
