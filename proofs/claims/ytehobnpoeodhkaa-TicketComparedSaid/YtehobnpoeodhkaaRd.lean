import Derived.Test.YtehobnpoeodhkaaRs
namespace Go.Proofs.Ytehobnpoeodhkaa
open Go Go.Abs Go.Proofs
set_option maxHeartbeats 1600000
attribute [local irreducible] CallJ OpsJ WPJ CallV MonoJ SpecJ

/-! ### Each truth once -/
theorem rng_nodup (r : Int × Int) : (rng r).Nodup := by
  unfold rng
  rw [List.Nodup, List.pairwise_map]
  exact List.Pairwise.imp (fun {a b} h e => h (by omega)) (List.nodup_range (n := (r.2 - r.1 + 1).toNat))
theorem gen_nodup : ∀ (cs : List (Int × Int)), (gen cs).Nodup
  | [] => by simp [gen]
  | r :: cs => by
    have ih := gen_nodup cs
    unfold gen
    rw [List.Nodup, List.pairwise_flatMap]
    refine ⟨fun a _ => ?_, ?_⟩
    · rw [List.pairwise_map]
      exact List.Pairwise.imp (fun {a b} h e => h (List.cons.inj e).2) ih
    · refine List.Pairwise.imp ?_ (rng_nodup r)
      intro a b h x hx y hy e
      obtain ⟨x', _, rfl⟩ := List.mem_map.1 hx
      obtain ⟨y', _, rfl⟩ := List.mem_map.1 hy
      exact h (List.cons.inj e).1
theorem nth_inj : ∀ (cs : List (Int × Int)) (n k : Int), (∀ r ∈ cs, r.1 ≤ r.2) → 0 ≤ n → n < prodS cs → 0 ≤ k → k < prodS cs → nthL cs n = nthL cs k → n = k
  | [], n, k, _, h0, h1, h2, h3, _ => by simp only [prodS] at h1 h3; omega
  | r :: cs, n, k, h, h0, h1, h2, h3, e => by
    have hr := h r (by simp)
    obtain ⟨s, hs⟩ : ∃ s, s = r.2 - r.1 + 1 := ⟨_, rfl⟩
    have hs0 : 0 < s := by omega
    simp only [prodS, nthL, ← hs] at h1 h3 e
    obtain ⟨e1, e2⟩ := List.cons.inj e
    have q1 : n / s < prodS cs := (Int.ediv_lt_iff_lt_mul hs0).2 (by rw [Int.mul_comm]; exact h1)
    have q2 : k / s < prodS cs := (Int.ediv_lt_iff_lt_mul hs0).2 (by rw [Int.mul_comm]; exact h3)
    have ih := nth_inj cs (n / s) (k / s) (fun x hx => h x (by simp [hx])) (Int.ediv_nonneg h0 (by omega)) q1 (Int.ediv_nonneg h2 (by omega)) q2 e2
    have a1 := Int.mul_ediv_add_emod n s
    have a2 := Int.mul_ediv_add_emod k s
    rw [ih] at a1
    omega
theorem ref_nodup {m : HouseM} (hG : Good m) : (refL m).Nodup := by
  unfold refL refN
  have hf := hG.few
  refine List.Pairwise.filter _ ?_
  rw [List.pairwise_map]
  refine List.Pairwise.imp_of_mem ?_ (List.nodup_range (n := (min 3000 (prodS m.clocks)).toNat))
  intro a b ha hb h e
  have ha := List.mem_range.1 ha
  have hb := List.mem_range.1 hb
  unfold nthR at e
  have := nth_inj m.clocks a b (fun r hr => (hG.clock r hr).2.1) (by omega) (by omega) (by omega) (by omega) e
  omega
theorem truths_nodup (m : HouseM) : (truthsL m).Nodup := by
  unfold truthsL errs
  refine List.Pairwise.filter _ ?_
  rw [List.pairwise_map]
  exact List.Pairwise.imp (fun {a b} h e => h (List.append_cancel_right e)) (gen_nodup m.clocks)
theorem perm_truths {m : HouseM} (hG : Good m) : (truthsL m).Perm ((refL m).map (padL m)) := by
  refine (List.perm_ext_iff_of_nodup (truths_nodup m) ?_).2 fun a => ?_
  · rw [List.Nodup, List.pairwise_map]
    exact List.Pairwise.imp (fun {a b} h e => h (List.append_cancel_right e)) (ref_nodup hG)
  · rw [mem_truths hG, List.mem_map]
    exact ⟨fun ⟨l, h1, h2⟩ => ⟨l, h1, h2.symm⟩, fun ⟨l, h1, h2⟩ => ⟨l, h1, h2.symm⟩⟩
theorem count_pad {m : HouseM} (hG : Good m) {p q : List Int → Bool} (h : ∀ l ∈ refL m, p (padL m l) = q l) : (truthsL m).countP p = (refL m).countP q := by
  rw [(perm_truths hG).countP_eq, List.countP_map]
  exact List.countP_congr fun l hl => by simp [h l hl]
theorem pad_at {m : HouseM} {l : List Int} (h : isE m l = true) {j : Nat} (hj : j < m.clocks.length) : (padL m l).getD j 0 = l.getD j 0 := by
  simp only [isE, Bool.and_eq_true, decide_eq_true_eq] at h
  unfold padL
  simp [List.getD, List.getElem?_append_left (show j < l.length by omega)]
/-- how many of the lists have x at c -/
def cntR (ls : List (List Int)) (c : Nat) (x : Int) : Int := (ls.countP fun y => decide (y.getD c 0 = x) : Nat)
/-- what a comparison leaves, as the reference counts it -/
def leftR (ls : List (List Int)) (c : Nat) : Int := (ls.map fun l => cntR ls c (l.getD c 0)).foldl max 0
theorem max_same {A B : List Int} {a : Int} (hm : ∀ x, x ∈ A ↔ x ∈ B) : A.foldl max a = B.foldl max a := by
  have h1 := fmax_le A a
  have h2 := fmax_le B a
  have h3 : A.foldl max a ≤ B.foldl max a := by
    rcases fmax_mem A a with h | h
    · rw [h]; exact h2.1
    · exact h2.2 _ ((hm _).1 h)
  have h4 : B.foldl max a ≤ A.foldl max a := by
    rcases fmax_mem B a with h | h
    · rw [h]; exact h1.1
    · exact h1.2 _ ((hm _).2 h)
  omega
theorem left_eq {m : HouseM} (hG : Good m) {j : Nat} (hj : j < m.clocks.length) : leftS m j = leftR (refL m) j := by
  unfold leftS leftR cntR
  refine max_same (map_mem_iff hG fun l hl => ?_)
  have hE := ((mem_ref hG l).1 hl).1
  rw [count_pad hG (q := fun y => decide (y.getD j 0 = l.getD j 0)) fun y hy => ?_]
  have hEy := ((mem_ref hG y).1 hy).1
  rw [pad_at hE hj, pad_at hEy hj]
  rfl
def cntF (ls : List (List Int)) (c : Nat) (x : Int) (k : Nat) : Int := cntR (ls.take k) c x
theorem cntF_step {ls : List (List Int)} {c : Nat} {x : Int} {k : Nat} (h : k < ls.length) : cntF ls c x (k + 1) = if ls[k].getD c 0 = x then cntF ls c x k + 1 else cntF ls c x k := by
  unfold cntF cntR
  rw [List.take_succ_eq_append_getElem h, List.countP_append]
  by_cases e : ls[k].getD c 0 = x
  · rw [if_pos e]
    simp only [List.countP_cons, List.countP_nil, e, decide_true, if_true]
    omega
  · rw [if_neg e]
    simp only [List.countP_cons, List.countP_nil, e, decide_false, Bool.false_eq_true, if_false]
    omega
theorem cntF_bd (ls : List (List Int)) (c : Nat) (x : Int) (k : Nat) : 0 ≤ cntF ls c x k ∧ cntF ls c x k ≤ k := by
  unfold cntF cntR
  have h1 : (ls.take k).countP (fun y => decide (y.getD c 0 = x)) ≤ (ls.take k).length := List.countP_le_length
  rw [List.length_take] at h1
  omega
theorem cntF_all (ls : List (List Int)) (c : Nat) (x : Int) : cntF ls c x ls.length = cntR ls c x := by unfold cntF; rw [List.take_length]
def leftF (ls : List (List Int)) (c k : Nat) : Int := ((ls.take k).map fun l => cntR ls c (l.getD c 0)).foldl max 0
theorem leftF_step {ls : List (List Int)} {c k : Nat} (h : k < ls.length) : leftF ls c (k + 1) = max (leftF ls c k) (cntR ls c (ls[k].getD c 0)) := by
  unfold leftF
  rw [List.take_succ_eq_append_getElem h, List.map_append, List.foldl_append]
  rfl
theorem leftF_all (ls : List (List Int)) (c : Nat) : leftF ls c ls.length = leftR ls c := by unfold leftF leftR; rw [List.take_length]
/-- the clock to compare, one after the other -/
def lookF (f : Nat → Int) : Nat → Int × Int
  | 0 => (0, f 0)
  | k + 1 => if f (k + 1) < (lookF f k).2 then ((k + 1 : Nat), f (k + 1)) else lookF f k
theorem lookF_is (f : Nat → Int) : ∀ k, ∃ i : Nat, i ≤ k ∧ (lookF f k).1 = i ∧ (lookF f k).2 = f i ∧ (∀ j, j ≤ k → f i ≤ f j) ∧ ∀ j, j < i → f i < f j
  | 0 => ⟨0, Nat.le_refl _, rfl, rfl, fun j h => by rw [Nat.le_zero.1 h]; exact Int.le_refl _, fun j h => absurd h (Nat.not_lt_zero _)⟩
  | k + 1 => by
    obtain ⟨i, h1, h2, h3, h4, h5⟩ := lookF_is f k
    unfold lookF
    by_cases h : f (k + 1) < (lookF f k).2
    · rw [if_pos h]
      refine ⟨k + 1, Nat.le_refl _, rfl, rfl, fun j hj => ?_, fun j hj => ?_⟩
      · rcases Nat.lt_or_ge j (k + 1) with q | q
        · have := h4 j (by omega); omega
        · obtain rfl : j = k + 1 := by omega
          exact Int.le_refl _
      · have := h4 j (by omega); omega
    · rw [if_neg h]
      refine ⟨i, by omega, h2, h3, fun j hj => ?_, h5⟩
      rcases Nat.lt_or_ge j (k + 1) with q | q
      · exact h4 j (by omega)
      · obtain rfl : j = k + 1 := by omega
        omega
theorem look_min {f : Nat → Int} {n : Nat} (hn : 0 < n) : (((List.range n).map f).tail.foldl min (((List.range n).map f).headD 0)) = (lookF f (n - 1)).2 := by
  obtain ⟨i, h1, h2, h3, h4, h5⟩ := lookF_is f (n - 1)
  rw [h3]
  obtain ⟨k, rfl⟩ : ∃ k, n = k + 1 := ⟨n - 1, by omega⟩
  rw [List.range_succ_eq_map, List.map_cons, List.headD_cons, List.tail_cons, List.map_map]
  have a1 := fmin_le ((List.range k).map (f ∘ Nat.succ)) (f 0)
  have a2 := fmin_mem ((List.range k).map (f ∘ Nat.succ)) (f 0)
  have a3 : ∃ j, j ≤ k ∧ ((List.range k).map (f ∘ Nat.succ)).foldl min (f 0) = f j := by
    rcases a2 with h | h
    · exact ⟨0, by omega, h⟩
    · obtain ⟨j, hj, e⟩ := List.mem_map.1 h
      have := List.mem_range.1 hj
      exact ⟨j + 1, by omega, e.symm⟩
  obtain ⟨j, hj, e⟩ := a3
  have a4 := h4 j (by omega)
  have a5 : ((List.range k).map (f ∘ Nat.succ)).foldl min (f 0) ≤ f i := by
    cases i with
    | zero => exact a1.1
    | succ i => exact a1.2 _ (List.mem_map.2 ⟨i, List.mem_range.2 (by omega), rfl⟩)
  rw [e] at a5 ⊢
  omega
theorem look_idx {f : Nat → Int} {n : Nat} (hn : 0 < n) : indexS ((List.range n).map f) (lookF f (n - 1)).2 = (lookF f (n - 1)).1 := by
  obtain ⟨i, h1, h2, h3, h4, h5⟩ := lookF_is f (n - 1)
  rw [h2, h3]
  unfold indexS
  have hget : ∀ j, j < n → ((List.range n).map f).getD j 0 = f j := fun j hj => by simp [List.getD, hj]
  have hf : (List.range ((List.range n).map f).length).find? (fun j => f i == ((List.range n).map f).getD j 0) = some i := by
    rw [List.find?_eq_some_iff_getElem]
    refine ⟨by rw [hget i (by omega)]; simp, i, by simp; omega, by simp, fun j hj => ?_⟩
    have := h5 j hj
    simp only [List.getElem_range]
    rw [hget j (by omega)]
    simp
    omega
  rw [hf]
theorem lookF_congr {f h : Nat → Int} : ∀ k, (∀ j, j ≤ k → f j = h j) → lookF f k = lookF h k
  | 0, e => by unfold lookF; rw [e 0 (Nat.le_refl _)]
  | k + 1, e => by
    unfold lookF
    rw [lookF_congr k fun j hj => e j (by omega), e (k + 1) (Nat.le_refl _)]
theorem look_eq {m : HouseM} (hG : Good m) (hn : 0 < m.clocks.length) : (indexS (leavesS m) (lookV m), lookV m) = lookF (leftR (refL m)) (m.clocks.length - 1) := by
  have h1 : lookV m = (lookF (leftS m) (m.clocks.length - 1)).2 := by unfold lookV leavesS; exact look_min hn
  have h2 : indexS (leavesS m) (lookV m) = (lookF (leftS m) (m.clocks.length - 1)).1 := by rw [h1]; unfold leavesS; exact look_idx hn
  rw [h2, h1, lookF_congr (h := leftR (refL m)) _ fun j hj => left_eq hG (by omega)]
section
variable {γ : Type} (E : Env γ) (g : γ) (H : AHeap)
theorem Leaves_spec (lv : Value) (ls : List (List Int)) (c : Nat) (hL : LL H lv ls) (hn : ls.length ≤ 1000000) (hc : ∀ l ∈ ls, c < l.length) : CallJ Try.prog E 71 [lv, .int .i64 c] (fun v H' g' => v = .int .i64 (leftR ls c) ∧ H' = H ∧ g' = g) H g := by
  obtain ⟨vs, hvs, hvl, hin⟩ := hL
  have hlv : (vs.map fun x => [x]).length = ls.length := by simp [hvl]
  refine CallJ.tidy ?_
  refine CallJ.enter Try.func71 rfl (by simp only [Try.ntmps71, List.length_cons, List.length_nil, Nat.zero_add, Nat.reduceAdd, Nat.reduceSub, List.replicate_succ, List.replicate_zero, List.cons_append, List.nil_append]; rfl) ?_
  repeat' (first
    | refine W1 ?_ | refine Wc ?_ | refine W2c ?_ ?_ | refine Wg ?_ | refine W2 ?_ ?_ | exact Wdead | refine Wlive (fun hb => ?_) | intro _ _ _ _ _ _ _ _ | refine We ?_ | refine Wx ?_ | refine Wt ?_ | refine Wm ?_ | refine W2m ?_ ?_ | refine Wl ?_
    | fail)
  refine WPJ.loopT ls.length [7, 8, 9, 10, 11, 12, 13, 14, 15, 16, 17, 18, 19, 20, 21, 22, 23, 24, 25, 26, 27, 28, 29, 30, 31, 32, 33, 34, 35, 36, 37, 38, 39, 40] (fun j (x : Int) => [(6, .int .i64 j), (5, .int .i64 x)])
    (fun j x H1 g1 => g1 = g ∧ H1 = H ∧ x = leftF ls c j) 0 0 (Nat.zero_le _) (by intro p hp; simp at hp; rcases hp with rfl | rfl <;> rfl) ⟨rfl, rfl, rfl⟩ ?_
  rintro i x H1 g1 hj ⟨rfl, rfl, hx⟩ hl0
  simp only [updT, maskT, List.set_cons_zero, List.set_cons_succ]
  rcases Nat.lt_or_ge i ls.length with hlt | hge
  · obtain ⟨xi, heli, hrxi⟩ := LL.at_ hvl hin hlt
    have hci := hc _ (List.getElem_mem hlt)
    have hel2i : (encI ls[i])[(c : Int).toNat]? = some [.int .i64 (ls[i].getD c 0)] := by simp [hci]
    have hstep := leftF_step (c := c) hlt
    generalize hxv : ls[i].getD c 0 = xv at *
    rw [← hx] at hstep
    repeat' (first
      | refine W1 ?_ | refine Wc ?_ | refine W2c ?_ ?_ | refine Wg ?_ | refine W2 ?_ ?_ | exact Wdead | refine Wlive (fun hb => ?_) | intro _ _ _ _ _ _ _ _ | refine We ?_ | refine Wx ?_ | refine Wt ?_ | refine Wm ?_ | refine W2m ?_ ?_ | refine Wl ?_
      | fail)
    refine WPJ.loopT ls.length [15, 16, 17, 18, 19, 20, 21, 22, 23, 24, 25, 26, 27, 28, 29, 30, 31, 32, 33, 34, 35, 36, 37] (fun j (y : Int) => [(8, .int .i64 j), (7, .int .i64 y)])
      (fun j y H2 g2 => g2 = g1 ∧ H2 = H1 ∧ y = cntF ls c xv j) 0 0 (Nat.zero_le _) (by intro p hp; simp at hp; rcases hp with rfl | rfl <;> rfl) ⟨rfl, rfl, rfl⟩ ?_
    rintro k y H2 g2 hk ⟨rfl, rfl, hy⟩ hl1
    simp only [updT, maskT, List.set_cons_zero, List.set_cons_succ]
    rcases Nat.lt_or_ge k ls.length with hltk | hgek
    · obtain ⟨xk, helk, hrxk⟩ := LL.at_ hvl hin hltk
      have hck := hc _ (List.getElem_mem hltk)
      have hel2k : (encI ls[k])[(c : Int).toNat]? = some [.int .i64 (ls[k].getD c 0)] := by simp [hck]
      have hstepk := cntF_step (c := c) (x := xv) hltk
      have hbd := cntF_bd ls c xv k
      rw [← hy] at hstepk hbd
      generalize ls[k].getD c 0 = yv at *
      repeat' (first
        | refine W1 ?_ | refine Wc ?_ | refine W2c ?_ ?_ | refine Wg ?_ | refine W2 ?_ ?_ | exact Wdead | refine Wlive (fun hb => ?_) | intro _ _ _ _ _ _ _ _ | refine We ?_ | refine Wx ?_ | refine Wt ?_ | refine Wm ?_ | refine W2m ?_ ?_ | refine Wl ?_
        | fail)
      refine WPJ.draw 15 mixed (by kernel_rfl) (by kernel_rfl) (by kernel_rfl) (by decide) ?_
      refine MonoJ.normA ?_
      repeat' (first
        | refine W1 ?_ | refine Wc ?_ | refine W2c ?_ ?_ | refine Wg ?_ | refine W2 ?_ ?_ | exact Wdead | refine Wlive (fun hb => ?_) | intro _ _ _ _ _ _ _ _ | refine We ?_ | refine Wx ?_ | refine Wt ?_ | refine Wm ?_ | refine W2m ?_ ?_ | refine Wl ?_
        | fail)
      · exact ⟨_, hltk, (by repeat' (first | exact Weak.nil | refine Weak.wild ?_ | refine Weak.same ?_ | refine Weak.intEq (by first | omega | (simp; done) | (push_cast; omega)) ?_)), rfl, rfl, by rw [hstepk, if_pos (by assumption)]⟩
      · exact ⟨_, hltk, (by repeat' (first | exact Weak.nil | refine Weak.wild ?_ | refine Weak.same ?_ | refine Weak.intEq (by first | omega | (simp; done) | (push_cast; omega)) ?_)), rfl, rfl, by rw [hstepk, if_neg (by assumption)]⟩
    · obtain rfl : k = ls.length := by omega
      rw [cntF_all] at hy
      repeat' (first
        | refine W1 ?_ | refine Wc ?_ | refine W2c ?_ ?_ | refine Wg ?_ | refine W2 ?_ ?_ | exact Wdead | refine Wlive (fun hb => ?_) | intro _ _ _ _ _ _ _ _ | refine We ?_ | refine Wx ?_ | refine Wt ?_ | refine Wm ?_ | refine W2m ?_ ?_ | refine Wl ?_
        | fail)
      refine ⟨_, hlt, (by repeat' (first | exact Weak.nil | refine Weak.wild ?_ | refine Weak.same ?_ | refine Weak.intEq (by first | omega | (simp; done) | (push_cast; omega)) ?_)), rfl, rfl, ?_⟩
      rw [hstep, ← hy]
      exact max_if _ _
  · obtain rfl : i = ls.length := by omega
    rw [leftF_all] at hx
    repeat' (first
      | refine W1 ?_ | refine Wc ?_ | refine W2c ?_ ?_ | refine Wg ?_ | refine W2 ?_ ?_ | exact Wdead | refine Wlive (fun hb => ?_) | intro _ _ _ _ _ _ _ _ | refine We ?_ | refine Wx ?_ | refine Wt ?_ | refine Wm ?_ | refine W2m ?_ ?_ | refine Wl ?_
      | fail)
    rw [hx]
    exact ⟨rfl, rfl, rfl⟩
theorem LookR_spec (m : HouseM) (s1 s2 s3 lv : Value) (ls : List (List Int)) (hm : HouseIs H m s1 s2 s3) (hL : LL H lv ls) (hn : ls.length ≤ 1000000) (h0 : 0 < m.clocks.length) (hc : ∀ c, c < m.clocks.length → ∀ l ∈ ls, c < l.length) : CallJ Try.prog E 51 [hv m s1 s2 s3, lv] (fun v H' g' => v = .tuple #[.int .i64 (lookF (leftR ls) (m.clocks.length - 1)).1, .int .i64 (lookF (leftR ls) (m.clocks.length - 1)).2] ∧ H' = H ∧ g' = g) H g := by
  have hok := hm.cells
  have hrc := hm.clocks
  have hn1 := hm.n1
  refine CallJ.tidy ?_
  unfold hv
  refine CallJ.enter Try.func51 rfl (by simp only [Try.ntmps51, List.length_cons, List.length_nil, Nat.zero_add, Nat.reduceAdd, Nat.reduceSub, List.replicate_succ, List.replicate_zero, List.cons_append, List.nil_append]; rfl) ?_
  repeat' (first
    | (refine is_ucall ?_; first
      | refine st_callP (h := Leaves_spec _ _ _ lv ls 0 (hL.ext extA) hn (hc 0 (by omega))) (k := ?_)
      | refine st_callP (h := Leaves_spec _ _ _ lv ls _ (hL.ext extA) hn (hc _ (by omega))) (k := ?_)
      | fail)
    | (refine is_umcall ?_; first
      | refine mj_callP (h := Leaves_spec _ _ _ lv ls 0 (hL.ext extA) hn (hc 0 (by omega))) (k := ?_)
      | refine mj_callP (h := Leaves_spec _ _ _ lv ls _ (hL.ext extA) hn (hc _ (by omega))) (k := ?_)
      | fail)
    | refine W1 ?_ | refine Wc ?_ | refine W2c ?_ ?_ | refine Wg ?_ | refine W2 ?_ ?_ | exact Wdead | refine Wlive (fun hb => ?_) | intro _ _ _ _ _ _ _ _ | refine We ?_ | refine Wx ?_ | refine Wt ?_ | refine Wm ?_ | refine W2m ?_ ?_ | refine Wl ?_
    | fail)
  refine WPJ.loopT m.clocks.length [9, 10, 11, 12, 13, 14, 15, 16, 17, 18, 19, 20, 21, 22, 23, 24, 25, 26] (fun j (p : Int × Int) => [(8, .int .i64 j), (6, .int .i64 p.1), (7, .int .i64 p.2)])
    (fun j p H1 g1 => g1 = g ∧ Ext H H1 ∧ H1[H.length]? = some (.row [.int .i64 m.hour, .int .i64 m.grace, s1, s2, s3] 1 true) ∧ 1 ≤ j ∧ p = lookF (leftR ls) (j - 1)) 1 (0, leftR ls 0) h0 (by intro p hp; simp at hp; rcases hp with rfl | rfl | rfl <;> rfl) ⟨rfl, extA, getA, Nat.le_refl _, rfl⟩ ?_
  rintro j ⟨cl, le⟩ H1 g1 hj ⟨rfl, he, hb0, hj1, hp⟩ hl0
  simp only [updT, maskT, List.set_cons_zero, List.set_cons_succ]
  rcases Nat.lt_or_ge j m.clocks.length with hlt | hge
  · have hstep : lookF (leftR ls) j = if leftR ls j < le then (((j : Nat) : Int), leftR ls j) else (cl, le) := by
      obtain ⟨k, rfl⟩ : ∃ k, j = k + 1 := ⟨j - 1, by omega⟩
      rw [Nat.add_sub_cancel] at hp
      rw [hp]
      rw [show lookF (leftR ls) (k + 1) = if leftR ls (k + 1) < (lookF (leftR ls) k).2 then (((k + 1 : Nat) : Int), leftR ls (k + 1)) else lookF (leftR ls) k from rfl]
      rw [← hp]
    repeat' (first
      | (refine is_ucall ?_; first
        | refine st_callP (h := Leaves_spec _ _ _ lv ls 0 (hL.ext extA) hn (hc 0 (by omega))) (k := ?_)
        | refine st_callP (h := Leaves_spec _ _ _ lv ls _ (hL.ext extA) hn (hc _ (by omega))) (k := ?_)
        | fail)
      | (refine is_umcall ?_; first
        | refine mj_callP (h := Leaves_spec _ _ _ lv ls 0 (hL.ext extA) hn (hc 0 (by omega))) (k := ?_)
        | refine mj_callP (h := Leaves_spec _ _ _ lv ls _ (hL.ext extA) hn (hc _ (by omega))) (k := ?_)
        | fail)
      | refine W1 ?_ | refine Wc ?_ | refine W2c ?_ ?_ | refine Wg ?_ | refine W2 ?_ ?_ | exact Wdead | refine Wlive (fun hb => ?_) | intro _ _ _ _ _ _ _ _ | refine We ?_ | refine Wx ?_ | refine Wt ?_ | refine Wm ?_ | refine W2m ?_ ?_ | refine Wl ?_
      | fail)
    · exact ⟨((j : Int), leftR ls j), hlt, (by repeat' (first | exact Weak.nil | refine Weak.wild ?_ | refine Weak.same ?_ | refine Weak.intEq (by first | omega | (simp; done) | (push_cast; omega)) ?_)), rfl, he, hb0, by omega, by rw [Nat.add_sub_cancel, hstep, if_pos (by assumption)]⟩
    · exact ⟨(cl, le), hlt, (by repeat' (first | exact Weak.nil | refine Weak.wild ?_ | refine Weak.same ?_ | refine Weak.intEq (by first | omega | (simp; done) | (push_cast; omega)) ?_)), rfl, he, hb0, by omega, by rw [Nat.add_sub_cancel, hstep, if_neg (by omega)]⟩
  · obtain rfl : j = m.clocks.length := by omega
    repeat' (first
      | (refine is_ucall ?_; first
        | refine st_callP (h := Leaves_spec _ _ _ lv ls 0 (hL.ext extA) hn (hc 0 (by omega))) (k := ?_)
        | refine st_callP (h := Leaves_spec _ _ _ lv ls _ (hL.ext extA) hn (hc _ (by omega))) (k := ?_)
        | fail)
      | (refine is_umcall ?_; first
        | refine mj_callP (h := Leaves_spec _ _ _ lv ls 0 (hL.ext extA) hn (hc 0 (by omega))) (k := ?_)
        | refine mj_callP (h := Leaves_spec _ _ _ lv ls _ (hL.ext extA) hn (hc _ (by omega))) (k := ?_)
        | fail)
      | refine W1 ?_ | refine Wc ?_ | refine W2c ?_ ?_ | refine Wg ?_ | refine W2 ?_ ?_ | exact Wdead | refine Wlive (fun hb => ?_) | intro _ _ _ _ _ _ _ _ | refine We ?_ | refine Wx ?_ | refine Wt ?_ | refine Wm ?_ | refine W2m ?_ ?_ | refine Wl ?_
      | fail)
    rw [← hp]
    exact ⟨rfl, rfl, rfl⟩
end
end Go.Proofs.Ytehobnpoeodhkaa
