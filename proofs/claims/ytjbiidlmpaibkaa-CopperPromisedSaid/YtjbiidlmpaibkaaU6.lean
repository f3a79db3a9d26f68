
import Derived.Test.YtjbiidlmpaibkaaU5
import Derived.Test.YtjbiidlmpaibkaaRows
import Derived.KernelRfl
namespace Go.Abs
open Go Go.Deep Go.RowKit Go.ChangeShapes
theorem intsAt_nest {P : Program} {e : TypeId} {f0 f1 : Field} (he : P.underlying e = some (.struct #[f0, f1])) (hc : P.cellsOf e = 3) (o0 : f0.offset = 0) (o1 : f1.offset = 1) (c0 : P.cellsOf f0.type = 1) (u0 : P.underlying f0.type = some (.int .i64)) (h1 : IntsAt P f1.type 2) : IntsAt P e 3 := ⟨hc, by omega, fun X enc W fuel cs x h => by
  obtain ⟨xs, n, _, _, hl, hx, hf⟩ := DataW.trod_struct he h
  rw [hc] at hl
  match cs, hl with
  | [v0, v1, v2], _ =>
    match xs, hx with
    | [x0, x1], _ =>
      have h0 := hf 0 f0 rfl
      have h2 := hf 1 f1 rfl
      simp [o0, o1, c0, h1.1] at h0 h2
      obtain ⟨n0, e0, _⟩ := DataW.trod_int u0 h0
      obtain ⟨l, e1⟩ := h1.2.2 _ _ _ _ _ _ h2
      simp at e0
      subst e0
      exact ⟨n0 :: l, by rw [List.map_cons, ← e1]⟩⟩
end Go.Abs
namespace Go.Proofs.Ytjbiidlmpaibkaa
open Go Go.Abs Go.Proofs Go.ChangeShapes
set_option maxHeartbeats 400000
attribute [local irreducible] CallJ OpsJ WPJ CallV MonoJ SpecJ
structure CopZ (H : AHeap) (m : CopM) (s1 s2 s3 s4 : Value) : Prop where
  coal : RdS H s1 1 (encI m.coal)
  want : RdS H s2 1 (encI m.want)
  loss : RdS H s3 2 (m.loss.map encR)
  reads : RdS H s4 3 (m.reads.map encD)
  ok : [s1, s2, s3, s4].all cellOk = true
  n1 : m.coal.length ≤ 9223372036854775807
  n2 : m.want.length ≤ 9223372036854775807
  n3 : m.loss.length ≤ 9223372036854775807
  n4 : m.reads.length ≤ 9223372036854775807
  p1 : PlainS H s1
  p2 : PlainS H s2
  p3 : PlainS H s3
  p4 : PlainS H s4
theorem CopZ.ext {H H' : AHeap} {m : CopM} {s1 s2 s3 s4 : Value} (h : CopZ H m s1 s2 s3 s4) (he : Ext H H') : CopZ H' m s1 s2 s3 s4 := ⟨h.coal.ext he, h.want.ext he, h.loss.ext he, h.reads.ext he, h.ok, h.n1, h.n2, h.n3, h.n4, h.p1.ext he, h.p2.ext he, h.p3.ext he, h.p4.ext he⟩
theorem CopZ.cells {H : AHeap} {m : CopM} {s1 s2 s3 s4 : Value} (h : CopZ H m s1 s2 s3 s4) : (ccells m s1 s2 s3 s4).all cellOk = true := by have := h.ok; simp [cellOk] at this ⊢; exact this
theorem okWide_agg {P : Program} {W : World} {base : Nat} {t : TypeId} {v : Value} {fs : Array Field} (ht : P.underlying t = some (.struct fs)) (h : Value.okWide P W .any base t v) : ∃ cs, v = .agg cs ∧ cs.size = P.cellsOf t := by
  unfold Value.okWide at h
  rw [ht] at h
  obtain ⟨cs, h1, h2, _⟩ := h
  exact ⟨cs, h1, h2⟩
theorem thin_of {m : CopM} (ht : thinS m = true) : m.coal.length ≤ 30 ∧ m.want.length ≤ 30 ∧ m.loss.length ≤ 30 ∧ m.reads.length ≤ 30 := by
  unfold thinS at ht
  simp only [Bool.and_eq_true, decide_eq_true_eq] at ht
  exact ⟨ht.1.1, ht.1.2, ht.2.1, ht.2.2⟩
theorem CopZ.is {H : AHeap} {m : CopM} {s1 s2 s3 s4 : Value} (h : CopZ H m s1 s2 s3 s4) (ht : thinS m = true) : CopIs H m s1 s2 s3 s4 := by
  obtain ⟨a, b, c, d⟩ := thin_of ht
  exact ⟨h.coal, h.want, h.loss, h.reads, h.ok, by omega, by omega, by omega, by omega, PlainS.a h.p1, PlainS.a h.p2, PlainS.a h.p3, PlainS.a h.p4⟩
theorem und3 : Try.prog.underlying 3 = some (.int .i64) := by kernel_rfl
theorem und22 : Try.prog.underlying 22 = some (.slice 3) := by kernel_rfl
theorem und25 : Try.prog.underlying 25 = some (.slice 24) := by kernel_rfl
theorem und26 : Try.prog.underlying 26 = some (.slice 100) := by kernel_rfl
theorem cel3 : Try.prog.cellsOf 3 = 1 := by kernel_rfl
theorem cel24 : Try.prog.cellsOf 24 = 2 := by kernel_rfl
theorem und24 : Try.prog.underlying 24 = some (.struct #[.mk "Lo" 3 0 false "" "" 0, .mk "Hi" 3 1 false "" "" 8]) := by kernel_rfl
theorem i3 : IntsAt Try.prog 3 1 := intsAt_int und3 cel3
theorem i24 : IntsAt Try.prog 24 2 := intsAt_struct2 und24 cel24 rfl rfl cel3 cel3 und3 und3
theorem i100 : IntsAt Try.prog 100 3 := intsAt_nest (f0 := .mk "Hour" 3 0 false "" "" 0) (f1 := .mk "Buckets" 24 1 false "" "" 8) (by kernel_rfl) (by kernel_rfl) rfl rfl cel3 und3 i24
theorem und28 : Try.prog.underlying 28 = some (.struct #[.mk "Last" 3 0 false "" "" 0, .mk "Start" 3 1 false "" "" 8, .mk "Most" 3 2 false "" "" 16, .mk "Per" 3 3 false "" "" 24, .mk "Shovels" 3 4 false "" "" 32, .mk "Coal" 22 5 false "" "" 40, .mk "Want" 22 6 false "" "" 64, .mk "Heat" 24 7 false "" "" 88, .mk "Loss" 25 9 false "" "" 104, .mk "Readings" 26 10 false "" "" 128]) := by kernel_rfl
theorem cel22 : Try.prog.cellsOf 22 = 1 := by kernel_rfl
theorem cel25 : Try.prog.cellsOf 25 = 1 := by kernel_rfl
theorem cel26 : Try.prog.cellsOf 26 = 1 := by kernel_rfl
theorem cel28 : Try.prog.cellsOf 28 = 11 := by kernel_rfl
def toI (l : List Int) : Int := l.getD 0 0
def toR (l : List Int) : Int × Int := (l.getD 0 0, l.getD 1 0)
def toD (l : List Int) : ReadM := ⟨l.getD 0 0, l.getD 1 0, l.getD 2 0⟩
theorem toI_enc {xs : List (List Int)} (h : ∀ x ∈ xs, x.length = 1) : xs.map (·.map cellI) = encI (xs.map toI) := by
  rw [encI_eq, List.map_map]
  refine List.map_congr_left fun x hx => ?_
  match x, h x hx with
  | [a], _ => rfl
theorem toR_enc {xs : List (List Int)} (h : ∀ x ∈ xs, x.length = 2) : xs.map (·.map cellI) = (xs.map toR).map encR := by
  rw [List.map_map]
  refine List.map_congr_left fun x hx => ?_
  match x, h x hx with
  | [a, b], _ => rfl
theorem toD_enc {xs : List (List Int)} (h : ∀ x ∈ xs, x.length = 3) : xs.map (·.map cellI) = (xs.map toD).map encD := by
  rw [List.map_map]
  refine List.map_congr_left fun x hx => ?_
  match x, h x hx with
  | [a, b, c], _ => rfl
def OneOf (W : World) (_i : Nat) (ob : AObj) (im : Option Img) : Prop := ∀ m, im = some m → m.blk < W.heap.size ∧ m.own = false ∧ ∀ ρ, ORel ρ ob m W.heap[m.blk]?
set_option maxRecDepth 100000 in
theorem cop_abs {X : Type} {enc : TypeId × Value → X} {W : World} {base : Nat} {v : Value} {d : DataW X} {ps : List MemPlace} (i : Nat) (hok : Value.okWide Try.prog W .any base 28 v) (h : DataW.Trod enc Try.prog W 0 (fun _ => true) true 28 v d ps) :
    ∃ (m : CopM) (s1 s2 s3 s4 : Value) (o1 o2 o3 o4 : AObj) (m1 m2 m3 m4 : Option Img), OneOf W i o1 m1 ∧ OneOf W (i + 1) o2 m2 ∧ OneOf W (i + 2) o3 m3 ∧ OneOf W (i + 3) o4 m4 ∧
      (∀ ρ : Ren, ρ i = m1 → ρ (i + 1) = m2 → ρ (i + 2) = m3 → ρ (i + 3) = m4 → VRel ρ (cv m s1 s2 s3 s4) v) ∧ (∀ A : AHeap, A[i]? = some o1 → A[i + 1]? = some o2 → A[i + 2]? = some o3 → A[i + 3]? = some o4 → CopZ A m s1 s2 s3 s4) := by
  have hag := @okWide_agg Try.prog W base 28 v _ und28 hok
  obtain ⟨cs, rfl, hsz⟩ := hag
  rw [cel28] at hsz
  obtain ⟨fuel, h⟩ := h
  obtain ⟨cl⟩ := cs
  simp at hsz
  match cl, hsz with
  | [v0, v1, v2, v3, v4, v5, v6, v7, v8, v9, v10], _ =>
    have h : DataW.trod enc Try.prog W 0 (fun _ => true) true fuel 28 [v0, v1, v2, v3, v4, v5, v6, v7, v8, v9, v10] = some (d, ps) := h
    obtain ⟨xs, n, _, _, _, hx, hf⟩ := DataW.trod_struct und28 h
    match xs, hx with
    | [x0, x1, x2, x3, x4, x5, x6, x7, x8, x9], _ =>
      have h0 := hf 0 _ rfl
      have h1 := hf 1 _ rfl
      have h2 := hf 2 _ rfl
      have h3 := hf 3 _ rfl
      have h4 := hf 4 _ rfl
      have h5 := hf 5 _ rfl
      have h6 := hf 6 _ rfl
      have h7 := hf 7 _ rfl
      have h8 := hf 8 _ rfl
      have h9 := hf 9 _ rfl
      simp [cel3, cel22, cel24, cel25, cel26] at h0 h1 h2 h3 h4 h5 h6 h7 h8 h9
      obtain ⟨n0, e0, _⟩ := DataW.trod_int und3 h0
      obtain ⟨n1, e1, _⟩ := DataW.trod_int und3 h1
      obtain ⟨n2, e2, _⟩ := DataW.trod_int und3 h2
      obtain ⟨n3, e3, _⟩ := DataW.trod_int und3 h3
      obtain ⟨n4, e4, _⟩ := DataW.trod_int und3 h4
      obtain ⟨l7, e7⟩ := i24.2.2 _ _ _ _ _ _ h7
      simp at e0 e1 e2 e3 e4
      subst e0; subst e1; subst e2; subst e3; subst e4
      have hl7 : l7.length = 2 := by have := congrArg List.length e7; simpa using this.symm
      obtain ⟨y1, o1, m1, s1, a1, b1, c1, d1, f1, g1⟩ := slice_abs (i := i) und22 i3 h5
      obtain ⟨y2, o2, m2, s2, a2, b2, c2, d2, f2, g2⟩ := slice_abs (i := i + 1) und22 i3 h6
      obtain ⟨y3, o3, m3, s3, a3, b3, c3, d3, f3, g3⟩ := slice_abs (i := i + 2) und25 i24 h8
      obtain ⟨y4, o4, m4, s4, a4, b4, c4, d4, f4, g4⟩ := slice_abs (i := i + 3) und26 i100 h9
      match l7, hl7 with
      | [p, q], _ =>
        obtain ⟨rfl, rfl⟩ : v7 = cellI p ∧ v8 = cellI q := by simpa using e7
        refine ⟨⟨n0, n1, n2, n3, n4, y1.map toI, y2.map toI, p, q, y3.map toR, y4.map toD⟩, s1, s2, s3, s4, o1, o2, o3, o4, m1, m2, m3, m4, d1, d2, d3, d4, fun ρ r1 r2 r3 r4 => ?_, fun A t1 t2 t3 t4 => ?_⟩
        · refine .agg rfl fun j q1 q2 => ?_
          match j, q1 with
          | 0, _ => exact .int _ _
          | 1, _ => exact .int _ _
          | 2, _ => exact .int _ _
          | 3, _ => exact .int _ _
          | 4, _ => exact .int _ _
          | 5, _ => exact c1 ρ r1
          | 6, _ => exact c2 ρ r2
          | 7, _ => exact .int _ _
          | 8, _ => exact .int _ _
          | 9, _ => exact c3 ρ r3
          | 10, _ => exact c4 ρ r4
        · have hml : maxLen = 9223372036854775807 := by decide
          rw [hml] at b1 b2 b3 b4
          exact ⟨by rw [← toI_enc a1]; exact (f1 A t1).1, by rw [← toI_enc a2]; exact (f2 A t2).1, by rw [← toR_enc a3]; exact (f3 A t3).1, by rw [← toD_enc a4]; exact (f4 A t4).1, by simp [g1, g2, g3, g4], by simpa using b1, by simpa using b2, by simpa using b3, by simpa using b4, (f1 A t1).2, (f2 A t2).2, (f3 A t3).2, (f4 A t4).2⟩
section
variable {γ : Type} (E : Env γ) (g : γ) (H : AHeap)
theorem ThinZ_spec (m : CopM) (s1 s2 s3 s4 : Value) (hm : CopZ H m s1 s2 s3 s4) : CallJ Try.prog E 19 [cv m s1 s2 s3 s4] (fun v H' g' => v = .bool (thinS m) ∧ H' = H ∧ g' = g) H g := by
  have hok := hm.cells
  have hr1 := hm.coal
  have hr2 := hm.want
  have hr3 := hm.loss
  have hr4 := hm.reads
  have hn1 := hm.n1
  have hn2 := hm.n2
  have hn3 := hm.n3
  have hn4 := hm.n4
  refine CallJ.tidy ?_
  unfold cv thinS
  refine CallJ.enter Try.func19 rfl (by simp only [Try.ntmps19, List.length_cons, List.length_nil, Nat.zero_add, Nat.reduceSub, List.replicate_succ, List.replicate_zero, List.cons_append, List.nil_append]; rfl) ?_
  repeat' (first
    | ((fail_if_success (first | refine is_ucall ?_ | refine is_umcall ?_)); first | refine W1 ?_ | refine Wc ?_ | refine W2c ?_ ?_ | refine Wg ?_ | refine W2 ?_ ?_ | exact Wdead | refine Wlive (fun hb => ?_) | intro _ _ _ _ _ _ _ _ | refine We ?_ | refine Wx ?_ | refine Wt ?_ | refine Wm ?_ | refine W2m ?_ ?_ | refine Wl ?_)
    | fail)
  all_goals (refine ⟨?_, rfl, rfl⟩; show Value.bool _ = _; congr 1; all_goals first | rfl | (rw [Bool.eq_iff_iff]; simp only [Bool.and_eq_true, decide_eq_true_eq, Bool.false_eq_true, true_iff, false_iff]; omega))
theorem readyN_spec (m : CopM) (s1 s2 s3 s4 : Value) (hm : CopZ H m s1 s2 s3 s4) (ht : thinS m = false) : CallJ Try.prog E 58 [cv m s1 s2 s3 s4] (fun v H' g' => v = .bool (thinS m && decide (checkS m = 0)) ∧ H' = H ∧ g' = g) H g := by
  have hok := hm.cells
  refine CallJ.tidy ?_
  unfold cv
  refine CallJ.enter Try.func58 rfl (by simp only [Try.ntmps58, List.length_cons, List.length_nil, Nat.zero_add, Nat.reduceSub, List.replicate_succ, List.replicate_zero, List.cons_append, List.nil_append]; rfl) ?_
  repeat' (first
    | (refine is_ucall ?_; first
      | refine st_callP (h := ThinZ_spec _ _ _ m s1 s2 s3 s4 (hm.ext extA)) (k := ?_)
      | fail)
    | (refine is_umcall ?_; first
      | refine mj_callP (h := ThinZ_spec _ _ _ m s1 s2 s3 s4 (hm.ext extA)) (k := ?_)
      | fail)
    | ((fail_if_success (first | refine is_ucall ?_ | refine is_umcall ?_)); first | refine W1 ?_ | refine Wc ?_ | refine W2c ?_ ?_ | refine Wg ?_ | refine W2 ?_ ?_ | exact Wdead | refine Wlive (fun hb => ?_) | intro _ _ _ _ _ _ _ _ | refine We ?_ | refine Wx ?_ | refine Wt ?_ | refine Wm ?_ | refine W2m ?_ ?_ | refine Wl ?_)
    | fail)
  · exact ⟨rfl, rfl, rfl⟩
end
theorem readyZ_spec {γ : Type} (E : Env γ) (g : γ) (H : AHeap) (m : CopM) (s1 s2 s3 s4 : Value) (hm : CopZ H m s1 s2 s3 s4) : CallJ Try.prog E 58 [cv m s1 s2 s3 s4] (fun v H' g' => v = .bool (thinS m && decide (checkS m = 0)) ∧ H' = H ∧ g' = g) H g := by
  cases ht : thinS m with
  | false => rw [← ht]; exact readyN_spec E g H m s1 s2 s3 s4 hm ht
  | true => rw [← ht]; exact ready_spec E g H m s1 s2 s3 s4 (hm.is ht).y
end Go.Proofs.Ytjbiidlmpaibkaa
namespace Go.Proofs.Ytjbiidlmpaibkaa
open Go Go.Abs Go.Proofs
set_option maxHeartbeats 1600000
attribute [local irreducible] CallJ OpsJ WPJ CallV MonoJ SpecJ
theorem wrap_u64 {n : Int} (h0 : 0 ≤ n) (h1 : n < 18446744073709551616) : IntKind.u64.wrap n = n := by
  simp [IntKind.wrap, IntKind.bits, IntKind.signed]
  omega
theorem shr_eq {b p : Nat} (hp : p < 64) : ((b : Int)).fdiv (2 ^ min (IntKind.u64.wrap (p : Int)).toNat IntKind.i64.bits) = ((b / 2 ^ p : Nat) : Int) := by
  have h1 : min (p : Int).toNat IntKind.i64.bits = p := by simp [IntKind.bits]; omega
  rw [wrap_u64 (by omega) (by omega), h1, show ((2 : Int) ^ p) = ((2 ^ p : Nat) : Int) by simp, Int.fdiv_eq_ediv_of_nonneg _ (Int.natCast_nonneg _)]
  simp
theorem bit_tmod {b i : Nat} (hi : i < 64) : (((b : Int)).fdiv (2 ^ min (IntKind.u64.wrap (i : Int)).toNat IntKind.i64.bits)).tmod 2 = if b.testBit i = true then 1 else 0 := by
  rw [shr_eq hi, Int.tmod_eq_emod_of_nonneg (Int.natCast_nonneg _), Nat.testBit_eq_decide_div_mod_eq]
  generalize b / 2 ^ i = q
  simp only [decide_eq_true_eq]
  split <;> omega
theorem shl_eq {a j k p : Nat} (hp : p = 2 ^ k) (hk : a * 2 ^ j = 2 ^ k) (hj : j ≤ 30) (hk30 : k ≤ 31) : IntKind.i64.wrap ((a : Int) * 2 ^ (min ((j : Int)).toNat IntKind.i64.bits)) = (p : Int) := by
  have h1 : min ((j : Int)).toNat IntKind.i64.bits = j := by simp [IntKind.bits]; omega
  have h2 : 2 ^ k ≤ 2 ^ 31 := Nat.pow_le_pow_right (by decide) hk30
  have h3 : ((a : Int) * 2 ^ j) = ((a * 2 ^ j : Nat) : Int) := by simp
  rw [h1, h3, hk, ← hp]
  simp [IntKind.wrap, IntKind.bits, IntKind.signed]
  omega
def rd0 : ReadM := ⟨0, 0, 0⟩
def readsK (m : CopM) (b j : Nat) : List ReadM := ((List.range j).filter fun p => b.testBit p).map fun p => m.reads.getD p rd0
theorem readsK_step (m : CopM) (b j : Nat) : readsK m b (j + 1) = if b.testBit j = true then readsK m b j ++ [m.reads.getD j rd0] else readsK m b j := by
  unfold readsK
  rw [List.range_succ, List.filter_append, List.map_append]
  by_cases h : b.testBit j <;> simp [h]
theorem readsK_len (m : CopM) (b j : Nat) : (readsK m b j).length ≤ j := by
  unfold readsK
  rw [List.length_map]
  exact Nat.le_trans (List.length_filter_le _ _) (by simp)
def readsB (m : CopM) (b : Nat) : List ReadM := readsK m b m.reads.length
def subM (m : CopM) (b : Nat) : CopM := { m with reads := readsB m b }
theorem readsK_sub (m : CopM) (b : Nat) : ∀ j, j ≤ m.reads.length → (readsK m b j).Sublist (m.reads.take j)
  | 0, _ => by simp [readsK]
  | j + 1, h => by
    have ih := readsK_sub m b j (by omega)
    rw [readsK_step, List.take_succ_eq_append_getElem (by omega), show m.reads.getD j rd0 = m.reads[j] by simp [List.getD, show j < m.reads.length by omega]]
    split
    · exact ih.append (List.Sublist.refl _)
    · exact ih.trans (List.sublist_append_left _ _)
theorem readsB_sub (m : CopM) (b : Nat) : (readsB m b).Sublist m.reads := by
  have := readsK_sub m b m.reads.length (Nat.le_refl _)
  rw [List.take_length] at this
  exact this
theorem readsK_mask (m : CopM) (k : Nat) : ∀ j, j ≤ m.reads.length → readsK m (2 ^ k - 1) j = m.reads.take (min k j)
  | 0, _ => by simp [readsK]
  | j + 1, h => by
    have ih := readsK_mask m k j (by omega)
    rw [readsK_step, Nat.testBit_two_pow_sub_one, ih, show m.reads.getD j rd0 = m.reads[j] by simp [List.getD, show j < m.reads.length by omega]]
    by_cases hj : j < k
    · rw [if_pos (by simpa using hj), Nat.min_eq_right (by omega), Nat.min_eq_right (by omega), List.take_succ_eq_append_getElem (by omega)]
    · rw [if_neg (by simpa using hj), Nat.min_eq_left (by omega), Nat.min_eq_left (by omega)]
theorem subM_mask (m : CopM) (k : Nat) : subM m (2 ^ k - 1) = upto m k := by
  unfold subM upto readsB
  rw [readsK_mask m k _ (Nat.le_refl _)]
  congr 1
  rcases Nat.le_total k m.reads.length with h | h
  · rw [Nat.min_eq_left h]
  · rw [Nat.min_eq_right h, List.take_of_length_le (Nat.le_refl _), List.take_of_length_le h]
theorem sub_good {m : CopM} (hG : Good m) (b : Nat) : Good (subM m b) := hG.reads (readsB_sub m b)
theorem check_of_good {m : CopM} (h : Good m) : checkS m = 0 := by
  have hl0 := h.w.l0
  have hl4 := h.w.l4
  have hcl := h.w.cl
  have hwl := h.w.wl
  obtain ⟨hn5, hnl⟩ := hrs_le h.w
  have h1 : isLongS m = false := by
    have := h.nr
    unfold isLongS; simp; omega
  have hfc : forHours m m.coal m.shovels = true := by
    unfold forHours
    rw [Bool.and_eq_true]
    refine ⟨by simp; omega, List.all_eq_true.2 fun x hx => ?_⟩
    have := h.cs x hx
    unfold inR; simp; omega
  have hfw : forHours m m.want 20 = true := by
    unfold forHours
    rw [Bool.and_eq_true]
    refine ⟨by simp; omega, List.all_eq_true.2 fun x hx => ?_⟩
    have := h.wn x hx
    unfold inR; simp; omega
  have hnum : numsS m = true := by
    have a := h.w.most; have b := h.w.start; have c := h.w.per; have d := h.sh
    unfold numsS inR; simp; omega
  have h2 : isValidS m = true := by
    unfold isValidS
    rw [decide_eq_true hl0, hnum, hfc, hfw, h.hh, decide_eq_true h.ll, List.all_eq_true.2 h.lb, List.all_eq_true.2 h.rd]
    rfl
  have h4 := h.sz
  unfold checkS
  rw [h1, h2, if_neg (by decide), if_pos rfl, if_neg (by omega)]
theorem gen_ne : ∀ (l : List (Int × Int)), (∀ r ∈ l, r.1 ≤ r.2) → gen l ≠ []
  | [], _ => by simp [gen]
  | r :: l, h => by
    have ih := gen_ne l (fun x hx => h x (by simp [hx]))
    have hr := h r (by simp)
    obtain ⟨s, hs⟩ := List.exists_mem_of_ne_nil _ ih
    have h1 : r.1 ∈ rng r := by
      unfold rng
      exact List.mem_map.2 ⟨0, List.mem_range.2 (by omega), by simp⟩
    intro e
    have : (r.1 :: s) ∈ gen (r :: l) := List.mem_flatMap.2 ⟨r.1, h1, List.mem_map.2 ⟨s, hs, rfl⟩⟩
    rw [e] at this
    cases this
theorem allT_ne {m : CopM} (hG : Good m) : allT m ≠ [] := by
  have hh := hG.hh
  simp only [upTo, Bool.and_eq_true, decide_eq_true_eq] at hh
  have h1 : genA m.loss ≠ [] := by
    unfold genA
    intro e
    refine gen_ne m.loss (fun r hr => ?_) (by simpa using e)
    have := hG.lb r hr
    simp only [upTo, Bool.and_eq_true, decide_eq_true_eq] at this
    exact this.1.2
  obtain ⟨es, hes⟩ := List.exists_mem_of_ne_nil _ h1
  have h2 : m.hlo ∈ rng (m.hlo, m.hhi) := by
    unfold rng
    exact List.mem_map.2 ⟨0, List.mem_range.2 (by simp; omega), by simp⟩
  intro e
  have : (m.hlo, es) ∈ allT m := List.mem_flatMap.2 ⟨m.hlo, h2, List.mem_map.2 ⟨es, hes, rfl⟩⟩
  rw [e] at this
  cases this
theorem hasS_nil {m : CopM} (hG : Good m) (hc : m.reads = []) : hasS m = true := by
  obtain ⟨t, ht⟩ := List.exists_mem_of_ne_nil _ (allT_ne hG)
  have h2 : t ∈ truthsL m := by
    unfold truthsL
    exact List.mem_filter.2 ⟨ht, by unfold isT rightS; rw [hc]; rfl⟩
  unfold hasS
  cases h : truthsL m with
  | nil => rw [h] at h2; cases h2
  | cons a l => rfl
theorem first_some {m : CopM} {j : Nat} (hG : Good m) (h : firstA m = some j) : j < m.reads.length ∧ hasS (upto m (j + 1)) = false ∧ hasS (upto m j) = true := by
  unfold firstA firstS at h
  rw [List.find?_eq_some_iff_getElem] at h
  obtain ⟨h1, i, hi, h2, h3⟩ := h
  simp at hi h2
  subst h2
  refine ⟨hi, by simpa using h1, ?_⟩
  cases i with
  | zero => exact hasS_nil (upto_good hG 0) (by simp [upto])
  | succ i =>
    have := h3 i (by omega)
    simpa using this
theorem checkT_good {m : CopM} (hG : Good m) : checkT m = if hasS m then 0 else 11 := by
  unfold checkT
  rw [if_pos (check_of_good hG)]
theorem tidyR {γ : Type} {H H1 : AHeap} {m : CopM} {s1 s2 s3 v4 : Value} {a1 a2 : Nat} {K : Value → AHeap → γ → Prop} {g : γ} (l1 : Low H.length s1) (l2 : Low H.length s2) (l3 : Low H.length s3)
    (h4 : AppB encD 3 H1 a1 a2 v4 m.reads) (ha : H.length ≤ a1) (he : Ext H H1) (hk : K (cv m s1 s2 s3 (slV H.length m.reads)) (H ++ slH encD 3 m.reads) g) : Tidy H K (cv m s1 s2 s3 v4) H1 g := by
  obtain ⟨k1, n1, m1, b1, z1, p1⟩ := h4.parts
  obtain ⟨L, rfl⟩ := he
  refine ⟨k1, H, L, _, slH encD 3 m.reads, rfl, rfl, fun _ _ h => .inl h, n1, fun k hk' => by have := b1 k hk'; omega, m1, (slH_flat fun _ => rfl).ok, ?_, hk⟩
  unfold cv
  refine .aggs rfl fun j q1 q2 => ?_
  have e1' := p1 H.length [] []
  simp only [List.nil_append, List.append_nil, List.length_nil, Nat.add_zero] at e1'
  match j, q1 with
  | 0, _ => exact .flat rfl
  | 1, _ => exact .flat rfl
  | 2, _ => exact .flat rfl
  | 3, _ => exact .flat rfl
  | 4, _ => exact .flat rfl
  | 5, _ => exact .low l1
  | 6, _ => exact .low l2
  | 7, _ => exact .flat rfl
  | 8, _ => exact .flat rfl
  | 9, _ => exact .low l3
  | 10, _ => exact e1'
section
variable {γ : Type} (E : Env γ) (g : γ) (H : AHeap)
theorem some_subO (m : CopM) (s1 s2 s3 s4 : Value) (b : Nat) (hm : CopIs H m s1 s2 s3 s4) (hb4 : m.reads.length ≤ 30) : CallJ Try.prog E 72 [cv m s1 s2 s3 s4, .int .i64 b] (fun v H' g' => v = cv (subM m b) s1 s2 s3 (slV H.length (readsB m b)) ∧ H' = H ++ slH encD 3 (readsB m b) ∧ g' = g) H g := by
  have hok := hm.cells
  have hr4 := hm.reads
  have hl1 := RdS.low hm.coal
  have hl2 := RdS.low hm.want
  have hl3 := RdS.low hm.loss
  refine CallJ.tidy ?_
  unfold cv
  refine CallJ.enter Try.func72 rfl (by simp only [Try.ntmps72, List.length_cons, List.length_nil, Nat.zero_add, Nat.reduceAdd, Nat.reduceSub, List.replicate_succ, List.replicate_zero, List.cons_append, List.nil_append]; rfl) ?_
  repeat' (first
    | ((fail_if_success (first | refine is_ucall ?_ | refine is_umcall ?_)); first | refine W1 ?_ | refine Wc ?_ | refine W2c ?_ ?_ | refine Wg ?_ | refine W2 ?_ ?_ | exact Wdead | refine Wlive (fun hb => ?_) | intro _ _ _ _ _ _ _ _ | refine We ?_ | refine Wx ?_ | refine Wt ?_ | refine Wm ?_ | refine W2m ?_ ?_ | refine Wl ?_)
    | fail)
  refine WPJ.loopT m.reads.length [9, 10, 11, 12, 13, 14, 15, 16, 17, 18, 19, 20, 21, 22, 23, 24, 25, 26, 27, 28, 29, 30, 31] (fun j (v : Value) => [(6, .int .i64 j)])
    (fun j v H1 g1 => g1 = g ∧ Ext H H1 ∧ H1[H.length]? = some (.row (ccells m s1 s2 s3 s4) 1 true) ∧ (∃ cs, cs.length = 11 ∧ H1[H.length + 1]? = some (.row cs 1 true)) ∧ H1[H.length + 2]? = some (.row (ccells m s1 s2 s3 v) 1 true) ∧ AppG encD 3 H1 (H.length + 3) v (readsK m b j) ∧ H.length + 3 ≤ H1.length) 0 (.slice none 0 0) (Nat.zero_le _)
    (by intro p hp; simp at hp; rcases hp with rfl; rfl) ⟨rfl, extA, getA, ⟨_, ?_, getA⟩, getA, AppG.nil, by simp⟩ ?_
  · rfl
  rintro j v1 H1 g1 hj ⟨rfl, he, hb0, ⟨cs, hcs, hb1⟩, hb2, hA, hlen⟩ hl0
  unfold ccells at hb2
  simp only [updT, maskT, List.set_cons_zero, List.set_cons_succ]
  rcases Nat.lt_or_ge j m.reads.length with hlt | hge
  · have hel : (m.reads.map encD)[(j : Int).toNat]? = some (encD m.reads[j]) := by simp [hlt]
    have hstep := readsK_step m b j
    have htl : (readsK m b j).length ≤ 1000000 := by have := readsK_len m b j; omega
    have hwr : IntKind.u64.wrap (j : Int) = j := wrap_u64 (by omega) (by omega)
    have hq := bit_tmod (b := b) (i := j) (by omega)
    rw [show m.reads.getD j rd0 = m.reads[j] by simp [List.getD, hlt]] at hstep
    generalize hc : m.reads[j] = r at *
    cases htb : b.testBit j with
    | true =>
      rw [htb, if_pos rfl] at hq hstep
      repeat' (first
        | ((fail_if_success (first | refine is_ucall ?_ | refine is_umcall ?_)); first | refine W1 ?_ | refine Wc ?_ | refine W2c ?_ ?_ | refine Wg ?_ | refine W2 ?_ ?_ | exact Wdead | refine Wlive (fun hb => ?_) | intro _ _ _ _ _ _ _ _ | refine We ?_ | refine Wx ?_ | refine Wt ?_ | refine Wm ?_ | refine W2m ?_ ?_ | refine Wl ?_)
        | fail)
      clear hq hwr
      refine WPJ.draw 8 mixed (by kernel_rfl) (by kernel_rfl) (by kernel_rfl) (by decide) ?_
      refine MonoJ.normA ?_
      repeat' (first
        | ((fail_if_success (first | refine is_ucall ?_ | refine is_umcall ?_)); first | refine W1 ?_ | refine Wc ?_ | refine W2c ?_ ?_ | refine Wg ?_ | refine W2 ?_ ?_ | exact Wdead | refine Wlive (fun hb => ?_) | intro _ _ _ _ _ _ _ _ | refine We ?_ | refine Wx ?_ | refine Wt ?_ | refine Wm ?_ | refine W2m ?_ ?_ | refine Wl ?_)
        | fail)
      refine st_appG (a := r) (hA.app _) rfl encD_len rfl rfl getA (by simp) rfl rfl (by simp; omega) htl (by decide) ?_
      intro v2 H2 hA2 hE hK hL
      obtain ⟨i2, k2, rfl⟩ := hA2.slice
      have e0 := hK (H.length) _ (by omega) (get_old hb0)
      have e1 := hK (H.length + 1) _ (by omega) (get_old hb1)
      have e2 := hK (H.length + 2) _ (by omega) (get_old hb2)
      simp only [List.length_append, List.length_cons, List.length_nil] at hL
      refine OpsJ.normA ?_
      repeat' (first
        | ((fail_if_success (first | refine is_ucall ?_ | refine is_umcall ?_)); first | refine W1 ?_ | refine Wc ?_ | refine W2c ?_ ?_ | refine Wg ?_ | refine W2 ?_ ?_ | exact Wdead | refine Wlive (fun hb => ?_) | intro _ _ _ _ _ _ _ _ | refine We ?_ | refine Wx ?_ | refine Wt ?_ | refine Wm ?_ | refine W2m ?_ ?_ | refine Wl ?_)
        | fail)
      exact ⟨_, hlt, (by repeat' (first | exact Weak.nil | refine Weak.wild ?_ | refine Weak.same ?_ | refine Weak.intEq (by first | omega | (simp; done) | (push_cast; omega)) ?_)), rfl, Ext.set (hE H extA (by omega)) (by omega) _, getA, ⟨cs, hcs, getA⟩, getA, by rw [hstep]; refine hA2.set ?_; omega, by rw [List.length_set]; omega⟩
    | false =>
      rw [htb, if_neg (by simp)] at hq hstep
      repeat' (first
        | ((fail_if_success (first | refine is_ucall ?_ | refine is_umcall ?_)); first | refine W1 ?_ | refine Wc ?_ | refine W2c ?_ ?_ | refine Wg ?_ | refine W2 ?_ ?_ | exact Wdead | refine Wlive (fun hb => ?_) | intro _ _ _ _ _ _ _ _ | refine We ?_ | refine Wx ?_ | refine Wt ?_ | refine Wm ?_ | refine W2m ?_ ?_ | refine Wl ?_)
        | fail)
      exact ⟨v1, hlt, (by repeat' (first | exact Weak.nil | refine Weak.wild ?_ | refine Weak.same ?_ | refine Weak.intEq (by first | omega | (simp; done) | (push_cast; omega)) ?_)), rfl, he, hb0, ⟨cs, hcs, hb1⟩, hb2, by rw [hstep]; exact hA, hlen⟩
  · have hcv := hA.cell
    have hok3 : (ccells m s1 s2 s3 v1).all cellOk = true := by
      simp only [ccells, List.all_cons, List.all_nil, Bool.and_eq_true] at hok ⊢
      exact ⟨hok.1, hok.2.1, hok.2.2.1, hok.2.2.2.1, hok.2.2.2.2.1, hok.2.2.2.2.2.1, hok.2.2.2.2.2.2.1, hok.2.2.2.2.2.2.2.1, hok.2.2.2.2.2.2.2.2.1, hok.2.2.2.2.2.2.2.2.2.1, hcv, trivial⟩
    unfold ccells at hok3
    obtain rfl : j = m.reads.length := by omega
    repeat' (first
      | ((fail_if_success (first | refine is_ucall ?_ | refine is_umcall ?_)); first | refine W1 ?_ | refine Wc ?_ | refine W2c ?_ ?_ | refine Wg ?_ | refine W2 ?_ ?_ | exact Wdead | refine Wlive (fun hb => ?_) | intro _ _ _ _ _ _ _ _ | refine We ?_ | refine Wx ?_ | refine Wt ?_ | refine Wm ?_ | refine W2m ?_ ?_ | refine Wl ?_)
      | fail)
    exact tidyR (m := subM m b) hl1 hl2 hl3 (hA.set (by omega)).bnd (by omega) extA ⟨rfl, rfl, rfl⟩
theorem some_is {H H' : AHeap} {m : CopM} {s1 s2 s3 s4 : Value} {b n : Nat} {own : Bool} (hm : CopIs H m s1 s2 s3 s4) (he : Ext H H') (g3 : readsB m b ≠ [] → H'[n]? = some (.row ((readsB m b).map encD).flatten 3 own)) : CopIs H' (subM m b) s1 s2 s3 (slV n (readsB m b)) := by
  have hok := hm.ok
  refine ⟨hm.coal.ext he, hm.want.ext he, hm.loss.ext he, rd_at' encD_len g3, ?_, hm.n1, hm.n2, hm.n3, by have := hm.n4; have h2 := (readsB_sub m b).length_le; show (readsB m b).length ≤ _; omega, hm.p1.ext he, hm.p2.ext he, hm.p3.ext he, plain_at' (fun _ => rfl) g3⟩
  simp [slV_cell] at hok ⊢
  exact ⟨hok.1, hok.2.1, hok.2.2.1⟩
end
end Go.Proofs.Ytjbiidlmpaibkaa
namespace Go.Proofs.Ytjbiidlmpaibkaa
open Go
theorem ws_cons {r : List Char} : ∀ (w : List Char), (∀ c ∈ w, c ≠ Char.ofNat 32) → wordsSigns (w ++ Char.ofNat 32 :: r) = w :: wordsSigns r
  | [], _ => rfl
  | c :: w, h => by
    have hc := h c (by simp)
    have ih := ws_cons (r := r) w (fun x hx => h x (by simp [hx]))
    show wordsSigns (c :: (w ++ Char.ofNat 32 :: r)) = _
    conv => lhs; unfold wordsSigns
    split
    · rename_i e; cases e
    · rename_i e
      exact absurd (List.cons.inj e).1 hc
    · rename_i e
      obtain ⟨rfl, rfl⟩ := List.cons.inj e
      rw [ih]
def ioA : List Char := [104, 97, 114, 110, 101, 115, 115].map Char.ofNat
def ioB : List Char := [97, 52, 52, 52, 54, 99, 56, 98, 57, 54, 100, 56, 52, 57, 56, 97, 50, 97, 51, 55, 57, 50, 50, 102, 98, 101, 56, 48, 50, 102, 52, 50, 100, 51, 57, 50, 50, 98, 52, 53, 49, 97, 101, 48, 52, 51, 48, 102, 53, 55, 50, 49, 102, 57, 55, 50, 53, 57, 98, 56, 48, 98, 48, 52].map Char.ofNat
def ioC : List Char := [99, 117, 116].map Char.ofNat
def ioR : List Char := [97, 116, 32, 112, 111, 115, 115, 101, 114, 47, 112, 111, 115, 115, 101, 114, 108, 97, 119, 48, 50, 46, 67, 111, 112, 112, 101, 114, 80, 108, 97, 121, 115, 32, 112, 111, 115, 115, 101, 114, 47, 112, 111, 115, 115, 101, 114, 108, 97, 119, 48, 50, 46, 67, 111, 112, 112, 101, 114, 66, 111, 117, 110, 100, 115, 32, 112, 111, 115, 115, 101, 114, 47, 112, 111, 115, 115, 101, 114, 108, 97, 119, 48, 50, 46, 67, 111, 112, 112, 101, 114, 75, 101, 101, 112, 115, 32, 112, 111, 115, 115, 101, 114, 47, 112, 111, 115, 115, 101, 114, 108, 97, 119, 48, 50, 46, 67, 111, 112, 112, 101, 114, 83, 112, 97, 114, 101, 115, 32, 112, 111, 115, 115, 101, 114, 47, 112, 111, 115, 115, 101, 114, 108, 97, 119, 48, 50, 46, 67, 111, 112, 112, 101, 114, 76, 101, 97, 118, 101, 115, 32, 112, 111, 115, 115, 101, 114, 47, 112, 111, 115, 115, 101, 114, 108, 97, 119, 48, 50, 46, 67, 111, 112, 112, 101, 114, 78, 97, 109, 101, 115, 32, 112, 111, 115, 115, 101, 114, 47, 112, 111, 115, 115, 101, 114, 108, 97, 119, 48, 50, 46, 67, 111, 112, 112, 101, 114, 84, 114, 117, 116, 104, 32, 112, 111, 115, 115, 101, 114, 47, 112, 111, 115, 115, 101, 114, 108, 97, 119, 48, 50, 46, 67, 111, 112, 112, 101, 114, 69, 110, 100, 115, 32, 112, 111, 115, 115, 101, 114, 47, 112, 111, 115, 115, 101, 114, 108, 97, 119, 48, 50, 46, 67, 111, 112, 112, 101, 114, 87, 97, 114, 109, 101, 114, 32, 112, 111, 115, 115, 101, 114, 47, 112, 111, 115, 115, 101, 114, 108, 97, 119, 48, 50, 46, 67, 111, 112, 112, 101, 114, 80, 114, 111, 109, 105, 115, 101, 100, 32, 112, 111, 115, 115, 101, 114, 47, 112, 111, 115, 115, 101, 114, 108, 97, 119, 48, 50, 46, 67, 111, 112, 112, 101, 114, 78, 111, 76, 101, 115, 115, 32, 112, 111, 115, 115, 101, 114, 47, 112, 111, 115, 115, 101, 114, 108, 97, 119, 48, 50, 46, 67, 111, 112, 112, 101, 114, 66, 101, 102, 111, 114, 101, 32, 112, 111, 115, 115, 101, 114, 47, 112, 111, 115, 115, 101, 114, 108, 97, 119, 48, 50, 46, 67, 111, 112, 112, 101, 114, 77, 111, 114, 101, 32, 112, 111, 115, 115, 101, 114, 47, 112, 111, 115, 115, 101, 114, 108, 97, 119, 48, 50, 46, 67, 111, 112, 112, 101, 114, 87, 105, 100, 101, 114, 32, 112, 111, 115, 115, 101, 114, 47, 112, 111, 115, 115, 101, 114, 108, 97, 119, 48, 50, 46, 67, 111, 112, 112, 101, 114, 70, 105, 114, 115, 116, 32, 112, 111, 115, 115, 101, 114, 47, 112, 111, 115, 115, 101, 114, 108, 97, 119, 48, 50, 46, 67, 111, 112, 112, 101, 114, 76, 101, 102, 116].map Char.ofNat
theorem io_eq : Try.prog.initOrder = String.ofList (ioA ++ Char.ofNat 32 :: (ioB ++ Char.ofNat 32 :: (ioC ++ Char.ofNat 32 :: ioR))) := by kernel_rfl
theorem ioA_ok : ∀ c ∈ ioA, c ≠ Char.ofNat 32 := of_decide_eq_true (by kernel_rfl)
theorem ioB_ok : ∀ c ∈ ioB, c ≠ Char.ofNat 32 := of_decide_eq_true (by kernel_rfl)
theorem ioC_ok : ∀ c ∈ ioC, c ≠ Char.ofNat 32 := of_decide_eq_true (by kernel_rfl)
theorem io_words : wordsSigns Try.prog.initOrder.toList = ioA :: ioB :: ioC :: wordsSigns ioR := by
  rw [io_eq, String.toList_ofList, ws_cons ioA ioA_ok, ws_cons ioB ioB_ok, ws_cons ioC ioC_ok]
theorem lifts_of {P : Program} {A B C : List Char} {X : List (List Char)} (h : wordsSigns P.initOrder.toList = A :: B :: C :: X) (hb : behindMainWord (A :: B :: C :: X) = C :: X) (h1 : (some C == some "carried".toList) = false) (h2 : stripLifts liftWords (C :: X) = ([], C :: X)) : P.liftsFinal = false := by
  unfold Program.liftsFinal Program.headLifts
  rw [h, hb]
  simp only [List.head?_cons, h1, h2, Bool.false_and, Bool.false_or, List.contains_nil, ite_self]
theorem make_of {P : Program} {A B C : List Char} {X : List (List Char)} (h : wordsSigns P.initOrder.toList = A :: B :: C :: X) (hb : behindMainWord (A :: B :: C :: X) = C :: X) (h1 : (C == "gc".toList) = false) (h2 : (C == "spec".toList) = false) (h3 : (C == "cut".toList) = true) : P.make = some .cut := by
  unfold Program.make
  rw [h, hb]
  simp only [h1, h2, h3, Bool.or_self, Bool.false_eq_true, if_false, Bool.true_or, if_true]
theorem enter_of {P : Program} {A B C : List Char} {X : List (List Char)} (h : wordsSigns P.initOrder.toList = A :: B :: C :: X) (hb : behindMainWord (A :: B :: C :: X) = C :: X) (h1 : (C == "gc".toList) = false) (h2 : (C == "spec".toList) = false) (h3 : (C == "carried".toList) = false) (h4 : (some C == some "cut".toList) = true) (h5 : stripLifts liftWords (C :: X) = ([], C :: X))
    (h6 : P.laysLater = false) (h7 : P.bearsReflect = false) (h8 : P.doorFits [] = true) : P.mayEnter = true := by
  unfold Program.mayEnter
  rw [h, hb]
  simp only [h1, h2, h3, h4, h5, h6, h7, h8, List.head?_cons, Bool.or_self, Bool.false_and, Bool.not_false, Bool.or_true, List.contains_nil, Bool.and_self]
theorem io_behind (X : List (List Char)) : behindMainWord (ioA :: ioB :: ioC :: X) = ioC :: X := by kernel_rfl
theorem io_gc : (ioC == "gc".toList) = false := by kernel_rfl
theorem io_spec : (ioC == "spec".toList) = false := by kernel_rfl
theorem io_carried : (ioC == "carried".toList) = false := by kernel_rfl
theorem io_cut : (ioC == "cut".toList) = true := by kernel_rfl
theorem io_cut2 : (some ioC == some "cut".toList) = true := by kernel_rfl
theorem io_strip (X : List (List Char)) : stripLifts liftWords (ioC :: X) = ([], ioC :: X) := by kernel_rfl
theorem io_later : Try.prog.laysLater = false := by kernel_rfl
theorem io_reflect : Try.prog.bearsReflect = false := by kernel_rfl
theorem io_door : Try.prog.doorFits [] = true := by kernel_rfl
theorem io_carried2 : (some ioC == some "carried".toList) = false := by kernel_rfl
theorem lifts_t : Try.prog.liftsFinal = false := lifts_of io_words (io_behind _) io_carried2 (io_strip _)
theorem make_t : Try.prog.make = some .cut := make_of io_words (io_behind _) io_gc io_spec io_cut
theorem enter_t : Try.prog.mayEnter = true := enter_of io_words (io_behind _) io_gc io_spec io_carried io_cut2 (io_strip _) io_later io_reflect io_door
theorem band {a b : Bool} (h : a = true) (k : b = true) : (a && b) = true := by rw [h, k]; rfl
end Go.Proofs.Ytjbiidlmpaibkaa
namespace Go.Proofs.Ytjbiidlmpaibkaa
open Go Go.Abs Go.Proofs Go.ChangeShapes Go.RowKit Go.WideShapes Go.ChangeAt
set_option maxHeartbeats 800000
theorem Try.own : ownKnob Try.prog.godebug = none := by kernel_rfl
theorem Try.laidOut : laidOutB Try.prog = true := by kernel_rfl
theorem rd28 : Try.prog.readableRec 28 = true := by kernel_rfl
theorem sz28 : 28 < Try.prog.types.size := of_decide_eq_true (by kernel_rfl)
theorem und4 : Try.prog.underlying 4 = some .bool := by kernel_rfl
set_option maxRecDepth 100000 in
theorem lifted_c {os : Os} (started : os.Started) {X : Type} {enc : TypeId × Value → X} {f : FuncId} {fn : Func} {s : ChangeSpec} {dom : List PathCond} {apart fresh handsOn again : Bool}
    (hno : Try.checked.prog.inits.idxOf? f = none) (hfn : Try.checked.prog.funcs[f]? = some fn)
    (witness : ∃ (w : World) (tape : Tape) (i : Input), w.os = os ∧ (w.forCall tape i).Shaped Try.checked.prog ∧ i.vars = [] ∧ Input.okWide Try.checked.prog (w.forCall tape i) .any w.heap.size f i ∧
      s.pre6 enc Try.checked.prog fn dom apart (w.forCall tape i).memory i.args ∧ ({} : Assume).holds Try.checked.prog (lone (Frame.enter Try.checked.prog f i.args .normal) [] (w.forCall tape i)))
    (hp : fn.params = #[28]) (hres : fn.resultTypes = #[4]) (hv0 : s.vars = []) (hs : ∀ d : DataW X, s.fn X [d] = { results := [.lit (.bool true)], args := [d] })
    (hc : ∀ (H : AHeap) (m : CopM) (s1 s2 s3 s4 : Value), CopZ H m s1 s2 s3 s4 → CallJ Try.prog trivE f [cv m s1 s2 s3 s4] (fun v H' g' => v = .bool true ∧ H' = H ∧ g' = ()) H ()) :
    ReturnsInHanded {} Try.checked os f .any (s.pre6 enc Try.checked.prog fn dom apart) (s.post enc Try.checked.prog fn apart fresh handsOn again) := by
  refine returnsInHanded_of_change (C := Try.checked) Try.own started hno hfn witness ?_
  intro W base args ds gs before hval0 hW hcnd _
  have hW' := hW
  obtain ⟨p, q, hA, hV, hpe, hfz, hnd⟩ := hW
  rw [hv0] at hV
  obtain ⟨rfl, rfl⟩ := trodVars_none hV
  rw [hp] at hA
  obtain ⟨v0, d0, rfl, rfl, h0⟩ := trodAll_one hA
  obtain ⟨m, s1, s2, s3, s4, o1, o2, o3, o4, m1, m2, m3, m4, a1, a2, a3, a4, hrel, hh⟩ := cop_abs 0 (hval0 0 28 v0 (by rw [hp]; rfl) rfl) h0
  have hall : AllOf W [o1, o2, o3, o4] [m1, m2, m3, m4] := ⟨a1, a2, a3, a4, trivial⟩
  have har : ARel (renOf [m1, m2, m3, m4]) ⟨[cv m s1 s2 s3 s4]⟩ #[v0] := ⟨rfl, fun j h1 h2 => by
    match j, h1 with
    | 0, _ => exact hrel _ rfl rfl rfl rfl⟩
  have hcalls := hall.calls har (hc _ m s1 s2 s3 s4 (hh _ rfl rfl rfl rfl))
  refine Calls.mono hcalls fun e W' h => ⟨_, h.1, ?_⟩
  exact law_post Try.laidOut (fun t ht => by rw [hp] at ht; simp at ht; subst ht; exact ⟨rd28, sz28⟩) hW' hv0 (by simpa using hs d0) hres und4 h.2
end Go.Proofs.Ytjbiidlmpaibkaa
