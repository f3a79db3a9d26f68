import Derived.Test.YtehobnpoeodhkaaV6
import Derived.Test.YtehobnpoeodhkaaV7
import Derived.Test.YtehobnpoeodhkaaV3
import Derived.Test.YtehobnpoeodhkaaV4
import Derived.Test.YtehobnpoeodhkaaV5
namespace Go.Proofs.Ytehobnpoeodhkaa
open Go Go.Abs Go.Proofs
set_option maxHeartbeats 800000
attribute [local irreducible] CallJ OpsJ WPJ CallV MonoJ SpecJ

/-! ### For the laws: calls whose new rows are only known to be there -/
section
variable {γ : Type} (E : Env γ) (g : γ) (H : AHeap)
theorem House_w (m : HouseM) (s1 s2 s3 : Value) (hm : HouseIs H m s1 s2 s3) (ht : thinS m = true) : CallJ Try.prog E 26 [hv m s1 s2 s3] (fun v H' g' => (∃ t1 t2 t3, v = hv m t1 t2 t3 ∧ HouseIs H' m t1 t2 t3 ∧ Ext H H') ∧ g' = g) H g := by
  unfold thinS at ht
  simp only [Bool.and_eq_true, decide_eq_true_eq] at ht
  exact (House_spec E g H m s1 s2 s3 hm (by omega) (by omega) (by omega)).mono (by rintro v H' g' ⟨rfl, rfl, rfl⟩; exact ⟨house_w (by omega) (by omega) (by omega), rfl⟩)
/-- numbers, or an error -/
def IntsW (H : AHeap) (e : Int) (l : List Int) (v : Value) (H' : AHeap) : Prop := Ext H H' ∧ ((e = 0 ∧ ∃ i c own, v = .tuple #[.slice (some ⟨i, 0, none⟩) l.length c, .int .i64 0] ∧ H'[i]? = some (.row (encE l) 1 own)) ∨ (e ≠ 0 ∧ v = .tuple #[.slice none 0 0, .int .i64 e]))
theorem ints_w {H H' : AHeap} {e : Int} {l : List Int} {v : Value} (h : IntsA H e l v H') : IntsW H e l v H' := by
  unfold IntsA at h
  split at h
  · rename_i he
    obtain ⟨rfl, rfl⟩ := h
    exact ⟨⟨_, rfl⟩, .inl ⟨he, _, _, _, rfl, List.getElem?_concat_length⟩⟩
  · rename_i he
    obtain ⟨rfl, rfl⟩ := h
    exact ⟨Ext.refl _, .inr ⟨he, rfl⟩⟩
/-- ranges, or an error -/
def RangesW (H : AHeap) (e : Int) (l : List (Int × Int)) (v : Value) (H' : AHeap) : Prop := Ext H H' ∧ ((e = 0 ∧ ∃ i c own, v = .tuple #[.slice (some ⟨i, 0, none⟩) l.length c, .int .i64 0] ∧ H'[i]? = some (.row (l.map encR).flatten 2 own)) ∨ (e ≠ 0 ∧ v = .tuple #[.slice none 0 0, .int .i64 e]))
theorem ranges_w' {H H' : AHeap} {e : Int} {l : List (Int × Int)} {v : Value} (h : RangesA H e l v H') : RangesW H e l v H' := by
  unfold RangesA at h
  split at h
  · rename_i he
    obtain ⟨rfl, rfl⟩ := h
    exact ⟨⟨_, rfl⟩, .inl ⟨he, _, _, _, rfl, List.getElem?_concat_length⟩⟩
  · rename_i he
    obtain ⟨rfl, rfl⟩ := h
    exact ⟨Ext.refl _, .inr ⟨he, rfl⟩⟩
theorem LongW_spec (m : HouseM) (s1 s2 s3 : Value) (hm : HouseIs H m s1 s2 s3) : CallJ Try.prog E 40 [hv m s1 s2 s3] (fun v H' g' => IntsW H (checkT m) (longS m) v H' ∧ g' = g) H g :=
  (Long_spec E g H m s1 s2 s3 hm).mono (by rintro v H' g' ⟨h, rfl⟩; exact ⟨ints_w h, rfl⟩)
theorem ClocksW_spec (m : HouseM) (s1 s2 s3 : Value) (hm : HouseIs H m s1 s2 s3) : CallJ Try.prog E 34 [hv m s1 s2 s3] (fun v H' g' => RangesW H (checkT m) (clocksS m) v H' ∧ g' = g) H g :=
  (Clocks_spec E g H m s1 s2 s3 hm).mono (by rintro v H' g' ⟨h, rfl⟩; exact ⟨ranges_w' h, rfl⟩)
theorem HoursW_spec (m : HouseM) (s1 s2 s3 : Value) (hm : HouseIs H m s1 s2 s3) : CallJ Try.prog E 35 [hv m s1 s2 s3] (fun v H' g' => RangesW H (checkT m) (hrsS m) v H' ∧ g' = g) H g :=
  (Hours_spec E g H m s1 s2 s3 hm).mono (by rintro v H' g' ⟨h, rfl⟩; exact ⟨ranges_w' h, rfl⟩)
end
/-! ### verdicts -/
theorem verdict_two {l : List (List Int)} {p : List Int → Bool} (h : l ≠ []) : verdictS l p = 2 ↔ ∀ es ∈ l, p es = false := by
  unfold verdictS
  split
  · rename_i h1
    obtain ⟨x, hx⟩ := List.exists_mem_of_ne_nil l h
    have := List.all_eq_true.1 h1 x hx
    constructor
    · intro h2; cases h2
    · intro h2; have := h2 x hx; simp_all
  · split
    · rename_i h1
      obtain ⟨x, hx, h2⟩ := List.any_eq_true.1 h1
      constructor
      · intro h3; cases h3
      · intro h3; have := h3 x hx; simp_all
    · rename_i h1
      constructor
      · intro _ x hx
        cases hp : p x with
        | false => rfl
        | true => exact absurd (List.any_eq_true.2 ⟨x, hx, hp⟩) h1
      · intro _; rfl
theorem verdict_one {l : List (List Int)} {p : List Int → Bool} : verdictS l p = 1 ↔ ∀ es ∈ l, p es = true := by
  unfold verdictS
  split
  · rename_i h1; exact ⟨fun _ => List.all_eq_true.1 h1, fun _ => rfl⟩
  · rename_i h1
    refine ⟨fun h2 => ?_, fun h2 => absurd (List.all_eq_true.2 h2) h1⟩
    split at h2 <;> cases h2
/-- two of them -/
def clashV (m : HouseM) (a b : Nat) : Int := verdictS (truthsL m) (clashQ m a b)
def nevL (m : HouseM) (j : Nat) : Bool := ((longS m).take j).all fun x => decide (x = 2)
def alwL (m : HouseM) (j : Nat) : Bool := ((longS m).take j).any fun x => decide (x = 1)
def nevC (m : HouseM) (a j : Nat) : Bool := (List.range j).all fun b => decide (clashV m a b = 2)
def alwC (m : HouseM) (a j : Nat) : Bool := (List.range j).any fun b => decide (clashV m a b = 1)
def nevCs (m : HouseM) (a : Nat) : Bool := nevL m (longS m).length && (List.range a).all fun a => nevC m a a
def alwCs (m : HouseM) (a : Nat) : Bool := alwL m (longS m).length || (List.range a).any fun a => alwC m a a
theorem nevL_step {m : HouseM} {j : Nat} (h : j < (longS m).length) : nevL m (j + 1) = (nevL m j && decide ((longS m)[j] = 2)) := by
  unfold nevL; rw [List.take_succ_eq_append_getElem h, List.all_append]; simp
theorem alwL_step {m : HouseM} {j : Nat} (h : j < (longS m).length) : alwL m (j + 1) = (alwL m j || decide ((longS m)[j] = 1)) := by
  unfold alwL; rw [List.take_succ_eq_append_getElem h, List.any_append]; simp
theorem nevC_step {m : HouseM} {a j : Nat} : nevC m a (j + 1) = (nevC m a j && decide (clashV m a j = 2)) := by
  unfold nevC; rw [List.range_succ, List.all_append]; simp
theorem alwC_step {m : HouseM} {a j : Nat} : alwC m a (j + 1) = (alwC m a j || decide (clashV m a j = 1)) := by
  unfold alwC; rw [List.range_succ, List.any_append]; simp
theorem nevCs_step {m : HouseM} {a : Nat} : nevCs m (a + 1) = (nevCs m a && nevC m a a) := by
  unfold nevCs; rw [List.range_succ, List.all_append]; simp [Bool.and_assoc]
theorem alwCs_step {m : HouseM} {a : Nat} : alwCs m (a + 1) = (alwCs m a || alwC m a a) := by
  unfold alwCs; rw [List.range_succ, List.any_append]; simp [Bool.or_assoc]
theorem clashP_comm (ta tb : Int × Int) (a b : StayM) : clashP ta tb a b = clashP tb ta b a := by
  unfold clashP
  by_cases h : a.clips = 0 ∨ b.clips = 0 ∨ ta.1 ≠ tb.1
  · rw [if_pos h, if_pos (by rcases h with h | h | h; exact .inr (.inl h); exact .inl h; exact .inr (.inr (Ne.symm h)))]
  · rw [if_neg h, if_neg (fun k => h (by rcases k with k | k | k; exact .inr (.inl k); exact .inl k; exact .inr (.inr (Ne.symm k)))), Bool.and_comm]
theorem wm_t (m : HouseM) (es : List Int) {n : Nat} (h : n < m.tickets.length) : (wm m es).house.tickets[n]? = some m.tickets[n] := List.getElem?_eq_getElem h
theorem wm_s (m : HouseM) (es : List Int) {n : Nat} (h : n < (staysS es m.clips).length) : (wm m es).stays[n]? = some (staysS es m.clips)[n] := List.getElem?_eq_getElem h
theorem paid_iff {m : HouseM} {es : List Int} (hn : m.tickets.length ≤ 6) : paidS (wm m es) m.tickets.length = true ↔ ∀ n < m.tickets.length, longQ m n es = false ∧ ∀ e < n, clashQ m n e es = false := by
  have hs := staysS_len es m.clips
  have hl : ∀ n < m.tickets.length, longP (wm m es) n = longQ m n es := by
    intro n hlt
    unfold longP longQ hoursQ
    rw [wm_t m es hlt, wm_s m es (by omega)]
    rfl
  have hc : ∀ n < m.tickets.length, ∀ e < n, paidRow (wm m es) n n = true → clashQ m n e es = false := by
    intro n hlt e he h
    unfold paidRow at h
    have h1 := List.all_eq_true.1 h e (List.mem_range.2 he)
    rw [wm_t m es hlt, wm_s m es (by omega : n < _), wm_t m es (by omega : e < _), wm_s m es (by omega : e < _)] at h1
    unfold clashQ
    rw [Int.toNat_natCast, Int.toNat_natCast, List.getElem?_eq_getElem hlt, List.getElem?_eq_getElem (by omega : e < m.tickets.length), List.getElem?_eq_getElem (by omega : n < (staysS es m.clips).length), List.getElem?_eq_getElem (by omega : e < (staysS es m.clips).length), clashP_comm]
    simpa using h1
  have hc' : ∀ n < m.tickets.length, (∀ e < n, clashQ m n e es = false) → paidRow (wm m es) n n = true := by
    intro n hlt h
    unfold paidRow
    refine List.all_eq_true.2 fun e he => ?_
    have he' := List.mem_range.1 he
    have h1 := h e he'
    rw [wm_t m es hlt, wm_s m es (by omega : n < _), wm_t m es (by omega : e < _), wm_s m es (by omega : e < _)]
    unfold clashQ at h1
    rw [Int.toNat_natCast, Int.toNat_natCast, List.getElem?_eq_getElem hlt, List.getElem?_eq_getElem (by omega : e < m.tickets.length), List.getElem?_eq_getElem (by omega : n < (staysS es m.clips).length), List.getElem?_eq_getElem (by omega : e < (staysS es m.clips).length), clashP_comm] at h1
    simpa using h1
  unfold paidS
  rw [List.all_eq_true]
  constructor
  · intro h n hlt
    have h1 := h n (List.mem_range.2 hlt)
    rw [Bool.and_eq_true, hl n hlt] at h1
    exact ⟨by simpa using h1.1, fun e he => hc n hlt e he h1.2⟩
  · intro h n hn'
    have hlt := List.mem_range.1 hn'
    obtain ⟨h1, h2⟩ := h n hlt
    rw [Bool.and_eq_true, hl n hlt]
    exact ⟨by simp [h1], hc' n hlt h2⟩
def paidV (m : HouseM) : Int := verdictS (truthsL m) (fun es => paidS (wm m es) m.tickets.length)
theorem longS_len (m : HouseM) : (longS m).length = m.tickets.length := by simp [longS]
theorem nev_iff {m : HouseM} (h : truthsL m ≠ []) : nevCs m m.tickets.length = true ↔ ∀ n < m.tickets.length, (∀ es ∈ truthsL m, longQ m n es = false) ∧ ∀ e < n, ∀ es ∈ truthsL m, clashQ m n e es = false := by
  unfold nevCs nevL nevC clashV
  rw [Bool.and_eq_true, List.take_length, List.all_eq_true, List.all_eq_true]
  simp only [List.all_eq_true, List.mem_range, decide_eq_true_eq, verdict_two h]
  constructor
  · rintro ⟨h1, h2⟩ n hn
    refine ⟨(verdict_two h).1 (h1 _ (List.mem_map.2 ⟨n, List.mem_range.2 hn, rfl⟩)), fun e he => h2 n hn e he⟩
  · intro h1
    refine ⟨fun x hx => ?_, fun n hn e he => (h1 n hn).2 e he⟩
    obtain ⟨n, hn, rfl⟩ := List.mem_map.1 hx
    exact (verdict_two h).2 (h1 n (List.mem_range.1 hn)).1
theorem once_math {m : HouseM} (h : truthsL m ≠ []) (hn : m.tickets.length ≤ 6) : (decide (paidV m = 1) = nevCs m m.tickets.length) ∧ (alwCs m m.tickets.length = true → paidV m = 2) := by
  constructor
  · rw [Bool.eq_iff_iff, decide_eq_true_eq, nev_iff h]
    unfold paidV
    rw [verdict_one]
    constructor
    · intro h1 n hlt
      exact ⟨fun es hes => ((paid_iff hn).1 (h1 es hes) n hlt).1, fun e he es hes => ((paid_iff hn).1 (h1 es hes) n hlt).2 e he⟩
    · intro h1 es hes
      exact (paid_iff hn).2 fun n hlt => ⟨(h1 n hlt).1 es hes, fun e he => (h1 n hlt).2 e he es hes⟩
  · intro h1
    unfold paidV
    rw [verdict_two h]
    intro es hes
    cases hp : paidS (wm m es) m.tickets.length with
    | false => rfl
    | true =>
      have h2 := (paid_iff hn).1 hp
      unfold alwCs alwL alwC clashV at h1
      rw [List.take_length, Bool.or_eq_true, List.any_eq_true, List.any_eq_true] at h1
      simp only [List.any_eq_true, List.mem_range, decide_eq_true_eq, verdict_one] at h1
      rcases h1 with ⟨x, hx, h1⟩ | ⟨n, hlt, e, he, h1⟩
      · obtain ⟨n, hlt, rfl⟩ := List.mem_map.1 hx
        have := verdict_one.1 h1 es hes
        rw [(h2 n (List.mem_range.1 hlt)).1] at this
        cases this
      · have := h1 es hes
        rw [(h2 n hlt).2 e he] at this
        cases this
theorem verdict_cases (l : List (List Int)) (p : List Int → Bool) : verdictS l p = 1 ∨ verdictS l p = 2 ∨ verdictS l p = 3 := by
  unfold verdictS
  split
  · exact .inl rfl
  · split
    · exact .inr (.inr rfl)
    · exact .inr (.inl rfl)
theorem checkT_cases {m : HouseM} (h : checkS m = 0) : (checkT m = 0 ∧ truthsL m ≠ []) ∨ (checkT m = 11 ∧ truthsL m = []) := by
  unfold checkT hasS
  rw [if_pos h]
  cases truthsL m <;> simp
section
variable {γ : Type} (E : Env γ) (g : γ) (H : AHeap)
theorem PaidT_spec (m : HouseM) (s1 s2 s3 : Value) (hT : checkT m = 0) (hm : HouseIs H m s1 s2 s3) : CallJ Try.prog E 41 [hv m s1 s2 s3] (fun v H' g' => v = .tuple #[.int .i64 (paidV m), .int .i64 0] ∧ H' = H ∧ g' = g) H g :=
  (Paid_spec E g H m s1 s2 s3 hm).mono (by rintro v H' g' ⟨rfl, rfl, rfl⟩; rw [if_pos hT, hT]; exact ⟨rfl, rfl, rfl⟩)
theorem PaidN_spec (m : HouseM) (s1 s2 s3 : Value) (hT : checkT m = 11) (hm : HouseIs H m s1 s2 s3) : CallJ Try.prog E 41 [hv m s1 s2 s3] (fun v H' g' => v = .tuple #[.int .i64 0, .int .i64 11] ∧ H' = H ∧ g' = g) H g :=
  (Paid_spec E g H m s1 s2 s3 hm).mono (by rintro v H' g' ⟨rfl, rfl, rfl⟩; rw [if_neg (by omega), hT]; exact ⟨rfl, rfl, rfl⟩)
theorem LongT_spec (m : HouseM) (s1 s2 s3 : Value) (hT : checkT m = 0) (hm : HouseIs H m s1 s2 s3) : CallJ Try.prog E 40 [hv m s1 s2 s3] (fun v H' g' => (∃ i c own, v = .tuple #[.slice (some ⟨i, 0, none⟩) m.tickets.length c, .int .i64 0] ∧ H'[i]? = some (.row (encE (longS m)) 1 own) ∧ Ext H H') ∧ g' = g) H g :=
  (LongW_spec E g H m s1 s2 s3 hm).mono (by
    rintro v H' g' ⟨⟨he, ⟨_, i, c, own, rfl, hi⟩ | ⟨h, _⟩⟩, rfl⟩
    · rw [longS_len]; exact ⟨⟨i, c, own, rfl, hi, he⟩, rfl⟩
    · exact absurd hT h)
theorem LongN_spec (m : HouseM) (s1 s2 s3 : Value) (hT : checkT m = 11) (hm : HouseIs H m s1 s2 s3) : CallJ Try.prog E 40 [hv m s1 s2 s3] (fun v H' g' => v = .tuple #[.slice none 0 0, .int .i64 11] ∧ H' = H ∧ g' = g) H g :=
  (Long_spec E g H m s1 s2 s3 hm).mono (by
    rintro v H' g' ⟨h, rfl⟩
    unfold IntsA at h
    rw [if_neg (by omega), hT] at h
    exact ⟨h.1, h.2, rfl⟩)
theorem ClashT_spec (m : HouseM) (s1 s2 s3 : Value) (hS : checkS m = 0) (hT : checkT m = 0) (a b : Nat) (ha : a < m.tickets.length) (hb : b < m.tickets.length) (hab : a ≠ b) (hm : HouseIs H m s1 s2 s3) : CallJ Try.prog E 44 [hv m s1 s2 s3, .int .i64 a, .int .i64 b] (fun v H' g' => v = .tuple #[.int .i64 (clashV m a b), .int .i64 0] ∧ H' = H ∧ g' = g) H g :=
  (Clash_spec E g H m s1 s2 s3 a b hm).mono (by
    rintro v H' g' ⟨rfl, rfl, rfl⟩
    have hE : clashE m a b = 0 := by
      unfold clashE hasT
      rw [if_pos hS, if_pos (by simp; omega), if_neg (by omega)]
      unfold checkT at hT
      rw [if_pos hS] at hT
      exact hT
    rw [if_pos hE, hE]
    exact ⟨rfl, rfl, rfl⟩)
end
end Go.Proofs.Ytehobnpoeodhkaa

namespace Go.Abs
open Go
section
variable {P : Program} {T : List Value} {H : AHeap} {R : List Value → AHeap → Prop} {mm : Nat} {ops : Array Oper} {dst : Option Tmp} {ty : TypeId} {ps : String} {af : Array Edge} {rest : List Oper}
theorem mj_eqI {xt yt : TypeId} {x y : Operand} {n : Nat} {xs ys : List Int} [ht : IntsC P xt n] (hx : evalT T x = .agg ⟨xs.map cellI⟩) (hy : evalT T y = .agg ⟨ys.map cellI⟩) (hxl : xs.length = n) (hyl : ys.length = n) (k : MonoJ P ops R mm rest (putT T dst (.bool (decide (xs = ys)))) H) :
    MonoJ P ops R (mm + 1) (⟨dst, .binOp .eql xt x y yt, ty, ps, af, none⟩ :: rest) T H := mj_step (runs_eqI hx hy hxl hyl) rfl k
theorem mj_neI {xt yt : TypeId} {x y : Operand} {n : Nat} {xs ys : List Int} [ht : IntsC P xt n] (hx : evalT T x = .agg ⟨xs.map cellI⟩) (hy : evalT T y = .agg ⟨ys.map cellI⟩) (hxl : xs.length = n) (hyl : ys.length = n) (k : MonoJ P ops R mm rest (putT T dst (.bool (!decide (xs = ys)))) H) :
    MonoJ P ops R (mm + 1) (⟨dst, .binOp .neq xt x y yt, ty, ps, af, none⟩ :: rest) T H := mj_step (runs_neI hx hy hxl hyl) rfl k
end
end Go.Abs
