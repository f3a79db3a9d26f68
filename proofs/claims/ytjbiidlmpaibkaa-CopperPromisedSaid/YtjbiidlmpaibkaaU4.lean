
import Derived.Test.YtjbiidlmpaibkaaU3
namespace Go.Proofs.Ytjbiidlmpaibkaa
open Go Go.Abs Go.Proofs
set_option maxHeartbeats 400000
attribute [local irreducible] CallJ OpsJ WPJ CallV MonoJ
theorem eachI_spec {γ : Type} (E : Env γ) (g : γ) (H : AHeap) (sv fv : Value) (xs : List Int) (p : Int → Bool) (hn : xs.length ≤ 1000000) (hr : RdS H sv 1 (encI xs))
    (hf : ∀ H' x, Ext H H' → x ∈ xs → CallV Try.prog E fv [.int .i64 x] (fun v H2 g' => v = .bool (p x) ∧ H2 = H' ∧ g' = g) H' g) :
    CallJ Try.prog E 127 [sv, fv] (fun v H' g' => v = .bool (xs.all p) ∧ H' = H ∧ g' = g) H g := by
  refine CallJ.tidy ?_
  refine CallJ.enter Try.func127 rfl (by simp only [Try.ntmps127, List.length_cons, List.length_nil, Nat.zero_add, Nat.reduceAdd, Nat.reduceSub, List.replicate_succ, List.replicate_zero, List.cons_append, List.nil_append]; rfl) ?_
  repeat' (first
    | (refine is_ucall ?_; first
      | refine st_callVP (h := hf _ _ extA (List.getElem_mem hlt)) (k := ?_)
      | fail)
    | ((fail_if_success (first | refine is_ucall ?_ | refine is_umcall ?_)); first | refine W1 ?_ | refine Wc ?_ | refine W2c ?_ ?_ | refine Wg ?_ | refine W2 ?_ ?_ | exact Wdead | refine Wlive (fun hb => ?_) | intro _ _ _ _ _ _ _ _ | refine We ?_ | refine Wx ?_ | refine Wt ?_ | refine Wm ?_ | refine W2m ?_ ?_ | refine Wl ?_)
    | fail)
  refine WPJ.loopN xs.length (fun j (_ : Unit) => [wild, fv, wild, wild, wild, wild, wild, sv, .int .i64 xs.length, .int .i64 j, wild, wild, wild, wild, wild, wild, wild, wild])
    (fun j _ H1 g1 => g1 = g ∧ Ext H H1 ∧ (xs.take j).all p = true) 0 () (Nat.zero_le _) (by repeat' (first | exact Weak.nil | refine Weak.wild ?_ | refine Weak.same ?_ | refine Weak.intEq (by first | omega | (simp; done) | (push_cast; omega)) ?_)) ⟨rfl, extA, rfl⟩ ?_
  rintro j _ H1 g1 hj ⟨rfl, he, hs⟩ hl
  rcases Nat.lt_or_ge j xs.length with hlt | hge
  · have hel : (encI xs)[j]? = some [.int .i64 xs[j]] := by simp [hlt]
    repeat' (first
      | (refine is_ucall ?_; first
        | refine st_callVP (h := hf _ _ extA (List.getElem_mem hlt)) (k := ?_)
        | fail)
      | ((fail_if_success (first | refine is_ucall ?_ | refine is_umcall ?_)); first | refine W1 ?_ | refine Wc ?_ | refine W2c ?_ ?_ | refine Wg ?_ | refine W2 ?_ ?_ | exact Wdead | refine Wlive (fun hb => ?_) | intro _ _ _ _ _ _ _ _ | refine We ?_ | refine Wx ?_ | refine Wt ?_ | refine Wm ?_ | refine W2m ?_ ?_ | refine Wl ?_)
      | fail)
    · refine ⟨?_, rfl, rfl⟩
      have h1 : p xs[j] = false := by simpa using hb
      show Value.bool false = _
      congr 1
      exact (List.all_eq_false.2 ⟨xs[j], List.getElem_mem hlt, by simp [h1]⟩).symm
    · have h1 : p xs[j] = true := by simpa using hb
      refine ⟨(), hlt, (by repeat' (first | exact Weak.nil | refine Weak.wild ?_ | refine Weak.same ?_ | refine Weak.intEq (by first | omega | (simp; done) | (push_cast; omega)) ?_)), rfl, extA, ?_⟩
      rw [List.take_succ_eq_append_getElem hlt, List.all_append, hs]
      simp [h1]
  · skip
    repeat' (first
      | (refine is_ucall ?_; first
        | refine st_callVP (h := hf _ _ extA (List.getElem_mem hlt)) (k := ?_)
        | fail)
      | ((fail_if_success (first | refine is_ucall ?_ | refine is_umcall ?_)); first | refine W1 ?_ | refine Wc ?_ | refine W2c ?_ ?_ | refine Wg ?_ | refine W2 ?_ ?_ | exact Wdead | refine Wlive (fun hb => ?_) | intro _ _ _ _ _ _ _ _ | refine We ?_ | refine Wx ?_ | refine Wt ?_ | refine Wm ?_ | refine W2m ?_ ?_ | refine Wl ?_)
      | fail)
    obtain rfl : j = xs.length := by omega
    rw [List.take_length] at hs
    exact ⟨by first | (rw [hs]; done) | (rw [hs]; rfl), rfl, rfl⟩
theorem eachR_spec {γ : Type} (E : Env γ) (g : γ) (H : AHeap) (sv fv : Value) (xs : List (Int × Int)) (p : (Int × Int) → Bool) (hn : xs.length ≤ 1000000) (hr : RdS H sv 2 (xs.map encR))
    (hf : ∀ H' x, Ext H H' → x ∈ xs → CallV Try.prog E fv [.agg ⟨encR x⟩] (fun v H2 g' => v = .bool (p x) ∧ H2 = H' ∧ g' = g) H' g) :
    CallJ Try.prog E 122 [sv, fv] (fun v H' g' => v = .bool (xs.all p) ∧ H' = H ∧ g' = g) H g := by
  refine CallJ.tidy ?_
  refine CallJ.enter Try.func122 rfl (by simp only [Try.ntmps122, List.length_cons, List.length_nil, Nat.zero_add, Nat.reduceAdd, Nat.reduceSub, List.replicate_succ, List.replicate_zero, List.cons_append, List.nil_append]; rfl) ?_
  repeat' (first
    | (refine is_ucall ?_; first
      | refine st_callVP (h := hf _ _ extA (List.getElem_mem hlt)) (k := ?_)
      | fail)
    | ((fail_if_success (first | refine is_ucall ?_ | refine is_umcall ?_)); first | refine W1 ?_ | refine Wc ?_ | refine W2c ?_ ?_ | refine Wg ?_ | refine W2 ?_ ?_ | exact Wdead | refine Wlive (fun hb => ?_) | intro _ _ _ _ _ _ _ _ | refine We ?_ | refine Wx ?_ | refine Wt ?_ | refine Wm ?_ | refine W2m ?_ ?_ | refine Wl ?_)
    | fail)
  refine WPJ.loopN xs.length (fun j (_ : Unit) => [wild, fv, wild, wild, wild, wild, wild, sv, .int .i64 xs.length, .int .i64 j, wild, wild, wild, wild, wild, wild, wild, wild])
    (fun j _ H1 g1 => g1 = g ∧ Ext H H1 ∧ (xs.take j).all p = true) 0 () (Nat.zero_le _) (by repeat' (first | exact Weak.nil | refine Weak.wild ?_ | refine Weak.same ?_ | refine Weak.intEq (by first | omega | (simp; done) | (push_cast; omega)) ?_)) ⟨rfl, extA, rfl⟩ ?_
  rintro j _ H1 g1 hj ⟨rfl, he, hs⟩ hl
  rcases Nat.lt_or_ge j xs.length with hlt | hge
  · have hel : (xs.map encR)[j]? = some (encR xs[j]) := by simp [hlt]
    repeat' (first
      | (refine is_ucall ?_; first
        | refine st_callVP (h := hf _ _ extA (List.getElem_mem hlt)) (k := ?_)
        | fail)
      | ((fail_if_success (first | refine is_ucall ?_ | refine is_umcall ?_)); first | refine W1 ?_ | refine Wc ?_ | refine W2c ?_ ?_ | refine Wg ?_ | refine W2 ?_ ?_ | exact Wdead | refine Wlive (fun hb => ?_) | intro _ _ _ _ _ _ _ _ | refine We ?_ | refine Wx ?_ | refine Wt ?_ | refine Wm ?_ | refine W2m ?_ ?_ | refine Wl ?_)
      | fail)
    · refine ⟨?_, rfl, rfl⟩
      have h1 : p xs[j] = false := by simpa using hb
      show Value.bool false = _
      congr 1
      exact (List.all_eq_false.2 ⟨xs[j], List.getElem_mem hlt, by simp [h1]⟩).symm
    · have h1 : p xs[j] = true := by simpa using hb
      refine ⟨(), hlt, (by repeat' (first | exact Weak.nil | refine Weak.wild ?_ | refine Weak.same ?_ | refine Weak.intEq (by first | omega | (simp; done) | (push_cast; omega)) ?_)), rfl, extA, ?_⟩
      rw [List.take_succ_eq_append_getElem hlt, List.all_append, hs]
      simp [h1]
  · skip
    repeat' (first
      | (refine is_ucall ?_; first
        | refine st_callVP (h := hf _ _ extA (List.getElem_mem hlt)) (k := ?_)
        | fail)
      | ((fail_if_success (first | refine is_ucall ?_ | refine is_umcall ?_)); first | refine W1 ?_ | refine Wc ?_ | refine W2c ?_ ?_ | refine Wg ?_ | refine W2 ?_ ?_ | exact Wdead | refine Wlive (fun hb => ?_) | intro _ _ _ _ _ _ _ _ | refine We ?_ | refine Wx ?_ | refine Wt ?_ | refine Wm ?_ | refine W2m ?_ ?_ | refine Wl ?_)
      | fail)
    obtain rfl : j = xs.length := by omega
    rw [List.take_length] at hs
    exact ⟨by first | (rw [hs]; done) | (rw [hs]; rfl), rfl, rfl⟩
theorem eachD_spec {γ : Type} (E : Env γ) (g : γ) (H : AHeap) (sv fv : Value) (xs : List ReadM) (p : ReadM → Bool) (hn : xs.length ≤ 1000000) (hr : RdS H sv 3 (xs.map encD))
    (hf : ∀ H' x, Ext H H' → x ∈ xs → CallV Try.prog E fv [.agg ⟨encD x⟩] (fun v H2 g' => v = .bool (p x) ∧ H2 = H' ∧ g' = g) H' g) :
    CallJ Try.prog E 124 [sv, fv] (fun v H' g' => v = .bool (xs.all p) ∧ H' = H ∧ g' = g) H g := by
  refine CallJ.tidy ?_
  refine CallJ.enter Try.func124 rfl (by simp only [Try.ntmps124, List.length_cons, List.length_nil, Nat.zero_add, Nat.reduceAdd, Nat.reduceSub, List.replicate_succ, List.replicate_zero, List.cons_append, List.nil_append]; rfl) ?_
  repeat' (first
    | (refine is_ucall ?_; first
      | refine st_callVP (h := hf _ _ extA (List.getElem_mem hlt)) (k := ?_)
      | fail)
    | ((fail_if_success (first | refine is_ucall ?_ | refine is_umcall ?_)); first | refine W1 ?_ | refine Wc ?_ | refine W2c ?_ ?_ | refine Wg ?_ | refine W2 ?_ ?_ | exact Wdead | refine Wlive (fun hb => ?_) | intro _ _ _ _ _ _ _ _ | refine We ?_ | refine Wx ?_ | refine Wt ?_ | refine Wm ?_ | refine W2m ?_ ?_ | refine Wl ?_)
    | fail)
  refine WPJ.loopN xs.length (fun j (_ : Unit) => [wild, fv, wild, wild, wild, wild, wild, sv, .int .i64 xs.length, .int .i64 j, wild, wild, wild, wild, wild, wild, wild, wild])
    (fun j _ H1 g1 => g1 = g ∧ Ext H H1 ∧ (xs.take j).all p = true) 0 () (Nat.zero_le _) (by repeat' (first | exact Weak.nil | refine Weak.wild ?_ | refine Weak.same ?_ | refine Weak.intEq (by first | omega | (simp; done) | (push_cast; omega)) ?_)) ⟨rfl, extA, rfl⟩ ?_
  rintro j _ H1 g1 hj ⟨rfl, he, hs⟩ hl
  rcases Nat.lt_or_ge j xs.length with hlt | hge
  · have hel : (xs.map encD)[j]? = some (encD xs[j]) := by simp [hlt]
    repeat' (first
      | (refine is_ucall ?_; first
        | refine st_callVP (h := hf _ _ extA (List.getElem_mem hlt)) (k := ?_)
        | fail)
      | ((fail_if_success (first | refine is_ucall ?_ | refine is_umcall ?_)); first | refine W1 ?_ | refine Wc ?_ | refine W2c ?_ ?_ | refine Wg ?_ | refine W2 ?_ ?_ | exact Wdead | refine Wlive (fun hb => ?_) | intro _ _ _ _ _ _ _ _ | refine We ?_ | refine Wx ?_ | refine Wt ?_ | refine Wm ?_ | refine W2m ?_ ?_ | refine Wl ?_)
      | fail)
    · refine ⟨?_, rfl, rfl⟩
      have h1 : p xs[j] = false := by simpa using hb
      show Value.bool false = _
      congr 1
      exact (List.all_eq_false.2 ⟨xs[j], List.getElem_mem hlt, by simp [h1]⟩).symm
    · have h1 : p xs[j] = true := by simpa using hb
      refine ⟨(), hlt, (by repeat' (first | exact Weak.nil | refine Weak.wild ?_ | refine Weak.same ?_ | refine Weak.intEq (by first | omega | (simp; done) | (push_cast; omega)) ?_)), rfl, extA, ?_⟩
      rw [List.take_succ_eq_append_getElem hlt, List.all_append, hs]
      simp [h1]
  · skip
    repeat' (first
      | (refine is_ucall ?_; first
        | refine st_callVP (h := hf _ _ extA (List.getElem_mem hlt)) (k := ?_)
        | fail)
      | ((fail_if_success (first | refine is_ucall ?_ | refine is_umcall ?_)); first | refine W1 ?_ | refine Wc ?_ | refine W2c ?_ ?_ | refine Wg ?_ | refine W2 ?_ ?_ | exact Wdead | refine Wlive (fun hb => ?_) | intro _ _ _ _ _ _ _ _ | refine We ?_ | refine Wx ?_ | refine Wt ?_ | refine Wm ?_ | refine W2m ?_ ?_ | refine Wl ?_)
      | fail)
    obtain rfl : j = xs.length := by omega
    rw [List.take_length] at hs
    exact ⟨by first | (rw [hs]; done) | (rw [hs]; rfl), rfl, rfl⟩
section
variable {γ : Type} (E : Env γ) (g : γ) (H : AHeap)
theorem has_V (lo hi n : Int) : CallV Try.prog E (.func (.func 114) ⟨[.agg ⟨[.int .i64 lo, .int .i64 hi]⟩]⟩ ⟨[]⟩) [.int .i64 n] (fun v H' g' => v = .bool (inR lo hi n) ∧ H' = H ∧ g' = g) H g := CallV.of_func EntC.ent (has_spec E g H lo hi n)
theorem isLoss_V (r : Int × Int) : CallV Try.prog E (.func (.func 123) ⟨[]⟩ ⟨[]⟩) [.agg ⟨encR r⟩] (fun v H' g' => v = .bool (upTo r 99) ∧ H' = H ∧ g' = g) H g := CallV.of_func EntC.ent (isLoss_spec E g H r)
theorem isReading_V (m : CopM) (s1 s2 s3 s4 : Value) (r : ReadM) (hok : (ccells m s1 s2 s3 s4).all cellOk = true) : CallV Try.prog E (.func (.func 125) ⟨[cv m s1 s2 s3 s4]⟩ ⟨[]⟩) [.agg ⟨encD r⟩] (fun v H' g' => v = .bool (isReadS m r) ∧ H' = H ∧ g' = g) H g := CallV.of_func EntC.ent (isReading_spec E g H m s1 s2 s3 s4 r hok)
theorem isForHours_spec (m : CopM) (s1 s2 s3 s4 sv : Value) (l : List Int) (most : Int) (hok : (ccells m s1 s2 s3 s4).all cellOk = true) (hl : m.last ≤ 1000000 ∧ -1000000 ≤ m.last) (hr : RdS H sv 1 (encI l)) (hn : l.length ≤ 1000000) :
    CallJ Try.prog E 99 [cv m s1 s2 s3 s4, sv, .int .i64 most] (fun v H' g' => v = .bool (forHours m l most) ∧ H' = H ∧ g' = g) H g := by
  refine CallJ.tidy ?_
  unfold cv forHours
  refine CallJ.enter Try.func99 rfl (by simp only [Try.ntmps99, List.length_cons, List.length_nil, Nat.zero_add, Nat.reduceAdd, Nat.reduceSub, List.replicate_succ, List.replicate_zero, List.cons_append, List.nil_append]; rfl) ?_
  repeat' (first
    | (refine is_ucall ?_; first
      | refine st_callP (h := hours_spec _ _ _ m s1 s2 s3 s4 hok hl) (k := ?_)
      | refine st_callP (h := eachI_spec _ _ _ sv _ l (inR 0 most) hn (hr.ext extA) (fun _ _ _ _ => has_V _ _ _ _ _ _)) (k := ?_)
      | fail)
    | (refine is_umcall ?_; first
      | refine mj_callP (h := hours_spec _ _ _ m s1 s2 s3 s4 hok hl) (k := ?_)
      | refine mj_callP (h := eachI_spec _ _ _ sv _ l (inR 0 most) hn (hr.ext extA) (fun _ _ _ _ => has_V _ _ _ _ _ _)) (k := ?_)
      | fail)
    | ((fail_if_success (first | refine is_ucall ?_ | refine is_umcall ?_)); first | refine W1 ?_ | refine Wc ?_ | refine W2c ?_ ?_ | refine Wg ?_ | refine W2 ?_ ?_ | exact Wdead | refine Wlive (fun hb => ?_) | intro _ _ _ _ _ _ _ _ | refine We ?_ | refine Wx ?_ | refine Wt ?_ | refine Wm ?_ | refine W2m ?_ ?_ | refine Wl ?_)
    | fail)
  all_goals (refine ⟨?_, rfl, rfl⟩; show Value.bool _ = _; congr 1 <;> simp [*])
theorem prodS_snoc : ∀ (l : List (Int × Int)) (r : Int × Int), prodS (l ++ [r]) = prodS l * (r.2 - r.1 + 1)
  | [], r => by simp [prodS]
  | a :: l, r => by simp only [List.cons_append, prodS, prodS_snoc l r, Int.mul_assoc]
theorem prodS_bd : ∀ (l : List (Int × Int)), (∀ r ∈ l, upTo r 99 = true) → 1 ≤ prodS l ∧ prodS l ≤ 100 ^ l.length
  | [], _ => by simp [prodS]
  | r :: l, h => by
    have h1 := h r (by simp)
    have h2 := prodS_bd l fun x hx => h x (by simp [hx])
    simp only [upTo, Bool.and_eq_true, decide_eq_true_eq] at h1
    have h3 : 1 ≤ r.2 - r.1 + 1 := by omega
    have h4 : r.2 - r.1 + 1 ≤ 100 := by omega
    simp only [prodS, List.length_cons]
    refine ⟨?_, ?_⟩
    · have := Int.mul_le_mul h3 h2.1 (by omega) (by omega); omega
    · have := Int.mul_le_mul h4 h2.2 (by omega) (by omega)
      rw [Int.pow_succ, Int.mul_comm (100 ^ l.length) 100]; exact this
theorem p100 (k : Nat) (h : k ≤ 5) : (100 : Int) ^ k ≤ 10000000000 := by
  rcases (by omega : k = 0 ∨ k = 1 ∨ k = 2 ∨ k = 3 ∨ k = 4 ∨ k = 5) with rfl | rfl | rfl | rfl | rfl | rfl <;> decide
end
end Go.Proofs.Ytjbiidlmpaibkaa
namespace Go.Proofs.Ytjbiidlmpaibkaa
open Go Go.Abs Go.Proofs
set_option maxHeartbeats 400000
attribute [local irreducible] CallJ OpsJ WPJ CallV MonoJ
section
variable {γ : Type} (E : Env γ) (g : γ) (H : AHeap)
theorem sizes_spec (m : CopM) (s1 s2 s3 s4 : Value) (hm : CopIs H m s1 s2 s3 s4) (hh : upTo (m.hlo, m.hhi) 99 = true) (hc : ∀ r ∈ m.loss, upTo r 99 = true) (hn : m.loss.length ≤ 5) :
    CallJ Try.prog E 83 [cv m s1 s2 s3 s4] (fun v H' g' => v = .int .i64 (sizesS m) ∧ H' = H ∧ g' = g) H g := by
  have hok := hm.cells
  have hr := hm.loss
  simp only [upTo, Bool.and_eq_true, decide_eq_true_eq] at hh
  refine CallJ.tidy ?_
  unfold cv
  refine CallJ.enter Try.func83 rfl (by simp only [Try.ntmps83, List.length_cons, List.length_nil, Nat.zero_add, Nat.reduceSub, List.replicate_succ, List.replicate_zero, List.cons_append, List.nil_append]; rfl) ?_
  repeat' (first
    | ((fail_if_success (first | refine is_ucall ?_ | refine is_umcall ?_)); first | refine W1 ?_ | refine Wc ?_ | refine W2c ?_ ?_ | refine Wg ?_ | refine W2 ?_ ?_ | exact Wdead | refine Wlive (fun hb => ?_) | intro _ _ _ _ _ _ _ _ | refine We ?_ | refine Wx ?_ | refine Wt ?_ | refine Wm ?_ | refine W2m ?_ ?_ | refine Wl ?_)
    | fail)
  refine WPJ.loopT m.loss.length [18, 19, 20, 5, 21, 22, 23, 24, 25, 26, 27, 28, 29] (fun j (s : Int) => [(17, .int .i64 j), (3, .int .i64 s)])
    (fun j s H1 g1 => g1 = g ∧ Ext H H1 ∧ s = (m.hhi - m.hlo + 1) * prodS (m.loss.take j)) 0 (m.hhi - m.hlo + 1) (Nat.zero_le _) (by intro p hp; simp at hp; rcases hp with rfl | rfl <;> rfl) ⟨rfl, extA, by simp [prodS]⟩ ?_
  rintro j s H1 g1 hj ⟨rfl, he, hs⟩ hl
  simp only [updT, maskT, List.set_cons_zero, List.set_cons_succ]
  rcases Nat.lt_or_ge j m.loss.length with hlt | hge
  · have hel : (m.loss.map encR)[j]? = some (encR m.loss[j]) := by simp [hlt]
    have hsucc : (m.hhi - m.hlo + 1) * prodS (m.loss.take (j + 1)) = s * (m.loss[j].2 - m.loss[j].1 + 1) := by rw [List.take_succ_eq_append_getElem hlt, prodS_snoc, hs, Int.mul_assoc]
    have hb1 := prodS_bd (m.loss.take (j + 1)) fun r hr => hc r (List.mem_of_mem_take hr)
    have hb2 := hc m.loss[j] (List.getElem_mem hlt)
    simp only [upTo, Bool.and_eq_true, decide_eq_true_eq] at hb2
    have hb3 := p100 (m.loss.take (j + 1)).length (by simp; omega)
    have hb4 : 0 ≤ (m.hhi - m.hlo + 1) * prodS (m.loss.take (j + 1)) ∧ (m.hhi - m.hlo + 1) * prodS (m.loss.take (j + 1)) ≤ 100 * 10000000000 := ⟨Int.mul_nonneg (by omega) (by omega), Int.mul_le_mul (by omega) (by omega) (by omega) (by omega)⟩
    rw [hsucc] at hb4
    generalize m.loss[j] = r at *
    repeat' (first
      | ((fail_if_success (first | refine is_ucall ?_ | refine is_umcall ?_)); first | refine W1 ?_ | refine Wc ?_ | refine W2c ?_ ?_ | refine Wg ?_ | refine W2 ?_ ?_ | exact Wdead | refine Wlive (fun hb => ?_) | intro _ _ _ _ _ _ _ _ | refine We ?_ | refine Wx ?_ | refine Wt ?_ | refine Wm ?_ | refine W2m ?_ ?_ | refine Wl ?_)
      | fail)
    exact ⟨_, hlt, (by repeat' (first | exact Weak.nil | refine Weak.wild ?_ | refine Weak.same ?_ | refine Weak.intEq (by first | omega | (simp; done) | (push_cast; omega)) ?_)), rfl, extA, hsucc.symm⟩
  · skip
    repeat' (first
      | ((fail_if_success (first | refine is_ucall ?_ | refine is_umcall ?_)); first | refine W1 ?_ | refine Wc ?_ | refine W2c ?_ ?_ | refine Wg ?_ | refine W2 ?_ ?_ | exact Wdead | refine Wlive (fun hb => ?_) | intro _ _ _ _ _ _ _ _ | refine We ?_ | refine Wx ?_ | refine Wt ?_ | refine Wm ?_ | refine W2m ?_ ?_ | refine Wl ?_)
      | fail)
    obtain rfl : j = m.loss.length := by omega
    rw [List.take_length] at hs
    exact ⟨by unfold sizesS; rw [← hs], rfl, rfl⟩
theorem isValid_spec (m : CopM) (s1 s2 s3 s4 : Value) (hm : CopIs H m s1 s2 s3 s4) (h4 : m.last ≤ 4) : CallJ Try.prog E 82 [cv m s1 s2 s3 s4] (fun v H' g' => v = .bool (isValidS m) ∧ H' = H ∧ g' = g) H g := by
  have hok := hm.cells
  have hr3 := hm.loss
  refine CallJ.tidy ?_
  unfold cv isValidS
  refine CallJ.enter Try.func82 rfl (by simp only [Try.ntmps82, List.length_cons, List.length_nil, Nat.zero_add, Nat.reduceSub, List.replicate_succ, List.replicate_zero, List.cons_append, List.nil_append]; rfl) ?_
  repeat' (first
    | (refine is_ucall ?_; first
      | refine st_callP (h := hasValid_spec _ _ _ m s1 s2 s3 s4 hok) (k := ?_)
      | refine st_callP (h := hours_spec _ _ _ m s1 s2 s3 s4 hok (by omega)) (k := ?_)
      | refine st_callP (h := isForHours_spec _ _ _ m s1 s2 s3 s4 s1 m.coal _ hok (by omega) (hm.coal.ext extA) hm.n1) (k := ?_)
      | refine st_callP (h := isForHours_spec _ _ _ m s1 s2 s3 s4 s2 m.want _ hok (by omega) (hm.want.ext extA) hm.n2) (k := ?_)
      | refine st_callP (h := isUpTo_spec _ _ _ (m.hlo, m.hhi) _) (k := ?_)
      | refine st_callP (h := eachR_spec _ _ _ s3 _ m.loss (fun r => upTo r 99) hm.n3 (hm.loss.ext extA) (fun _ _ _ _ => isLoss_V _ _ _ _)) (k := ?_)
      | refine st_callP (h := eachD_spec _ _ _ s4 _ m.reads (isReadS m) hm.n4 (hm.reads.ext extA) (fun _ _ _ _ => isReading_V _ _ _ m s1 s2 s3 s4 _ hok)) (k := ?_)
      | fail)
    | (refine is_umcall ?_; first
      | refine mj_callP (h := hasValid_spec _ _ _ m s1 s2 s3 s4 hok) (k := ?_)
      | refine mj_callP (h := hours_spec _ _ _ m s1 s2 s3 s4 hok (by omega)) (k := ?_)
      | refine mj_callP (h := isForHours_spec _ _ _ m s1 s2 s3 s4 s1 m.coal _ hok (by omega) (hm.coal.ext extA) hm.n1) (k := ?_)
      | refine mj_callP (h := isForHours_spec _ _ _ m s1 s2 s3 s4 s2 m.want _ hok (by omega) (hm.want.ext extA) hm.n2) (k := ?_)
      | refine mj_callP (h := isUpTo_spec _ _ _ (m.hlo, m.hhi) _) (k := ?_)
      | refine mj_callP (h := eachR_spec _ _ _ s3 _ m.loss (fun r => upTo r 99) hm.n3 (hm.loss.ext extA) (fun _ _ _ _ => isLoss_V _ _ _ _)) (k := ?_)
      | refine mj_callP (h := eachD_spec _ _ _ s4 _ m.reads (isReadS m) hm.n4 (hm.reads.ext extA) (fun _ _ _ _ => isReading_V _ _ _ m s1 s2 s3 s4 _ hok)) (k := ?_)
      | fail)
    | ((fail_if_success (first | refine is_ucall ?_ | refine is_umcall ?_)); first | refine W1 ?_ | refine Wc ?_ | refine W2c ?_ ?_ | refine Wg ?_ | refine W2 ?_ ?_ | exact Wdead | refine Wlive (fun hb => ?_) | intro _ _ _ _ _ _ _ _ | refine We ?_ | refine Wx ?_ | refine Wt ?_ | refine Wm ?_ | refine W2m ?_ ?_ | refine Wl ?_)
    | fail)
  all_goals first | (done) | (refine ⟨?_, rfl, rfl⟩; show Value.bool _ = _; congr 1 <;> first | (simp [*]; done) | (simp [*]; intros; omega)) | skip
  refine WPJ.draw 18 mixed (by kernel_rfl) (by kernel_rfl) (by kernel_rfl) (by decide) ?_
  refine MonoJ.normA ?_
  repeat' (first
    | (refine is_ucall ?_; first
      | refine st_callP (h := hasValid_spec _ _ _ m s1 s2 s3 s4 hok) (k := ?_)
      | refine st_callP (h := hours_spec _ _ _ m s1 s2 s3 s4 hok (by omega)) (k := ?_)
      | refine st_callP (h := isForHours_spec _ _ _ m s1 s2 s3 s4 s1 m.coal _ hok (by omega) (hm.coal.ext extA) hm.n1) (k := ?_)
      | refine st_callP (h := isForHours_spec _ _ _ m s1 s2 s3 s4 s2 m.want _ hok (by omega) (hm.want.ext extA) hm.n2) (k := ?_)
      | refine st_callP (h := isUpTo_spec _ _ _ (m.hlo, m.hhi) _) (k := ?_)
      | refine st_callP (h := eachR_spec _ _ _ s3 _ m.loss (fun r => upTo r 99) hm.n3 (hm.loss.ext extA) (fun _ _ _ _ => isLoss_V _ _ _ _)) (k := ?_)
      | refine st_callP (h := eachD_spec _ _ _ s4 _ m.reads (isReadS m) hm.n4 (hm.reads.ext extA) (fun _ _ _ _ => isReading_V _ _ _ m s1 s2 s3 s4 _ hok)) (k := ?_)
      | fail)
    | (refine is_umcall ?_; first
      | refine mj_callP (h := hasValid_spec _ _ _ m s1 s2 s3 s4 hok) (k := ?_)
      | refine mj_callP (h := hours_spec _ _ _ m s1 s2 s3 s4 hok (by omega)) (k := ?_)
      | refine mj_callP (h := isForHours_spec _ _ _ m s1 s2 s3 s4 s1 m.coal _ hok (by omega) (hm.coal.ext extA) hm.n1) (k := ?_)
      | refine mj_callP (h := isForHours_spec _ _ _ m s1 s2 s3 s4 s2 m.want _ hok (by omega) (hm.want.ext extA) hm.n2) (k := ?_)
      | refine mj_callP (h := isUpTo_spec _ _ _ (m.hlo, m.hhi) _) (k := ?_)
      | refine mj_callP (h := eachR_spec _ _ _ s3 _ m.loss (fun r => upTo r 99) hm.n3 (hm.loss.ext extA) (fun _ _ _ _ => isLoss_V _ _ _ _)) (k := ?_)
      | refine mj_callP (h := eachD_spec _ _ _ s4 _ m.reads (isReadS m) hm.n4 (hm.reads.ext extA) (fun _ _ _ _ => isReading_V _ _ _ m s1 s2 s3 s4 _ hok)) (k := ?_)
      | fail)
    | ((fail_if_success (first | refine is_ucall ?_ | refine is_umcall ?_)); first | refine W1 ?_ | refine Wc ?_ | refine W2c ?_ ?_ | refine Wg ?_ | refine W2 ?_ ?_ | exact Wdead | refine Wlive (fun hb => ?_) | intro _ _ _ _ _ _ _ _ | refine We ?_ | refine Wx ?_ | refine Wt ?_ | refine Wm ?_ | refine W2m ?_ ?_ | refine Wl ?_)
    | fail)
  all_goals (refine ⟨?_, rfl, rfl⟩; show Value.bool _ = _; congr 1 <;> first | (simp [*]; done) | (simp [*]; intros; omega))
theorem isValidS.parts {m : CopM} (h : isValidS m = true) : upTo (m.hlo, m.hhi) 99 = true ∧ (∀ r ∈ m.loss, upTo r 99 = true) ∧ (m.loss.length : Int) = m.last + 1 := by
  simp only [isValidS, Bool.and_eq_true, List.all_eq_true, decide_eq_true_eq] at h
  exact ⟨h.1.2.1.1, h.1.2.2, h.1.2.1.2⟩
theorem isLongS.last {m : CopM} (h : isLongS m = false) : m.last ≤ 4 := by
  simp only [isLongS, Bool.or_eq_false_iff, decide_eq_false_iff_not] at h
  omega
theorem CheckCopper_spec (m : CopM) (s1 s2 s3 s4 : Value) (hm : CopIs H m s1 s2 s3 s4) : CallJ Try.prog E 26 [cv m s1 s2 s3 s4] (fun v H' g' => v = .int .i64 (checkS m) ∧ H' = H ∧ g' = g) H g := by
  have hok := hm.cells
  refine CallJ.tidy ?_
  unfold cv
  refine CallJ.enter Try.func26 rfl (by simp only [Try.ntmps26, List.length_cons, List.length_nil, Nat.zero_add, Nat.reduceSub, List.replicate_succ, List.replicate_zero, List.cons_append, List.nil_append]; rfl) ?_
  repeat' (first
    | (refine is_ucall ?_; first
      | refine st_callP (h := isLong_spec _ _ _ m s1 s2 s3 s4 (hm.ext extA)) (k := ?_)
      | refine st_callP (h := isValid_spec _ _ _ m s1 s2 s3 s4 (hm.ext extA) (isLongS.last (by assumption))) (k := ?_)
      | refine st_callP (h := sizes_spec _ _ _ m s1 s2 s3 s4 (hm.ext extA) (isValidS.parts (by assumption)).1 (isValidS.parts (by assumption)).2.1 (by have := (isValidS.parts (m := m) (by assumption)).2.2; have := isLongS.last (m := m) (by assumption); omega)) (k := ?_)
      | fail)
    | (refine is_umcall ?_; first
      | refine mj_callP (h := isLong_spec _ _ _ m s1 s2 s3 s4 (hm.ext extA)) (k := ?_)
      | refine mj_callP (h := isValid_spec _ _ _ m s1 s2 s3 s4 (hm.ext extA) (isLongS.last (by assumption))) (k := ?_)
      | refine mj_callP (h := sizes_spec _ _ _ m s1 s2 s3 s4 (hm.ext extA) (isValidS.parts (by assumption)).1 (isValidS.parts (by assumption)).2.1 (by have := (isValidS.parts (m := m) (by assumption)).2.2; have := isLongS.last (m := m) (by assumption); omega)) (k := ?_)
      | fail)
    | ((fail_if_success (first | refine is_ucall ?_ | refine is_umcall ?_)); first | refine W1 ?_ | refine Wc ?_ | refine W2c ?_ ?_ | refine Wg ?_ | refine W2 ?_ ?_ | exact Wdead | refine Wlive (fun hb => ?_) | intro _ _ _ _ _ _ _ _ | refine We ?_ | refine Wx ?_ | refine Wt ?_ | refine Wm ?_ | refine W2m ?_ ?_ | refine Wl ?_)
    | fail)
  all_goals (refine ⟨?_, rfl, rfl⟩; show Value.int _ _ = _; congr 1; simp only [checkS]; first | (simp [*]; done) | (simp [*]; omega))
end
end Go.Proofs.Ytjbiidlmpaibkaa
namespace Go.Proofs.Ytjbiidlmpaibkaa
open Go Go.Abs Go.Proofs
set_option maxHeartbeats 400000
attribute [local irreducible] CallJ OpsJ WPJ CallV MonoJ
def heatF (m : CopM) (hc : Int) (ls : List Int) (j : Nat) (h : Int) : Int := max (min (h + hc * m.coal.getD j 0) m.most - ls.getD j 0) 0
def leftF (m : CopM) (j : Nat) (x : Int) : Int := if m.want.getD j 0 ≤ x / m.per then x - m.per * m.want.getD j 0 else 0
def leftsS (m : CopM) (hc : Int) (ls : List Int) : Nat → Int
  | 0 => m.start
  | j + 1 => leftF m j (heatF m hc ls j (leftsS m hc ls j))
def heatS (m : CopM) (hc : Int) (ls : List Int) (j : Nat) : Int := heatF m hc ls j (leftsS m hc ls j)
def hotS (m : CopM) (hc : Int) (ls : List Int) (j : Nat) : Int := heatS m hc ls j / m.per
def leftS (m : CopM) (hc : Int) (ls : List Int) (j : Nat) : Int := leftsS m hc ls (j + 1)
def hrs (m : CopM) : Nat := (m.last + 1).toNat
structure WOk (m : CopM) : Prop where
  l0 : 0 ≤ m.last
  l4 : m.last ≤ 4
  most : 0 ≤ m.most ∧ m.most ≤ 999
  start : 0 ≤ m.start ∧ m.start ≤ m.most
  per : 1 ≤ m.per ∧ m.per ≤ 20
  cl : m.coal.length = hrs m
  wl : m.want.length = hrs m
  c3 : ∀ x ∈ m.coal, 0 ≤ x ∧ x ≤ 3
  w40 : ∀ x ∈ m.want, 0 ≤ x ∧ x ≤ 1000
structure TOk (hc : Int) (ls : List Int) : Prop where
  h : 0 ≤ hc ∧ hc ≤ 99
  l : ∀ x ∈ ls, 0 ≤ x ∧ x ≤ 99
  n : ls.length = 5
theorem getD_bd {l : List Int} {a b : Int} (h : ∀ x ∈ l, a ≤ x ∧ x ≤ b) (h0 : a ≤ 0 ∧ 0 ≤ b) (j : Nat) : a ≤ l.getD j 0 ∧ l.getD j 0 ≤ b := by
  rw [List.getD_eq_getElem?_getD]
  cases hj : l[j]? with
  | none => exact h0
  | some x => exact h x (List.mem_of_getElem? hj)
theorem heatF_bd {m : CopM} (hW : WOk m) {hc : Int} {ls : List Int} (hT : TOk hc ls) (j : Nat) {h : Int} (_h0 : 0 ≤ h) : 0 ≤ heatF m hc ls j h ∧ heatF m hc ls j h ≤ m.most := by
  have h1 := getD_bd hW.c3 (by omega) j
  have h2 := getD_bd hT.l (by omega) j
  have h3 : 0 ≤ hc * m.coal.getD j 0 := Int.mul_nonneg hT.h.1 h1.1
  have h4 := hW.most
  unfold heatF
  omega
theorem leftF_bd {m : CopM} (hW : WOk m) (j : Nat) {x : Int} (_h0 : 0 ≤ x) (h1 : x ≤ m.most) : 0 ≤ leftF m j x ∧ leftF m j x ≤ m.most := by
  have h2 := getD_bd hW.w40 (by omega) j
  have h3 := hW.per
  have h4 := hW.most
  unfold leftF
  split
  · rename_i h
    have h5 : 0 ≤ m.per * m.want.getD j 0 := Int.mul_nonneg (by omega) h2.1
    have h6 : m.per * m.want.getD j 0 ≤ m.per * (x / m.per) := Int.mul_le_mul_of_nonneg_left h (by omega)
    have h7 := Int.mul_ediv_self_le (x := x) (k := m.per) (by omega)
    omega
  · omega
theorem lefts_bd {m : CopM} (hW : WOk m) {hc : Int} {ls : List Int} (hT : TOk hc ls) : ∀ j, 0 ≤ leftsS m hc ls j ∧ leftsS m hc ls j ≤ m.most
  | 0 => hW.start
  | j + 1 => by
    have h := heatF_bd hW hT j (lefts_bd hW hT j).1
    exact leftF_bd hW j h.1 h.2
theorem heatS_bd {m : CopM} (hW : WOk m) {hc : Int} {ls : List Int} (hT : TOk hc ls) (j : Nat) : 0 ≤ heatS m hc ls j ∧ heatS m hc ls j ≤ m.most := heatF_bd hW hT j (lefts_bd hW hT j).1
theorem mul_bd {a b x y : Int} (ha : 0 ≤ a ∧ a ≤ x) (hb : 0 ≤ b ∧ b ≤ y) : 0 ≤ a * b ∧ a * b ≤ x * y := ⟨Int.mul_nonneg ha.1 hb.1, Int.mul_le_mul ha.2 hb.2 hb.1 (by omega)⟩
abbrev wcells (m : CopM) (s1 s2 s3 s4 : Value) (hot left : List Int) : List Value := ccells m s1 s2 s3 s4 ++ (encE hot ++ encE left)
theorem wcells_len (m : CopM) (s1 s2 s3 s4 : Value) {hot left : List Int} (h1 : hot.length = 5) (h2 : left.length = 5) : (wcells m s1 s2 s3 s4 hot left).length = 21 := by simp [encE, h1, h2]
theorem wcells_ok {m : CopM} {s1 s2 s3 s4 : Value} (hot left : List Int) (h : (ccells m s1 s2 s3 s4).all cellOk = true) : (wcells m s1 s2 s3 s4 hot left).all cellOk = true := by
  unfold wcells
  rw [List.all_append, List.all_append, h, encE_ok, encE_ok]; rfl
end Go.Proofs.Ytjbiidlmpaibkaa
namespace Go.Proofs.Ytjbiidlmpaibkaa
open Go Go.Abs Go.Proofs
set_option maxHeartbeats 400000
attribute [local irreducible] CallJ OpsJ WPJ CallV MonoJ
structure WIs (H : AHeap) (m : CopM) (ws : List Value) (s1 s2 s3 s4 : Value) (hot left : List Int) : Prop where
  cop : CopY H m s1 s2 s3 s4
  eq : ws = wcells m s1 s2 s3 s4 hot left
  nh : hot.length = 5
  nl : left.length = 5
theorem wcells_hot (m : CopM) (s1 s2 s3 s4 : Value) {hot left : List Int} {k : Nat} {x : Int} (h : hot[k]? = some x) : (wcells m s1 s2 s3 s4 hot left)[11 + k]? = some (.int .i64 x) := by
  unfold wcells
  have hk := (List.getElem?_eq_some_iff.1 h).1
  rw [List.getElem?_append_right (by simp), List.getElem?_append_left (by simp [encE]; exact hk)]
  simp [encE, h]
theorem wcells_left (m : CopM) (s1 s2 s3 s4 : Value) {hot left : List Int} (h5 : hot.length = 5) {k : Nat} {x : Int} (h : left[k]? = some x) : (wcells m s1 s2 s3 s4 hot left)[16 + k]? = some (.int .i64 x) := by
  unfold wcells
  rw [List.getElem?_append_right (by simp; omega), List.getElem?_append_right (by simp [encE, h5]; omega)]
  have : 16 + k - (ccells m s1 s2 s3 s4).length - (encE hot).length = k := by simp [encE, h5]; omega
  rw [this]
  simp [encE, h]
theorem wcells_setH (m : CopM) (s1 s2 s3 s4 : Value) {hot left : List Int} {k : Nat} (h5 : hot.length = 5) (hk : k < 5) (v : Value) : (wcells m s1 s2 s3 s4 hot left).set (11 + k) v = ccells m s1 s2 s3 s4 ++ ((encE hot).set k v ++ encE left) := by
  unfold wcells
  rw [List.set_append_right _ _ (by simp), List.set_append_left _ _ (by simp [encE, h5]; omega)]
  congr 3
  simp
theorem wcells_setL (m : CopM) (s1 s2 s3 s4 : Value) {hot left : List Int} {k : Nat} (h5 : hot.length = 5) (v : Value) : (wcells m s1 s2 s3 s4 hot left).set (16 + k) v = ccells m s1 s2 s3 s4 ++ (encE hot ++ (encE left).set k v) := by
  unfold wcells
  rw [List.set_append_right _ _ (by simp; omega), List.set_append_right _ _ (by simp [encE, h5]; omega)]
  congr 3
  simp [encE, h5]; omega
section
variable {γ : Type} (E : Env γ) (g : γ) (H : AHeap)
theorem isKept_spec (m : CopM) (s1 s2 s3 s4 : Value) (hot left : List Int) (k : Int) (x y : Int) (hm : CopY H m s1 s2 s3 s4) (h5 : hot.length = 5) (hl5 : left.length = 5) (hk : 0 ≤ k ∧ k < 5) (hx : hot[k.toNat]? = some x) (hy : m.want[k.toNat]? = some y) :
    CallJ Try.prog E 96 [.agg ⟨wcells m s1 s2 s3 s4 hot left⟩, .int .i64 k] (fun v H' g' => v = .bool (decide (y ≤ x)) ∧ H' = H ∧ g' = g) H g := by
  have hok := wcells_ok hot left hm.cells
  have hl := wcells_len m s1 s2 s3 s4 h5 hl5
  have hr := hm.want
  have hw : (wcells m s1 s2 s3 s4 hot left)[0 + 0 + 6]? = some s2 := rfl
  have hh : (wcells m s1 s2 s3 s4 hot left)[0 + 11 + k.toNat * 1]? = some (.int .i64 x) := by have := wcells_hot m s1 s2 s3 s4 (left := left) hx; simpa using this
  have hel : (encI m.want)[k.toNat]? = some [.int .i64 y] := by simp [hy]
  generalize hws : wcells m s1 s2 s3 s4 hot left = ws at *
  refine CallJ.tidy ?_
  refine CallJ.enter Try.func96 rfl (by simp only [Try.ntmps96, List.length_cons, List.length_nil, Nat.zero_add, Nat.reduceAdd, Nat.reduceSub, List.replicate_succ, List.replicate_zero, List.cons_append, List.nil_append]; rfl) ?_
  repeat' (first
    | ((fail_if_success (first | refine is_ucall ?_ | refine is_umcall ?_)); first | refine W1 ?_ | refine Wc ?_ | refine W2c ?_ ?_ | refine Wg ?_ | refine W2 ?_ ?_ | exact Wdead | refine Wlive (fun hb => ?_) | intro _ _ _ _ _ _ _ _ | refine We ?_ | refine Wx ?_ | refine Wt ?_ | refine Wm ?_ | refine W2m ?_ ?_ | refine Wl ?_)
    | fail)
  refine WPJ.draw 11 mixed (by kernel_rfl) (by kernel_rfl) (by kernel_rfl) (by decide) ?_
  refine MonoJ.normA ?_
  repeat' (first
    | ((fail_if_success (first | refine is_ucall ?_ | refine is_umcall ?_)); first | refine W1 ?_ | refine Wc ?_ | refine W2c ?_ ?_ | refine Wg ?_ | refine W2 ?_ ?_ | exact Wdead | refine Wlive (fun hb => ?_) | intro _ _ _ _ _ _ _ _ | refine We ?_ | refine Wx ?_ | refine Wt ?_ | refine Wm ?_ | refine W2m ?_ ?_ | refine Wl ?_)
    | fail)
  exact ⟨rfl, rfl, rfl⟩
end
end Go.Proofs.Ytjbiidlmpaibkaa
namespace Go.Proofs.Ytjbiidlmpaibkaa
open Go Go.Abs Go.Proofs
set_option maxHeartbeats 800000
attribute [local irreducible] CallJ OpsJ WPJ CallV MonoJ
theorem wcells_low {H : AHeap} {m : CopM} {s1 s2 s3 s4 : Value} (hm : CopY H m s1 s2 s3 s4) (hot left : List Int) : ∀ v ∈ wcells m s1 s2 s3 s4 hot left, Low H.length v := by
  intro v hv
  rcases List.mem_append.1 hv with hv | hv
  · simp only [ccells, List.mem_cons, List.not_mem_nil, or_false] at hv
    rcases hv with rfl | rfl | rfl | rfl | rfl | rfl | rfl | rfl | rfl | rfl | rfl
    · exact .flat rfl
    · exact .flat rfl
    · exact .flat rfl
    · exact .flat rfl
    · exact .flat rfl
    · exact RdS.low hm.coal
    · exact RdS.low hm.want
    · exact .flat rfl
    · exact .flat rfl
    · exact RdS.low hm.loss
    · exact RdS.low hm.reads
  · rcases List.mem_append.1 hv with hv | hv <;> (simp [encE] at hv; obtain ⟨_, _, rfl⟩ := hv; exact .flat rfl)
theorem hrs_le {m : CopM} (hW : WOk m) : hrs m ≤ 5 ∧ ((hrs m : Nat) : Int) = m.last + 1 := by
  have := hW.l0
  have := hW.l4
  unfold hrs
  omega
section
variable {γ : Type} (E : Env γ) (g : γ) (H : AHeap)
theorem work_spec (m : CopM) (s1 s2 s3 s4 : Value) (hc : Int) (ls : List Int) (hm : CopY H m s1 s2 s3 s4) (hW : WOk m) (hT : TOk hc ls) :
    CallJ Try.prog E 77 [cv m s1 s2 s3 s4, .agg ⟨.int .i64 hc :: encE ls⟩] (fun v H' g' => v = .agg ⟨wcells m s1 s2 s3 s4 (arr5 (hrs m) (hotS m hc ls)) (arr5 (hrs m) (leftS m hc ls))⟩ ∧ H' = H ∧ g' = g) H g := by
  have hok := hm.cells
  have hr1 := hm.coal
  have hr2 := hm.want
  obtain ⟨hn5, hnl⟩ := hrs_le hW
  have hl0 := hW.l0
  have hl4 := hW.l4
  have hlE : (encE ls).length = 5 := by simp [encE, hT.n]
  have hlok := encE_ok ls
  have hokt : (Value.int .i64 hc :: encE ls).all cellOk = true := by rw [List.all_cons, hlok]; rfl
  refine CallJ.tidy ?_
  unfold cv
  refine CallJ.enter Try.func77 rfl (by simp only [Try.ntmps77, List.length_cons, List.length_nil, Nat.zero_add, Nat.reduceAdd, Nat.reduceSub, List.replicate_succ, List.replicate_zero, List.cons_append, List.nil_append]; rfl) ?_
  repeat' (first
    | (refine is_ucall ?_; first
      | refine st_callP (h := hours_spec _ _ _ m s1 s2 s3 s4 hok (by omega)) (k := ?_)
      | fail)
    | (refine is_umcall ?_; first
      | refine mj_callP (h := hours_spec _ _ _ m s1 s2 s3 s4 hok (by omega)) (k := ?_)
      | fail)
    | ((fail_if_success (first | refine is_ucall ?_ | refine is_umcall ?_)); first | refine W1 ?_ | refine Wc ?_ | refine W2c ?_ ?_ | refine Wg ?_ | refine W2 ?_ ?_ | exact Wdead | refine Wlive (fun hb => ?_) | intro _ _ _ _ _ _ _ _ | refine We ?_ | refine Wx ?_ | refine Wt ?_ | refine Wm ?_ | refine W2m ?_ ?_ | refine Wl ?_)
    | fail)
  refine WPJ.loopT (hrs m) [15, 16, 7, 17, 18, 19, 20, 21, 22, 23, 24, 25, 26, 27, 28, 29, 30, 31, 32, 33, 34, 35, 36, 37, 38, 39, 40, 41, 42, 43, 44, 45, 46, 47, 48, 49, 50, 51, 52, 53, 54, 55, 56, 57, 58, 59, 60, 61] (fun j (x : Int) => [(14, .int .i64 j), (6, .int .i64 x)])
    (fun j x H1 g1 => g1 = g ∧ Ext H H1 ∧ H1[H.length]? = some (.row (ccells m s1 s2 s3 s4) 1 true) ∧ H1[H.length + 1]? = some (.row (.int .i64 hc :: encE ls) 1 true) ∧ H1[H.length + 2]? = some (.row ([.int .i64 0, .int .i64 0, .int .i64 0, .int .i64 0, .int .i64 0, .slice none 0 0, .slice none 0 0, .int .i64 0, .int .i64 0, .slice none 0 0, .slice none 0 0] ++ (encE [0, 0, 0, 0, 0] ++ encE [0, 0, 0, 0, 0])) 1 true) ∧ H1[H.length + 3]? = some (.row (wcells m s1 s2 s3 s4 (arr5 j (hotS m hc ls)) (arr5 j (leftS m hc ls))) 1 true) ∧ x = leftsS m hc ls j ∧ H.length + 3 < H1.length) 0 m.start (Nat.zero_le _)
    (by intro p hp; simp at hp; rcases hp with rfl | rfl <;> rfl) ⟨rfl, extA, getA, getA, getA, getA, rfl, by simp⟩ ?_
  rintro j x H1 g1 hj ⟨rfl, he, hb0, hb1, hb2, hb3, hx, hlen⟩ hl
  simp only [updT, maskT, List.set_cons_zero, List.set_cons_succ]
  rcases Nat.lt_or_ge j (hrs m) with hlt | hge
  · have hcj : j < m.coal.length := by rw [hW.cl]; exact hlt
    have hwj : j < m.want.length := by rw [hW.wl]; exact hlt
    have helc : (encI m.coal)[(j : Int).toNat]? = some [.int .i64 m.coal[j]] := by simp [hcj]
    have helw : (encI m.want)[(j : Int).toNat]? = some [.int .i64 m.want[j]] := by simp [hwj]
    have hc3 := hW.c3 _ (List.getElem_mem hcj)
    have hw40 := hW.w40 _ (List.getElem_mem hwj)
    have hmul := mul_bd hT.h hc3
    have hxb := lefts_bd hW hT j
    have hms := hW.most
    have hpr := hW.per
    rw [← hx] at hxb
    have hlj : (ls.getD j 0) = ls[j]'(by have := hT.n; omega) := by simp [List.getD, show j < ls.length by have := hT.n; omega]
    have helL : (Value.int .i64 hc :: encE ls)[0 + 1 + (j : Int).toNat * 1]? = some (.int .i64 (ls.getD j 0)) := by
      have : 0 + 1 + (j : Int).toNat * 1 = j + 1 := by omega
      rw [this, List.getElem?_cons_succ, hlj]
      simp [encE, show j < ls.length by have := hT.n; omega]
    have hlb := getD_bd hT.l (by omega) j
    have hA1 := arr5_len j (hotS m hc ls)
    have hA2 := arr5_len j (leftS m hc ls)
    have hgc : m.coal.getD j 0 = m.coal[j] := by simp [List.getD, hcj]
    have hgw : m.want.getD j 0 = m.want[j] := by simp [List.getD, hwj]
    have hy : (if 0 > (if m.most < x + hc * m.coal[j] then m.most else x + hc * m.coal[j]) - ls.getD j 0 then 0 else (if m.most < x + hc * m.coal[j] then m.most else x + hc * m.coal[j]) - ls.getD j 0) = heatS m hc ls j := by
      unfold heatS heatF
      rw [← hx, hgc, min_if, max_if]
    repeat' (first
      | (refine is_ucall ?_; first
        | refine st_callP (h := hours_spec _ _ _ m s1 s2 s3 s4 hok (by omega)) (k := ?_)
        | fail)
      | (refine is_umcall ?_; first
        | refine mj_callP (h := hours_spec _ _ _ m s1 s2 s3 s4 hok (by omega)) (k := ?_)
        | fail)
      | ((fail_if_success (first | refine is_ucall ?_ | refine is_umcall ?_)); first | refine W1 ?_ | refine Wc ?_ | refine W2c ?_ ?_ | refine Wg ?_ | refine W2 ?_ ?_ | exact Wdead | refine Wlive (fun hb => ?_) | intro _ _ _ _ _ _ _ _ | refine We ?_ | refine Wx ?_ | refine Wt ?_ | refine Wm ?_ | refine W2m ?_ ?_ | refine Wl ?_)
      | fail)
    have hkey : (Value.int .i64 m.last :: Value.int .i64 m.start :: Value.int .i64 m.most :: Value.int .i64 m.per :: Value.int .i64 m.shovels :: s1 :: s2 :: Value.int .i64 m.hlo :: Value.int .i64 m.hhi :: s3 :: s4 :: (encE (arr5 j (hotS m hc ls)) ++ encE (arr5 j (leftS m hc ls)))).set (11 + j * 1) (Value.int .i64 (heatS m hc ls j / m.per)) = wcells m s1 s2 s3 s4 (arr5 (j + 1) (hotS m hc ls)) (arr5 j (leftS m hc ls)) := by
      rw [Nat.mul_one]
      refine (wcells_setH m s1 s2 s3 s4 (hot := arr5 j (hotS m hc ls)) (left := arr5 j (leftS m hc ls)) hA1 (by omega) _).trans ?_
      rw [show heatS m hc ls j / m.per = hotS m hc ls j from rfl, arr5_set]
    have hB1 := arr5_len (j + 1) (hotS m hc ls)
    have htake : (wcells m s1 s2 s3 s4 (arr5 (j + 1) (hotS m hc ls)) (arr5 j (leftS m hc ls))).take 21 = wcells m s1 s2 s3 s4 (arr5 (j + 1) (hotS m hc ls)) (arr5 j (leftS m hc ls)) := List.take_of_length_le (by rw [wcells_len m s1 s2 s3 s4 hB1 hA2]; omega)
    have hkok := wcells_ok (arr5 (j + 1) (hotS m hc ls)) (arr5 j (leftS m hc ls)) hok
    have hkl := wcells_len m s1 s2 s3 s4 hB1 hA2
    have hkey2 : ∀ v, (wcells m s1 s2 s3 s4 (arr5 (j + 1) (hotS m hc ls)) (arr5 j (leftS m hc ls))).set (16 + j) v = ccells m s1 s2 s3 s4 ++ (encE (arr5 (j + 1) (hotS m hc ls)) ++ (encE (arr5 j (leftS m hc ls))).set j v) := fun v => wcells_setL m s1 s2 s3 s4 hB1 v
    have hmul2 := mul_bd (show 0 ≤ m.per ∧ m.per ≤ 20 by omega) hw40
    have hhb := heatS_bd hW hT j
    refine WPJ.draw 13 mixed (by kernel_rfl) (by kernel_rfl) (by kernel_rfl) (by decide) ?_
    refine MonoJ.normA ?_
    repeat' (first
      | (refine is_ucall ?_; first
        | refine st_callP (h := hours_spec _ _ _ m s1 s2 s3 s4 hok (by omega)) (k := ?_)
        | fail)
      | (refine is_umcall ?_; first
        | refine mj_callP (h := hours_spec _ _ _ m s1 s2 s3 s4 hok (by omega)) (k := ?_)
        | fail)
      | ((fail_if_success (first | refine is_ucall ?_ | refine is_umcall ?_)); first | refine W1 ?_ | refine Wc ?_ | refine W2c ?_ ?_ | refine Wg ?_ | refine W2 ?_ ?_ | exact Wdead | refine Wlive (fun hb => ?_) | intro _ _ _ _ _ _ _ _ | refine We ?_ | refine Wx ?_ | refine Wt ?_ | refine Wm ?_ | refine W2m ?_ ?_ | refine Wl ?_)
      | fail)
    rw [hy, hkey, htake]
    refine st_callP (h := isKept_spec E _ _ m s1 s2 s3 s4 (arr5 (j + 1) (hotS m hc ls)) (arr5 j (leftS m hc ls)) j (hotS m hc ls j) m.want[j] (hm.ext extA) hB1 hA2 (by omega) (arr5_get (by omega) (by omega)) (by simp [hwj])) (k := ?_)
    generalize hws : wcells m s1 s2 s3 s4 (arr5 (j + 1) (hotS m hc ls)) (arr5 j (leftS m hc ls)) = ws at *
    refine OpsJ.normA ?_
    repeat' (first
      | (refine is_ucall ?_; first
        | refine st_callP (h := hours_spec _ _ _ m s1 s2 s3 s4 hok (by omega)) (k := ?_)
        | fail)
      | (refine is_umcall ?_; first
        | refine mj_callP (h := hours_spec _ _ _ m s1 s2 s3 s4 hok (by omega)) (k := ?_)
        | fail)
      | ((fail_if_success (first | refine is_ucall ?_ | refine is_umcall ?_)); first | refine W1 ?_ | refine Wc ?_ | refine W2c ?_ ?_ | refine Wg ?_ | refine W2 ?_ ?_ | exact Wdead | refine Wlive (fun hb => ?_) | intro _ _ _ _ _ _ _ _ | refine We ?_ | refine Wx ?_ | refine Wt ?_ | refine Wm ?_ | refine W2m ?_ ?_ | refine Wl ?_)
      | fail)
    · have hk : m.want[j] ≤ hotS m hc ls j := by assumption
      refine WPJ.draw 10 mixed (by kernel_rfl) (by kernel_rfl) (by kernel_rfl) (by decide) ?_
      refine MonoJ.normA ?_
      repeat' (first
        | (refine is_ucall ?_; first
          | refine st_callP (h := hours_spec _ _ _ m s1 s2 s3 s4 hok (by omega)) (k := ?_)
          | fail)
        | (refine is_umcall ?_; first
          | refine mj_callP (h := hours_spec _ _ _ m s1 s2 s3 s4 hok (by omega)) (k := ?_)
          | fail)
        | ((fail_if_success (first | refine is_ucall ?_ | refine is_umcall ?_)); first | refine W1 ?_ | refine Wc ?_ | refine W2c ?_ ?_ | refine Wg ?_ | refine W2 ?_ ?_ | exact Wdead | refine Wlive (fun hb => ?_) | intro _ _ _ _ _ _ _ _ | refine We ?_ | refine Wx ?_ | refine Wt ?_ | refine Wm ?_ | refine W2m ?_ ?_ | refine Wl ?_)
        | fail)
      have e : heatS m hc ls j - m.per * m.want[j] = leftS m hc ls j := by
        show _ = leftF m j (heatS m hc ls j)
        unfold leftF
        rw [hgw, if_pos (show m.want[j] ≤ heatS m hc ls j / m.per from hk)]
      rw [e]
      refine ⟨leftS m hc ls j, hlt, (by repeat' (first | exact Weak.nil | refine Weak.wild ?_ | refine Weak.same ?_ | refine Weak.intEq (by first | omega | (simp; done) | (push_cast; omega)) ?_)), rfl, extA, getA, getA, getA, ?_, rfl, by simp; omega⟩
      rw [Nat.mul_one, hkey2, arr5_set]
      exact getA
    · have hk : ¬ m.want[j] ≤ hotS m hc ls j := by first | assumption | omega
      have e : (0 : Int) = leftS m hc ls j := by
        show _ = leftF m j (heatS m hc ls j)
        unfold leftF
        rw [hgw, if_neg (show ¬ m.want[j] ≤ heatS m hc ls j / m.per from hk)]
      refine ⟨leftS m hc ls j, hlt, by rw [← e]; exact (by repeat' (first | exact Weak.nil | refine Weak.wild ?_ | refine Weak.same ?_ | refine Weak.intEq (by first | omega | (simp; done) | (push_cast; omega)) ?_)), rfl, extA, getA, getA, getA, ?_, rfl, by simp; omega⟩
      rw [Nat.mul_one, hkey2, e, arr5_set]
      exact getA
  · obtain rfl : j = hrs m := by omega
    have hwl := wcells_len m s1 s2 s3 s4 (arr5_len (hrs m) (hotS m hc ls)) (arr5_len (hrs m) (leftS m hc ls))
    have hwt : (wcells m s1 s2 s3 s4 (arr5 (hrs m) (hotS m hc ls)) (arr5 (hrs m) (leftS m hc ls))).take 21 = wcells m s1 s2 s3 s4 (arr5 (hrs m) (hotS m hc ls)) (arr5 (hrs m) (leftS m hc ls)) := List.take_of_length_le (by omega)
    have hwo := wcells_ok (arr5 (hrs m) (hotS m hc ls)) (arr5 (hrs m) (leftS m hc ls)) hok
    have hlow := wcells_low hm (arr5 (hrs m) (hotS m hc ls)) (arr5 (hrs m) (leftS m hc ls))
    generalize wcells m s1 s2 s3 s4 (arr5 (hrs m) (hotS m hc ls)) (arr5 (hrs m) (leftS m hc ls)) = ws at *
    repeat' (first
      | (refine is_ucall ?_; first
        | refine st_callP (h := hours_spec _ _ _ m s1 s2 s3 s4 hok (by omega)) (k := ?_)
        | fail)
      | (refine is_umcall ?_; first
        | refine mj_callP (h := hours_spec _ _ _ m s1 s2 s3 s4 hok (by omega)) (k := ?_)
        | fail)
      | ((fail_if_success (first | refine is_ucall ?_ | refine is_umcall ?_)); first | refine W1 ?_ | refine Wc ?_ | refine W2c ?_ ?_ | refine Wg ?_ | refine W2 ?_ ?_ | exact Wdead | refine Wlive (fun hb => ?_) | intro _ _ _ _ _ _ _ _ | refine We ?_ | refine Wx ?_ | refine Wt ?_ | refine Wm ?_ | refine W2m ?_ ?_ | refine Wl ?_)
      | fail)
    exact Tidy.ext extA (.low (.agg fun v hv => hlow v hv)) ⟨rfl, rfl, rfl⟩
end
end Go.Proofs.Ytjbiidlmpaibkaa
namespace Go.Proofs.Ytjbiidlmpaibkaa
open Go Go.Abs Go.Proofs
set_option maxHeartbeats 400000
attribute [local irreducible] CallJ OpsJ WPJ CallV MonoJ
section
variable {γ : Type} (E : Env γ) (Hi : AHeap) (b : Nat) (yv : Value)
abbrev cval : Value := .func (.func 141) ⟨[]⟩ ⟨[.pointer (some ⟨b, 0, none⟩), .pointer (some ⟨Hi.length, 0, none⟩), .pointer (some ⟨Hi.length + 1, 0, none⟩), .pointer (some ⟨Hi.length + 2, 0, none⟩)]⟩
abbrev stE (es : List Int) : AHeap := Hi ++ [.row [yv] 1 true, .row (encE es) 1 true, .row [cval Hi b] 1 true]
theorem choose_spec (rs : List (Int × Int)) (rv : Value) (hm : RdS Hi rv 2 (rs.map encR)) (hb : Hi[b]? = some (.row [rv] 1 false)) (hN : rs.length ≤ 5)
    (hr : ∀ r ∈ rs, -1000 ≤ r.1 ∧ r.2 ≤ 1000) (J : Nat → γ → Prop) (Jx : γ → Prop) :
    ∀ (q c : Nat), c + q = rs.length → ∀ (es : List Int), es.length = 5 → ∀ (k : Nat) (g : γ),
    (∀ j s, (gen (rs.drop c))[j]? = some s → ∀ g1, J (k + j) g1 → CallV Try.prog E yv [.agg ⟨encE (es.take c ++ s ++ es.drop rs.length)⟩] (fun v H2 g2 => H2 = stE Hi b yv (es.take c ++ s ++ es.drop rs.length) ∧ (v = .bool true ∧ J (k + j + 1) g2 ∨ v = .bool false ∧ Jx g2)) (stE Hi b yv (es.take c ++ s ++ es.drop rs.length)) g1) →
    J k g → CallJ Try.prog E 141 [.int .i64 c, .pointer (some ⟨b, 0, none⟩), .pointer (some ⟨Hi.length, 0, none⟩), .pointer (some ⟨Hi.length + 1, 0, none⟩), .pointer (some ⟨Hi.length + 2, 0, none⟩)]
      (fun v H' g' => ∃ es', es'.length = 5 ∧ es'.take c = es.take c ∧ es'.drop rs.length = es.drop rs.length ∧ H' = stE Hi b yv es' ∧ (v = .bool true ∧ J (k + (gen (rs.drop c)).length) g' ∨ v = .bool false ∧ Jx g')) (stE Hi b yv es) g
  | 0, c, hc, es, hes, k, g, hy, hJ => by
    have hcl : (c : Int) = rs.length := by omega
    have hrd := hrs
    have hdrop : rs.drop c = [] := List.drop_eq_nil_iff.2 (by omega)
    have hl4 : (encE es).length = 5 := by simp [encE, hes]
    have hall : List.take 5 (encE es) = encE es := List.take_of_length_le (by omega)
    have heq : es.take c ++ [] ++ es.drop rs.length = es := by
      have : c = rs.length := by omega
      rw [List.append_nil, this, List.take_append_drop]
    have h0 := hy 0 [] (by rw [hdrop]; rfl) g (by simpa using hJ)
    rw [heq] at h0
    refine CallJ.enter Try.func141 rfl (by simp only [Try.ntmps141, List.length_cons, List.length_nil, Nat.zero_add, Nat.reduceAdd, Nat.reduceSub, List.replicate_succ, List.replicate_zero, List.cons_append, List.nil_append]; rfl) ?_
    repeat' (first
      | ((fail_if_success (first | refine is_ucall ?_ | refine is_umcall ?_)); first | refine W1 ?_ | refine Wc ?_ | refine W2c ?_ ?_ | refine Wg ?_ | refine W2 ?_ ?_ | exact Wdead | refine Wlive (fun hb => ?_) | intro _ _ _ _ _ _ _ _ | refine We ?_ | refine Wx ?_ | refine Wt ?_ | refine Wm ?_ | refine W2m ?_ ?_ | refine Wl ?_)
      | fail)
    refine st_callV rfl rfl h0 ?_
    rintro v H' g' ⟨rfl, ⟨rfl, h1⟩ | ⟨rfl, h1⟩⟩
    · skip
      repeat' (first
        | ((fail_if_success (first | refine is_ucall ?_ | refine is_umcall ?_)); first | refine W1 ?_ | refine Wc ?_ | refine W2c ?_ ?_ | refine Wg ?_ | refine W2 ?_ ?_ | exact Wdead | refine Wlive (fun hb => ?_) | intro _ _ _ _ _ _ _ _ | refine We ?_ | refine Wx ?_ | refine Wt ?_ | refine Wm ?_ | refine W2m ?_ ?_ | refine Wl ?_)
        | fail)
      exact ⟨es, hes, rfl, rfl, rfl, .inl ⟨rfl, by rw [hdrop]; exact h1⟩⟩
    · skip
      repeat' (first
        | ((fail_if_success (first | refine is_ucall ?_ | refine is_umcall ?_)); first | refine W1 ?_ | refine Wc ?_ | refine W2c ?_ ?_ | refine Wg ?_ | refine W2 ?_ ?_ | exact Wdead | refine Wlive (fun hb => ?_) | intro _ _ _ _ _ _ _ _ | refine We ?_ | refine Wx ?_ | refine Wt ?_ | refine Wm ?_ | refine W2m ?_ ?_ | refine Wl ?_)
        | fail)
      exact ⟨es, hes, rfl, rfl, rfl, .inr ⟨rfl, h1⟩⟩
  | q + 1, c, hc, es, hes, k, g, hy, hJ => by
    have hb' := hb
    have hlt : c < rs.length := by omega
    have hrd := hrs
    have hel : (rs.map encR)[c]? = some (encR rs[c]) := by simp [hlt]
    have hrb := hr rs[c] (List.getElem_mem hlt)
    have hdrop : rs.drop c = rs[c] :: rs.drop (c + 1) := List.drop_eq_getElem_cons hlt
    generalize hrr : rs[c] = r at *
    have hyL : ∀ i j s, i < (r.2 - r.1 + 1).toNat → (gen (rs.drop (c + 1)))[j]? = some s → ∀ g1, J (k + i * (gen (rs.drop (c + 1))).length + j) g1 → CallV Try.prog E yv [.agg ⟨encE (es.take c ++ ((r.1 + i) :: s) ++ es.drop rs.length)⟩] (fun v H2 g2 => H2 = stE Hi b yv (es.take c ++ ((r.1 + i) :: s) ++ es.drop rs.length) ∧ (v = .bool true ∧ J (k + i * (gen (rs.drop (c + 1))).length + j + 1) g2 ∨ v = .bool false ∧ Jx g2)) (stE Hi b yv (es.take c ++ ((r.1 + i) :: s) ++ es.drop rs.length)) g1 := by
      intro i j s hi hs g1 hg1
      have h1 := hy (i * (gen (rs.drop (c + 1))).length + j) _ (by rw [hdrop]; exact gen_get_cons hi hs) g1 (by rw [← Nat.add_assoc]; exact hg1)
      rw [← Nat.add_assoc] at h1
      exact h1
    refine CallJ.enter Try.func141 rfl (by simp only [Try.ntmps141, List.length_cons, List.length_nil, Nat.zero_add, Nat.reduceAdd, Nat.reduceSub, List.replicate_succ, List.replicate_zero, List.cons_append, List.nil_append]; rfl) ?_
    repeat' (first
      | ((fail_if_success (first | refine is_ucall ?_ | refine is_umcall ?_)); first | refine W1 ?_ | refine Wc ?_ | refine W2c ?_ ?_ | refine Wg ?_ | refine W2 ?_ ?_ | exact Wdead | refine Wlive (fun hb => ?_) | intro _ _ _ _ _ _ _ _ | refine We ?_ | refine Wx ?_ | refine Wt ?_ | refine Wm ?_ | refine W2m ?_ ?_ | refine Wl ?_)
      | fail)
    refine WPJ.loopT (r.2 - r.1 + 1).toNat [20, 21, 22, 23, 24, 25, 26, 27, 28, 29, 30, 31, 32, 33, 34, 35, 36] (fun j (_ : List Int) => [(7, .int .i64 (r.1 + j))])
      (fun j es1 H1 g1 => H1 = stE Hi b yv es1 ∧ es1.length = 5 ∧ es1.take c = es.take c ∧ es1.drop rs.length = es.drop rs.length ∧ J (k + j * (gen (rs.drop (c + 1))).length) g1) 0 es (Nat.zero_le _) (by intro p hp; simp at hp; subst hp; simp) ⟨rfl, hes, rfl, rfl, by simpa using hJ⟩ ?_
    rintro j es1 H1 g1 hj ⟨rfl, he1, he2, he3, hJ1⟩ hl
    simp only [updT, maskT, List.set_cons_zero, List.set_cons_succ]
    repeat' (first
      | ((fail_if_success (first | refine is_ucall ?_ | refine is_umcall ?_)); first | refine W1 ?_ | refine Wc ?_ | refine W2c ?_ ?_ | refine Wg ?_ | refine W2 ?_ ?_ | exact Wdead | refine Wlive (fun hb => ?_) | intro _ _ _ _ _ _ _ _ | refine We ?_ | refine Wx ?_ | refine Wt ?_ | refine Wm ?_ | refine W2m ?_ ?_ | refine Wl ?_)
      | fail)
    · skip
      have hjn : j < (r.2 - r.1 + 1).toNat := by omega
      rw [row_encE1]
      have hrec := choose_spec rs rv hm hb' hN hr J Jx q (c + 1) (by omega) (es1.set c (r.1 + j)) (by simp [he1]) (k + j * (gen (rs.drop (c + 1))).length) g1 (by
        intro i s hs g2 hg2
        have h2 := hyL j i s hjn hs g2 hg2
        have e : (es1.set c (r.1 + j)).take (c + 1) ++ s ++ (es1.set c (r.1 + j)).drop rs.length = es.take c ++ ((r.1 + j) :: s) ++ es.drop rs.length := by
          rw [List.drop_set_of_lt (by omega), he3, take_set (by omega), he2]
          simp
        rw [e]; exact h2) hJ1
      have e : ((c + 1 : Nat) : Int) = (c : Int) + 1 := by omega
      rw [e] at hrec
      refine st_callV rfl rfl (CallV.of_func EntC.ent hrec) ?_
      rintro v H' g' ⟨es2, e1, e2, e3, rfl, ⟨rfl, h1⟩ | ⟨rfl, h1⟩⟩
      · skip
        repeat' (first
          | ((fail_if_success (first | refine is_ucall ?_ | refine is_umcall ?_)); first | refine W1 ?_ | refine Wc ?_ | refine W2c ?_ ?_ | refine Wg ?_ | refine W2 ?_ ?_ | exact Wdead | refine Wlive (fun hb => ?_) | intro _ _ _ _ _ _ _ _ | refine We ?_ | refine Wx ?_ | refine Wt ?_ | refine Wm ?_ | refine W2m ?_ ?_ | refine Wl ?_)
          | fail)
        refine ⟨es2, hjn, (by repeat' (first | exact Weak.nil | refine Weak.wild ?_ | refine Weak.same ?_ | refine Weak.intEq (by first | omega | (simp; done) | (push_cast; omega)) ?_)), rfl, e1, ?_, ?_, ?_⟩
        · have := congrArg (List.take c) e2
          rw [List.take_take, List.take_take, Nat.min_eq_left (by omega), List.take_set_of_le (by omega), he2] at this
          exact this
        · rw [e3, List.drop_set_of_lt (by omega), he3]
        · rw [Nat.add_mul, Nat.one_mul, ← Nat.add_assoc]; exact h1
      · skip
        repeat' (first
          | ((fail_if_success (first | refine is_ucall ?_ | refine is_umcall ?_)); first | refine W1 ?_ | refine Wc ?_ | refine W2c ?_ ?_ | refine Wg ?_ | refine W2 ?_ ?_ | exact Wdead | refine Wlive (fun hb => ?_) | intro _ _ _ _ _ _ _ _ | refine We ?_ | refine Wx ?_ | refine Wt ?_ | refine Wm ?_ | refine W2m ?_ ?_ | refine Wl ?_)
          | fail)
        refine ⟨es2, e1, ?_, ?_, rfl, .inr ⟨rfl, h1⟩⟩
        · have := congrArg (List.take c) e2
          rw [List.take_take, List.take_take, Nat.min_eq_left (by omega), List.take_set_of_le (by omega), he2] at this
          exact this
        · rw [e3, List.drop_set_of_lt (by omega), he3]
    · skip
      refine ⟨es1, he1, he2, he3, rfl, .inl ⟨rfl, ?_⟩⟩
      rw [hdrop, gen_len_cons]
      have : j = (r.2 - r.1 + 1).toNat := by omega
      rw [← this]; exact hJ1
end
def genA (rs : List (Int × Int)) : List (List Int) := (gen rs).map fun s => s ++ List.drop rs.length [0, 0, 0, 0, 0]
structure OkC (rs : List (Int × Int)) (rv : Value) (b : Nat) (Hi : AHeap) : Prop where
  rd : RdS Hi rv 2 (rs.map encR)
  box : Hi[b]? = some (.row [rv] 1 false)
structure Few (rs : List (Int × Int)) : Prop where
  n : rs.length ≤ 5
  r : ∀ r ∈ rs, -1000 ≤ r.1 ∧ r.2 ≤ 1000
theorem choices_hits (rs : List (Int × Int)) (rv : Value) (b : Nat) (hf : Few rs) : Hits Try.prog 140 [] [.pointer (some ⟨b, 0, none⟩)] (OkC rs rv b) ((genA rs).map fun es => [.agg ⟨encE es⟩]) := by
  intro γ' E' J Jx yn Hi g0 hok hy hJ0
  have hext : ∀ es, ExtOwn Hi (stE Hi b (.func (.yield yn) #[] #[]) es) := fun es => ⟨_, rfl, by simp [ownedO]⟩
  have hlen : ((genA rs).map fun es => [Value.agg ⟨encE es⟩]).length = (gen rs).length := by simp [genA]
  have hch := choose_spec E' Hi b (.func (.yield yn) #[] #[]) rs rv hok.rd hok.box hf.n hf.r J Jx rs.length 0 (by omega) [0, 0, 0, 0, 0] rfl 0 g0 (by
    intro j s hs g1 hg1
    rw [Nat.zero_add] at hg1 ⊢
    rw [List.drop_zero] at hs
    have h1 := hy j [.agg ⟨encE (s ++ List.drop rs.length [0, 0, 0, 0, 0])⟩] (by simp [genA, hs]) _ g1 (hext (List.take 0 [0, 0, 0, 0, 0] ++ s ++ List.drop rs.length [0, 0, 0, 0, 0])) hg1
    exact h1) hJ0
  refine CallJ.tidy ?_
  refine CallJ.enter Try.func140 rfl (by simp only [Try.ntmps140, List.length_cons, List.length_nil, Nat.zero_add, Nat.reduceAdd, Nat.reduceSub, List.replicate_succ, List.replicate_zero, List.cons_append, List.nil_append]; rfl) ?_
  repeat' (first
    | ((fail_if_success (first | refine is_ucall ?_ | refine is_umcall ?_)); first | refine W1 ?_ | refine Wc ?_ | refine W2c ?_ ?_ | refine Wg ?_ | refine W2 ?_ ?_ | exact Wdead | refine Wlive (fun hb => ?_) | intro _ _ _ _ _ _ _ _ | refine We ?_ | refine Wx ?_ | refine Wt ?_ | refine Wm ?_ | refine W2m ?_ ?_ | refine Wl ?_)
    | fail)
  refine st_callV rfl rfl (CallV.of_func EntC.ent hch) ?_
  rintro v H' g' ⟨es2, e1, e2, e3, rfl, h⟩
  rw [List.drop_zero, Nat.zero_add, ← hlen] at h
  repeat' (first
    | ((fail_if_success (first | refine is_ucall ?_ | refine is_umcall ?_)); first | refine W1 ?_ | refine Wc ?_ | refine W2c ?_ ?_ | refine Wg ?_ | refine W2 ?_ ?_ | exact Wdead | refine Wlive (fun hb => ?_) | intro _ _ _ _ _ _ _ _ | refine We ?_ | refine Wx ?_ | refine Wt ?_ | refine Wm ?_ | refine W2m ?_ ?_ | refine Wl ?_)
    | fail)
  refine ⟨rfl, ?_⟩
  exact h.imp (fun h => h.2) (fun h => h.2)
section
variable {γ : Type} (E : Env γ) (g : γ) (H : AHeap)
theorem RdS.shape {H : AHeap} {v : Value} {es : Nat} {xs : List (List Value)} (h : RdS H v es xs) : ∃ a n c, v = .slice a n c := by
  obtain ⟨_, ⟨i, o, c, row, es', own, rfl, _⟩ | ⟨_, rfl | rfl⟩⟩ := h <;> exact ⟨_, _, _, rfl⟩
theorem choices_spec (rv : Value) (hs : ∃ a n c, rv = .slice a n c) : CallJ Try.prog E 133 [rv] (fun v H' g' => v = .func (.func 140) ⟨[]⟩ ⟨[.pointer (some ⟨H.length, 0, none⟩)]⟩ ∧ H' = H ++ [.row [rv] 1 true] ∧ g' = g) H g := by
  obtain ⟨a, n, c, rfl⟩ := hs
  refine CallJ.enter Try.func133 rfl (by simp only [Try.ntmps133, List.length_cons, List.length_nil, Nat.zero_add, Nat.reduceSub, List.replicate_succ, List.replicate_zero, List.cons_append, List.nil_append]; rfl) ?_
  repeat' (first
    | ((fail_if_success (first | refine is_ucall ?_ | refine is_umcall ?_)); first | refine W1 ?_ | refine Wc ?_ | refine W2c ?_ ?_ | refine Wg ?_ | refine W2 ?_ ?_ | exact Wdead | refine Wlive (fun hb => ?_) | intro _ _ _ _ _ _ _ _ | refine We ?_ | refine Wx ?_ | refine Wt ?_ | refine Wm ?_ | refine W2m ?_ ?_ | refine Wl ?_)
    | fail)
  exact ⟨rfl, rfl, rfl⟩
end
end Go.Proofs.Ytjbiidlmpaibkaa
namespace Go.Proofs.Ytjbiidlmpaibkaa
open Go Go.Abs Go.Proofs
set_option maxHeartbeats 800000
attribute [local irreducible] CallJ OpsJ WPJ CallV MonoJ
def areKeptS (m : CopM) (hot : List Int) (k : Nat) : Bool := (List.range k).all fun j => decide (m.want.getD j 0 ≤ hot.getD j 0)
theorem areKeptS_succ (m : CopM) (hot : List Int) (k : Nat) : areKeptS m hot (k + 1) = (areKeptS m hot k && decide (m.want.getD k 0 ≤ hot.getD k 0)) := by
  unfold areKeptS
  rw [List.range_succ, List.all_append]; simp
theorem areKeptS_false {m : CopM} {hot : List Int} {j k : Nat} (hj : j < k) (h : ¬ m.want.getD j 0 ≤ hot.getD j 0) : areKeptS m hot k = false := List.all_eq_false.2 ⟨j, List.mem_range.2 hj, by simpa using h⟩
def rightR (hot : List Int) (r : ReadM) : Bool := inR r.lo r.hi (hot.getD r.hour.toNat 0)
def rightS (m : CopM) (hot : List Int) : Bool := m.reads.all (rightR hot)
section
variable {γ : Type} (E : Env γ) (g : γ) (H : AHeap)
theorem hotIn_spec (m : CopM) (s1 s2 s3 s4 : Value) (hot left : List Int) (k x : Int) (hok : (ccells m s1 s2 s3 s4).all cellOk = true) (h5 : hot.length = 5) (hl5 : left.length = 5) (hk : 0 ≤ k ∧ k < 5) (hx : hot[k.toNat]? = some x) :
    CallJ Try.prog E 88 [.agg ⟨wcells m s1 s2 s3 s4 hot left⟩, .int .i64 k] (fun v H' g' => v = .int .i64 x ∧ H' = H ∧ g' = g) H g := by
  have hwo := wcells_ok hot left hok
  have hl := wcells_len m s1 s2 s3 s4 h5 hl5
  have hh : (wcells m s1 s2 s3 s4 hot left)[0 + 11 + k.toNat * 1]? = some (.int .i64 x) := by have := wcells_hot m s1 s2 s3 s4 (left := left) hx; simpa using this
  generalize wcells m s1 s2 s3 s4 hot left = ws at *
  refine CallJ.tidy ?_
  refine CallJ.enter Try.func88 rfl (by simp only [Try.ntmps88, List.length_cons, List.length_nil, Nat.zero_add, Nat.reduceAdd, Nat.reduceSub, List.replicate_succ, List.replicate_zero, List.cons_append, List.nil_append]; rfl) ?_
  repeat' (first
    | ((fail_if_success (first | refine is_ucall ?_ | refine is_umcall ?_)); first | refine W1 ?_ | refine Wc ?_ | refine W2c ?_ ?_ | refine Wg ?_ | refine W2 ?_ ?_ | exact Wdead | refine Wlive (fun hb => ?_) | intro _ _ _ _ _ _ _ _ | refine We ?_ | refine Wx ?_ | refine Wt ?_ | refine Wm ?_ | refine W2m ?_ ?_ | refine Wl ?_)
    | fail)
  exact ⟨rfl, rfl, rfl⟩
theorem leftAfter_spec (m : CopM) (s1 s2 s3 s4 : Value) (hot left : List Int) (k x : Int) (hok : (ccells m s1 s2 s3 s4).all cellOk = true) (h5 : hot.length = 5) (hl5 : left.length = 5) (hk : 0 ≤ k ∧ k < 5) (hx : left[k.toNat]? = some x) :
    CallJ Try.prog E 90 [.agg ⟨wcells m s1 s2 s3 s4 hot left⟩, .int .i64 k] (fun v H' g' => v = .int .i64 x ∧ H' = H ∧ g' = g) H g := by
  have hwo := wcells_ok hot left hok
  have hl := wcells_len m s1 s2 s3 s4 h5 hl5
  have hh : (wcells m s1 s2 s3 s4 hot left)[0 + 16 + k.toNat * 1]? = some (.int .i64 x) := by have := wcells_left m s1 s2 s3 s4 h5 hx; simpa using this
  generalize wcells m s1 s2 s3 s4 hot left = ws at *
  refine CallJ.tidy ?_
  refine CallJ.enter Try.func90 rfl (by simp only [Try.ntmps90, List.length_cons, List.length_nil, Nat.zero_add, Nat.reduceAdd, Nat.reduceSub, List.replicate_succ, List.replicate_zero, List.cons_append, List.nil_append]; rfl) ?_
  repeat' (first
    | ((fail_if_success (first | refine is_ucall ?_ | refine is_umcall ?_)); first | refine W1 ?_ | refine Wc ?_ | refine W2c ?_ ?_ | refine Wg ?_ | refine W2 ?_ ?_ | exact Wdead | refine Wlive (fun hb => ?_) | intro _ _ _ _ _ _ _ _ | refine We ?_ | refine Wx ?_ | refine Wt ?_ | refine Wm ?_ | refine W2m ?_ ?_ | refine Wl ?_)
    | fail)
  exact ⟨rfl, rfl, rfl⟩
theorem wcells_cop (m : CopM) (s1 s2 s3 s4 : Value) (hot left : List Int) : ((wcells m s1 s2 s3 s4 hot left).drop (0 + 0)).take 11 = ccells m s1 s2 s3 s4 := by
  unfold wcells; simp
theorem areKept_spec (m : CopM) (s1 s2 s3 s4 : Value) (hot left : List Int) (hm : CopY H m s1 s2 s3 s4) (hW : WOk m) (h5 : hot.length = 5) (hl5 : left.length = 5) :
    CallJ Try.prog E 102 [.agg ⟨wcells m s1 s2 s3 s4 hot left⟩] (fun v H' g' => v = .bool (areKeptS m hot (hrs m)) ∧ H' = H ∧ g' = g) H g := by
  have hok := hm.cells
  have hwo := wcells_ok hot left hok
  have hl := wcells_len m s1 s2 s3 s4 h5 hl5
  have hcop := wcells_cop m s1 s2 s3 s4 hot left
  have htake : (wcells m s1 s2 s3 s4 hot left).take 21 = wcells m s1 s2 s3 s4 hot left := List.take_of_length_le (by omega)
  have hK := fun (E' : Env γ) (g' : γ) (H' : AHeap) (he : Ext H H') (k : Int) (x y : Int) => isKept_spec E' g' H' m s1 s2 s3 s4 hot left k x y (hm.ext he) h5 hl5
  have hl0 := hW.l0
  have hl4 := hW.l4
  have hn : hrs m ≤ 5 ∧ ((hrs m : Nat) : Int) = m.last + 1 := by unfold hrs; omega
  generalize wcells m s1 s2 s3 s4 hot left = ws at *
  refine CallJ.tidy ?_
  refine CallJ.enter Try.func102 rfl (by simp only [Try.ntmps102, List.length_cons, List.length_nil, Nat.zero_add, Nat.reduceSub, List.replicate_succ, List.replicate_zero, List.cons_append, List.nil_append]; rfl) ?_
  repeat' (first
    | (refine is_ucall ?_; first
      | refine st_callP (h := hours_spec _ _ _ m s1 s2 s3 s4 hok (by omega)) (k := ?_)
      | fail)
    | (refine is_umcall ?_; first
      | refine mj_callP (h := hours_spec _ _ _ m s1 s2 s3 s4 hok (by omega)) (k := ?_)
      | fail)
    | ((fail_if_success (first | refine is_ucall ?_ | refine is_umcall ?_)); first | refine W1 ?_ | refine Wc ?_ | refine W2c ?_ ?_ | refine Wg ?_ | refine W2 ?_ ?_ | exact Wdead | refine Wlive (fun hb => ?_) | intro _ _ _ _ _ _ _ _ | refine We ?_ | refine Wx ?_ | refine Wt ?_ | refine Wm ?_ | refine W2m ?_ ?_ | refine Wl ?_)
    | fail)
  refine WPJ.loopT (hrs m) [8, 9, 3, 10, 11, 12, 13, 14] (fun j (_ : Unit) => [(7, .int .i64 j)])
    (fun j _ H1 g1 => g1 = g ∧ H1 = H ++ [.row ws 1 true] ∧ areKeptS m hot j = true) 0 () (Nat.zero_le _) (by intro p hp; simp at hp; rcases hp with rfl; rfl) ⟨rfl, rfl, rfl⟩ ?_
  rintro j _ H1 g1 hj ⟨rfl, rfl, hx⟩ hl'
  simp only [updT, maskT, List.set_cons_zero, List.set_cons_succ]
  rcases Nat.lt_or_ge j (hrs m) with hlt | hge
  · have hwj : j < m.want.length := by rw [hW.wl]; exact hlt
    have hjh : j < hot.length := by omega
    have hgw : m.want.getD j 0 = m.want[j] := by simp [List.getD, hwj]
    have hgh : hot.getD j 0 = hot[j] := by simp [List.getD, hjh]
    have hs := areKeptS_succ m hot j
    repeat' (first
      | (refine is_ucall ?_; first
        | refine st_callP (h := hours_spec _ _ _ m s1 s2 s3 s4 hok (by omega)) (k := ?_)
        | fail)
      | (refine is_umcall ?_; first
        | refine mj_callP (h := hours_spec _ _ _ m s1 s2 s3 s4 hok (by omega)) (k := ?_)
        | fail)
      | ((fail_if_success (first | refine is_ucall ?_ | refine is_umcall ?_)); first | refine W1 ?_ | refine Wc ?_ | refine W2c ?_ ?_ | refine Wg ?_ | refine W2 ?_ ?_ | exact Wdead | refine Wlive (fun hb => ?_) | intro _ _ _ _ _ _ _ _ | refine We ?_ | refine Wx ?_ | refine Wt ?_ | refine Wm ?_ | refine W2m ?_ ?_ | refine Wl ?_)
      | fail)
    refine st_callP (h := hK E _ _ extA j hot[j] m.want[j] (by omega) (by simp [hjh]) (by simp [hwj])) (k := ?_)
    refine OpsJ.normA ?_
    repeat' (first
      | (refine is_ucall ?_; first
        | refine st_callP (h := hours_spec _ _ _ m s1 s2 s3 s4 hok (by omega)) (k := ?_)
        | fail)
      | (refine is_umcall ?_; first
        | refine mj_callP (h := hours_spec _ _ _ m s1 s2 s3 s4 hok (by omega)) (k := ?_)
        | fail)
      | ((fail_if_success (first | refine is_ucall ?_ | refine is_umcall ?_)); first | refine W1 ?_ | refine Wc ?_ | refine W2c ?_ ?_ | refine Wg ?_ | refine W2 ?_ ?_ | exact Wdead | refine Wlive (fun hb => ?_) | intro _ _ _ _ _ _ _ _ | refine We ?_ | refine Wx ?_ | refine Wt ?_ | refine Wm ?_ | refine W2m ?_ ?_ | refine Wl ?_)
      | fail)
    · refine ⟨?_, rfl, rfl⟩
      rw [areKeptS_false hlt (by rw [hgw, hgh]; first | assumption | omega)]
    · refine ⟨(), hlt, (by repeat' (first | exact Weak.nil | refine Weak.wild ?_ | refine Weak.same ?_ | refine Weak.intEq (by first | omega | (simp; done) | (push_cast; omega)) ?_)), rfl, rfl, ?_⟩
      rw [hs, hx, hgw, hgh, Bool.true_and, decide_eq_true_eq]; first | assumption | omega
  · obtain rfl : j = hrs m := by omega
    repeat' (first
      | (refine is_ucall ?_; first
        | refine st_callP (h := hours_spec _ _ _ m s1 s2 s3 s4 hok (by omega)) (k := ?_)
        | fail)
      | (refine is_umcall ?_; first
        | refine mj_callP (h := hours_spec _ _ _ m s1 s2 s3 s4 hok (by omega)) (k := ?_)
        | fail)
      | ((fail_if_success (first | refine is_ucall ?_ | refine is_umcall ?_)); first | refine W1 ?_ | refine Wc ?_ | refine W2c ?_ ?_ | refine Wg ?_ | refine W2 ?_ ?_ | exact Wdead | refine Wlive (fun hb => ?_) | intro _ _ _ _ _ _ _ _ | refine We ?_ | refine Wx ?_ | refine Wt ?_ | refine Wm ?_ | refine W2m ?_ ?_ | refine Wl ?_)
      | fail)
    exact ⟨by rw [hx], rfl, rfl⟩
theorem areRight_spec (m : CopM) (s1 s2 s3 s4 : Value) (hot left : List Int) (hm : CopY H m s1 s2 s3 s4) (hR : ∀ r ∈ m.reads, 0 ≤ r.hour ∧ r.hour < 5) (h5 : hot.length = 5) (hl5 : left.length = 5) :
    CallJ Try.prog E 118 [.agg ⟨wcells m s1 s2 s3 s4 hot left⟩] (fun v H' g' => v = .bool (rightS m hot) ∧ H' = H ∧ g' = g) H g := by
  have hok := hm.cells
  have hr4 := hm.reads
  have hn4 := hm.n4
  have hwo := wcells_ok hot left hok
  have hl := wcells_len m s1 s2 s3 s4 h5 hl5
  have hw : (wcells m s1 s2 s3 s4 hot left)[0 + 0 + 9]? = some s3 := rfl
  have hw2 : (wcells m s1 s2 s3 s4 hot left)[0 + 0 + 10]? = some s4 := rfl
  have hhot : ∀ (k : Int) (x : Int), hot[k.toNat]? = some x → (wcells m s1 s2 s3 s4 hot left)[0 + 11 + k.toNat * 1]? = some (.int .i64 x) := fun k x h => by have := wcells_hot m s1 s2 s3 s4 (left := left) h; simpa using this
  generalize wcells m s1 s2 s3 s4 hot left = ws at *
  refine CallJ.tidy ?_
  refine CallJ.enter Try.func118 rfl (by simp only [Try.ntmps118, List.length_cons, List.length_nil, Nat.zero_add, Nat.reduceSub, List.replicate_succ, List.replicate_zero, List.cons_append, List.nil_append]; rfl) ?_
  repeat' (first
    | (refine is_ucall ?_; first
      | refine st_callP (h := has_spec _ _ _ _ _ _) (k := ?_)
      | fail)
    | (refine is_umcall ?_; first
      | refine mj_callP (h := has_spec _ _ _ _ _ _) (k := ?_)
      | fail)
    | ((fail_if_success (first | refine is_ucall ?_ | refine is_umcall ?_)); first | refine W1 ?_ | refine Wc ?_ | refine W2c ?_ ?_ | refine Wg ?_ | refine W2 ?_ ?_ | exact Wdead | refine Wlive (fun hb => ?_) | intro _ _ _ _ _ _ _ _ | refine We ?_ | refine Wx ?_ | refine Wt ?_ | refine Wm ?_ | refine W2m ?_ ?_ | refine Wl ?_)
    | fail)
  refine WPJ.loopT m.reads.length [10, 11, 12, 4, 13, 14, 15, 16, 17, 18, 19, 20, 21, 22] (fun j (_ : Unit) => [(9, .int .i64 j)])
    (fun j _ H1 g1 => g1 = g ∧ Ext H H1 ∧ H1[H.length]? = some (.row ws 1 true) ∧ (m.reads.take j).all (rightR hot) = true) 0 () (Nat.zero_le _) (by intro p hp; simp at hp; rcases hp with rfl; rfl) ⟨rfl, extA, getA, rfl⟩ ?_
  rintro j _ H1 g1 hj ⟨rfl, he, hb0, hx⟩ hl'
  simp only [updT, maskT, List.set_cons_zero, List.set_cons_succ]
  rcases Nat.lt_or_ge j m.reads.length with hlt | hge
  · have hel : (m.reads.map encD)[j]? = some (encD m.reads[j]) := by simp [hlt]
    have hrr := hR _ (List.getElem_mem hlt)
    have hst : (m.reads.take (j + 1)).all (rightR hot) = ((m.reads.take j).all (rightR hot) && rightR hot m.reads[j]) := by rw [List.take_succ_eq_append_getElem hlt, List.all_append]; simp
    have hal : rightS m hot = false ∨ rightR hot m.reads[j] = true := by
      cases h : rightR hot m.reads[j] with
      | true => exact .inr rfl
      | false => exact .inl (List.all_eq_false.2 ⟨_, List.getElem_mem hlt, by simp [h]⟩)
    generalize m.reads[j] = r at *
    have hkl : r.hour.toNat < hot.length := by omega
    have hgh : hot.getD r.hour.toNat 0 = hot[r.hour.toNat] := by simp [List.getD, hkl]
    have hh := hhot r.hour hot[r.hour.toNat] (by simp [hkl])
    have hrv : rightR hot r = inR r.lo r.hi hot[r.hour.toNat] := by unfold rightR; rw [hgh]
    generalize hot[r.hour.toNat] = x at *
    repeat' (first
      | (refine is_ucall ?_; first
        | refine st_callP (h := has_spec _ _ _ _ _ _) (k := ?_)
        | fail)
      | (refine is_umcall ?_; first
        | refine mj_callP (h := has_spec _ _ _ _ _ _) (k := ?_)
        | fail)
      | ((fail_if_success (first | refine is_ucall ?_ | refine is_umcall ?_)); first | refine W1 ?_ | refine Wc ?_ | refine W2c ?_ ?_ | refine Wg ?_ | refine W2 ?_ ?_ | exact Wdead | refine Wlive (fun hb => ?_) | intro _ _ _ _ _ _ _ _ | refine We ?_ | refine Wx ?_ | refine Wt ?_ | refine Wm ?_ | refine W2m ?_ ?_ | refine Wl ?_)
      | fail)
    refine WPJ.draw 9 mixed (by kernel_rfl) (by kernel_rfl) (by kernel_rfl) (by decide) ?_
    refine MonoJ.normA ?_
    repeat' (first
      | (refine is_ucall ?_; first
        | refine st_callP (h := has_spec _ _ _ _ _ _) (k := ?_)
        | fail)
      | (refine is_umcall ?_; first
        | refine mj_callP (h := has_spec _ _ _ _ _ _) (k := ?_)
        | fail)
      | ((fail_if_success (first | refine is_ucall ?_ | refine is_umcall ?_)); first | refine W1 ?_ | refine Wc ?_ | refine W2c ?_ ?_ | refine Wg ?_ | refine W2 ?_ ?_ | exact Wdead | refine Wlive (fun hb => ?_) | intro _ _ _ _ _ _ _ _ | refine We ?_ | refine Wx ?_ | refine Wt ?_ | refine Wm ?_ | refine W2m ?_ ?_ | refine Wl ?_)
      | fail)
    · refine ⟨?_, rfl, rfl⟩
      rcases hal with h | h
      · rw [h]
      · rw [hrv] at h; simp_all
    · refine ⟨(), hlt, (by repeat' (first | exact Weak.nil | refine Weak.wild ?_ | refine Weak.same ?_ | refine Weak.intEq (by first | omega | (simp; done) | (push_cast; omega)) ?_)), rfl, extA, getA, ?_⟩
      rw [hst, hx, hrv]; simp_all
  · obtain rfl : j = m.reads.length := by omega
    rw [List.take_length] at hx
    repeat' (first
      | (refine is_ucall ?_; first
        | refine st_callP (h := has_spec _ _ _ _ _ _) (k := ?_)
        | fail)
      | (refine is_umcall ?_; first
        | refine mj_callP (h := has_spec _ _ _ _ _ _) (k := ?_)
        | fail)
      | ((fail_if_success (first | refine is_ucall ?_ | refine is_umcall ?_)); first | refine W1 ?_ | refine Wc ?_ | refine W2c ?_ ?_ | refine Wg ?_ | refine W2 ?_ ?_ | exact Wdead | refine Wlive (fun hb => ?_) | intro _ _ _ _ _ _ _ _ | refine We ?_ | refine Wx ?_ | refine Wt ?_ | refine Wm ?_ | refine W2m ?_ ?_ | refine Wl ?_)
      | fail)
    exact ⟨by unfold rightS; rw [hx], rfl, rfl⟩
end
end Go.Proofs.Ytjbiidlmpaibkaa
namespace Go.Proofs.Ytjbiidlmpaibkaa
open Go Go.Abs Go.Proofs
set_option maxHeartbeats 800000
attribute [local irreducible] CallJ OpsJ WPJ CallV MonoJ
section
variable {γ : Type} (E : Env γ) (g : γ) (H : AHeap)
theorem Clone_spec (i n cap : Nat) (cells : List Value) (l : List Int) (own : Bool) (hi : H[i]? = some (.row cells 1 own)) (hc : cells.take n = encE l) (hn : n = l.length) (hm : n ≤ 1000000) : CallJ Try.prog E 115 [.slice (some ⟨i, 0, none⟩) n cap] (fun v H' g' => v = .slice (some ⟨H.length, 0, none⟩) n n ∧ H' = H ++ [.row (encE l) 1 true] ∧ g' = g) H g := by
  have hcl : n ≤ cells.length := by
    have := congrArg List.length hc
    simp [encE] at this; omega
  have hE := encE_ok l
  refine CallJ.tidy ?_
  refine CallJ.enter Try.func115 rfl (by simp only [Try.ntmps115, List.length_cons, List.length_nil, Nat.zero_add, Nat.reduceSub, List.replicate_succ, List.replicate_zero, List.cons_append, List.nil_append]; rfl) ?_
  repeat' (first
    | ((fail_if_success (first | refine is_ucall ?_ | refine is_umcall ?_)); first | refine W1 ?_ | refine Wc ?_ | refine W2c ?_ ?_ | refine Wg ?_ | refine W2 ?_ ?_ | exact Wdead | refine Wlive (fun hb => ?_) | intro _ _ _ _ _ _ _ _ | refine We ?_ | refine Wx ?_ | refine Wt ?_ | refine Wm ?_ | refine W2m ?_ ?_ | refine Wl ?_)
    | fail)
  refine st_eqSomeS rfl rfl ?_
  refine OpsJ.normA ?_
  repeat' (first
    | ((fail_if_success (first | refine is_ucall ?_ | refine is_umcall ?_)); first | refine W1 ?_ | refine Wc ?_ | refine W2c ?_ ?_ | refine Wg ?_ | refine W2 ?_ ?_ | exact Wdead | refine Wlive (fun hb => ?_) | intro _ _ _ _ _ _ _ _ | refine We ?_ | refine Wx ?_ | refine Wt ?_ | refine Wm ?_ | refine W2m ?_ ?_ | refine Wl ?_)
    | fail)
  refine st_appendOwn (by rfl) rfl rfl (cells0 := []) (news := encE l) getA (by simp) getA (by simp; omega) (by simpa using hc) hE ⟨by simp [maxLen]; omega, by omega⟩ ?_
  refine OpsJ.normA ?_
  repeat' (first
    | ((fail_if_success (first | refine is_ucall ?_ | refine is_umcall ?_)); first | refine W1 ?_ | refine Wc ?_ | refine W2c ?_ ?_ | refine Wg ?_ | refine W2 ?_ ?_ | exact Wdead | refine Wlive (fun hb => ?_) | intro _ _ _ _ _ _ _ _ | refine We ?_ | refine Wx ?_ | refine Wt ?_ | refine Wm ?_ | refine W2m ?_ ?_ | refine Wl ?_)
    | fail)
  refine Tidy.one (i := H.length + 1) (cells := encE l) (es := 1) extA (by simp) (by omega) (encE_flat l) (.slice (j := 0) rfl) ⟨rfl, rfl, rfl⟩
theorem listOf_spec (m : CopM) (s1 s2 s3 s4 : Value) (l : List Int) (hok : (ccells m s1 s2 s3 s4).all cellOk = true) (h0 : 0 ≤ m.last) (h4 : m.last ≤ 4) (h5 : l.length = 5) :
    CallJ Try.prog E 78 [cv m s1 s2 s3 s4, .agg ⟨encE l⟩] (fun v H' g' => v = .slice (some ⟨H.length, 0, none⟩) (hrs m) (hrs m) ∧ H' = H ++ [.row (encE (l.take (hrs m))) 1 true] ∧ g' = g) H g := by
  have hE := encE_ok l
  have hl5 : (encE l).length = 5 := by simp [encE, h5]
  have hn : hrs m ≤ 5 ∧ ((hrs m : Nat) : Int) = m.last + 1 := by unfold hrs; omega
  have htk : (encE l).take (hrs m) = encE (l.take (hrs m)) := by simp [encE, List.map_take]
  have hnt : hrs m = (m.last + 1).toNat := rfl
  refine CallJ.tidy ?_
  unfold cv
  refine CallJ.enter Try.func78 rfl (by simp only [Try.ntmps78, List.length_cons, List.length_nil, Nat.zero_add, Nat.reduceAdd, Nat.reduceSub, List.replicate_succ, List.replicate_zero, List.cons_append, List.nil_append]; rfl) ?_
  repeat' (first
    | (refine is_ucall ?_; first
      | refine st_callP (h := hours_spec _ _ _ m s1 s2 s3 s4 hok (by omega)) (k := ?_)
      | fail)
    | (refine is_umcall ?_; first
      | refine mj_callP (h := hours_spec _ _ _ m s1 s2 s3 s4 hok (by omega)) (k := ?_)
      | fail)
    | ((fail_if_success (first | refine is_ucall ?_ | refine is_umcall ?_)); first | refine W1 ?_ | refine Wc ?_ | refine W2c ?_ ?_ | refine Wg ?_ | refine W2 ?_ ?_ | exact Wdead | refine Wlive (fun hb => ?_) | intro _ _ _ _ _ _ _ _ | refine We ?_ | refine Wx ?_ | refine Wt ?_ | refine Wm ?_ | refine W2m ?_ ?_ | refine Wl ?_)
    | fail)
  refine st_sliceArr rfl rfl ⟨by omega, by omega⟩ getA ?_
  refine OpsJ.normA ?_
  repeat' (first
    | (refine is_ucall ?_; first
      | refine st_callP (h := hours_spec _ _ _ m s1 s2 s3 s4 hok (by omega)) (k := ?_)
      | fail)
    | (refine is_umcall ?_; first
      | refine mj_callP (h := hours_spec _ _ _ m s1 s2 s3 s4 hok (by omega)) (k := ?_)
      | fail)
    | ((fail_if_success (first | refine is_ucall ?_ | refine is_umcall ?_)); first | refine W1 ?_ | refine Wc ?_ | refine W2c ?_ ?_ | refine Wg ?_ | refine W2 ?_ ?_ | exact Wdead | refine Wlive (fun hb => ?_) | intro _ _ _ _ _ _ _ _ | refine We ?_ | refine Wx ?_ | refine Wt ?_ | refine Wm ?_ | refine W2m ?_ ?_ | refine Wl ?_)
    | fail)
  refine st_call rfl (Clone_spec E _ _ (H.length + 2) (hrs m) _ (encE l) (l.take (hrs m)) false getA htk (by simp; omega) (by omega)) ?_
  rintro _ _ g ⟨rfl, rfl, rfl⟩
  refine OpsJ.normA ?_
  repeat' (first
    | (refine is_ucall ?_; first
      | refine st_callP (h := hours_spec _ _ _ m s1 s2 s3 s4 hok (by omega)) (k := ?_)
      | fail)
    | (refine is_umcall ?_; first
      | refine mj_callP (h := hours_spec _ _ _ m s1 s2 s3 s4 hok (by omega)) (k := ?_)
      | fail)
    | ((fail_if_success (first | refine is_ucall ?_ | refine is_umcall ?_)); first | refine W1 ?_ | refine Wc ?_ | refine W2c ?_ ?_ | refine Wg ?_ | refine W2 ?_ ?_ | exact Wdead | refine Wlive (fun hb => ?_) | intro _ _ _ _ _ _ _ _ | refine We ?_ | refine Wx ?_ | refine Wt ?_ | refine Wm ?_ | refine W2m ?_ ?_ | refine Wl ?_)
    | fail)
  refine Tidy.one (i := H.length + 3) (cells := encE (l.take (hrs m))) (es := 1) extA (by simp) (by omega) (encE_flat _) (.slice (j := 0) rfl) ⟨rfl, rfl, rfl⟩
end
end Go.Proofs.Ytjbiidlmpaibkaa
namespace Go.Proofs.Ytjbiidlmpaibkaa
open Go Go.Abs Go.Proofs
set_option maxHeartbeats 800000
attribute [local irreducible] CallJ OpsJ WPJ CallV MonoJ
def lossOk (rs : List (Int × Int)) (ls : List Int) (k : Nat) : Bool := (List.range k).all fun j => inR (rs.getD j (0, 0)).1 (rs.getD j (0, 0)).2 (ls.getD j 0)
theorem lossOk_succ (rs : List (Int × Int)) (ls : List Int) (k : Nat) : lossOk rs ls (k + 1) = (lossOk rs ls k && inR (rs.getD k (0, 0)).1 (rs.getD k (0, 0)).2 (ls.getD k 0)) := by
  unfold lossOk
  rw [List.range_succ, List.all_append]; simp
theorem lossOk_false {rs : List (Int × Int)} {ls : List Int} {j k : Nat} (hj : j < k) (h : inR (rs.getD j (0, 0)).1 (rs.getD j (0, 0)).2 (ls.getD j 0) = false) : lossOk rs ls k = false := List.all_eq_false.2 ⟨j, List.mem_range.2 hj, by rw [h]; decide⟩
def truthOkS (m : CopM) (h : Int) (ls : List Int) : Bool := inR m.hlo m.hhi h && decide ((ls.length : Int) = m.last + 1) && lossOk m.loss ls ls.length
def tcells (h : Int) (l : List Int) : List Value := .int .i64 h :: encE l
theorem tcells_ok (h : Int) (l : List Int) : (tcells h l).all cellOk = true := by unfold tcells; rw [List.all_cons, encE_ok]; rfl
theorem tcells_flat (h : Int) (l : List Int) : (tcells h l).all flat1 = true := by unfold tcells; rw [List.all_cons, encE_flat]; rfl
theorem tcells_set {h : Int} {k : Nat} {f : Nat → Int} : (tcells h (arr5 k f)).set (1 + k) (.int .i64 (f k)) = tcells h (arr5 (k + 1) f) := by
  unfold tcells
  rw [Nat.add_comm, List.set_cons_succ, arr5_set]
section
variable {γ : Type} (E : Env γ) (g : γ) (H : AHeap)
theorem truthOf_spec (m : CopM) (s1 s2 s3 s4 tl : Value) (h : Int) (ls : List Int) (hm : CopIs H m s1 s2 s3 s4) (hr : RdS H tl 1 (encI ls)) (_hn : ls.length ≤ 1000000) (hl0 : 0 ≤ m.last) (hl4 : m.last ≤ 4) (hll : (m.loss.length : Int) = m.last + 1) :
    CallJ Try.prog E 76 [cv m s1 s2 s3 s4, .agg ⟨[.int .i64 h, tl]⟩] (fun v H' g' => v = .tuple #[.agg ⟨if truthOkS m h ls then tcells h (pad5 ls) else tcells 0 [0, 0, 0, 0, 0]⟩, .bool (truthOkS m h ls)] ∧ H' = H ∧ g' = g) H g := by
  have hok := hm.cells
  have hr3 := hm.loss
  have hokt : [Value.int .i64 h, tl].all cellOk = true := by
    obtain ⟨_, ⟨i, o, c, row, es', own, rfl, _⟩ | ⟨_, rfl | rfl⟩⟩ := hr <;> rfl
  refine CallJ.tidy ?_
  unfold cv
  refine CallJ.enter Try.func76 rfl (by simp only [Try.ntmps76, List.length_cons, List.length_nil, Nat.zero_add, Nat.reduceAdd, Nat.reduceSub, List.replicate_succ, List.replicate_zero, List.cons_append, List.nil_append]; rfl) ?_
  repeat' (first
    | (refine is_ucall ?_; first
      | refine st_callP (h := hours_spec _ _ _ m s1 s2 s3 s4 hok (by omega)) (k := ?_)
      | refine st_callP (h := has_spec _ _ _ _ _ _) (k := ?_)
      | fail)
    | (refine is_umcall ?_; first
      | refine mj_callP (h := hours_spec _ _ _ m s1 s2 s3 s4 hok (by omega)) (k := ?_)
      | refine mj_callP (h := has_spec _ _ _ _ _ _) (k := ?_)
      | fail)
    | ((fail_if_success (first | refine is_ucall ?_ | refine is_umcall ?_)); first | refine W1 ?_ | refine Wc ?_ | refine W2c ?_ ?_ | refine Wg ?_ | refine W2 ?_ ?_ | exact Wdead | refine Wlive (fun hb => ?_) | intro _ _ _ _ _ _ _ _ | refine We ?_ | refine Wx ?_ | refine Wt ?_ | refine Wm ?_ | refine W2m ?_ ?_ | refine Wl ?_)
    | fail)
  refine WPJ.draw 14 mixed (by kernel_rfl) (by kernel_rfl) (by kernel_rfl) (by decide) ?_
  refine MonoJ.normA ?_
  repeat' (first
    | (refine is_ucall ?_; first
      | refine st_callP (h := hours_spec _ _ _ m s1 s2 s3 s4 hok (by omega)) (k := ?_)
      | refine st_callP (h := has_spec _ _ _ _ _ _) (k := ?_)
      | fail)
    | (refine is_umcall ?_; first
      | refine mj_callP (h := hours_spec _ _ _ m s1 s2 s3 s4 hok (by omega)) (k := ?_)
      | refine mj_callP (h := has_spec _ _ _ _ _ _) (k := ?_)
      | fail)
    | ((fail_if_success (first | refine is_ucall ?_ | refine is_umcall ?_)); first | refine W1 ?_ | refine Wc ?_ | refine W2c ?_ ?_ | refine Wg ?_ | refine W2 ?_ ?_ | exact Wdead | refine Wlive (fun hb => ?_) | intro _ _ _ _ _ _ _ _ | refine We ?_ | refine Wx ?_ | refine Wt ?_ | refine Wm ?_ | refine W2m ?_ ?_ | refine Wl ?_)
    | fail)
  · have hf : truthOkS m h ls = false := by unfold truthOkS; rw [decide_eq_false (by first | assumption | omega)]; simp
    rw [hf]; exact ⟨rfl, rfl, rfl⟩
  · have hle : (ls.length : Int) = m.last + 1 := by first | assumption | omega
    have hin : inR m.hlo m.hhi h = true := by assumption
    refine WPJ.loopT ls.length [31, 32, 33, 34, 7, 8, 35, 36, 37, 38, 39, 40, 41, 42, 43, 44, 45, 46, 47, 48] (fun j (_ : Unit) => [(30, .int .i64 j)])
      (fun j _ H1 g1 => g1 = g ∧ Ext H H1 ∧ H1[H.length]? = some (.row (ccells m s1 s2 s3 s4) 1 true) ∧ H1[H.length + 1]? = some (.row [.int .i64 h, tl] 1 true) ∧ H1[H.length + 2]? = some (.row (tcells 0 [0, 0, 0, 0, 0]) 1 true) ∧ H1[H.length + 3]? = some (.row (tcells h (arr5 j fun i => ls.getD i 0)) 1 true) ∧ lossOk m.loss ls j = true ∧ H.length + 3 < H1.length) 0 () (Nat.zero_le _)
      (by intro p hp; simp at hp; rcases hp with rfl; rfl) ⟨rfl, extA, getA, getA, getA, getA, rfl, by simp⟩ ?_
    rintro j _ H1 g1 hj ⟨rfl, he, hb0, hb1, hb2, hb3, hx, hlen⟩ hl'
    simp only [updT, maskT, List.set_cons_zero, List.set_cons_succ]
    rcases Nat.lt_or_ge j ls.length with hlt | hge
    · have hjl : j < m.loss.length := by omega
      have hel : (encI ls)[j]? = some [.int .i64 ls[j]] := by simp [hlt]
      have hel3 : (m.loss.map encR)[(j : Int).toNat]? = some (encR m.loss[j]) := by simp [hjl]
      have hgl : m.loss.getD j (0, 0) = m.loss[j] := by simp [List.getD, hjl]
      have hgt : ls.getD j 0 = ls[j] := by simp [List.getD, hlt]
      have hs := lossOk_succ m.loss ls j
      have hfl := fun h => lossOk_false (rs := m.loss) (ls := ls) (j := j) (k := ls.length) hlt h
      rw [hgl, hgt] at hs hfl
      have hkey := tcells_set (h := h) (k := j) (f := fun i => ls.getD i 0)
      simp only [hgt] at hkey
      have htl : (tcells h (arr5 j fun i => ls.getD i 0)).length = 6 := by simp [tcells, encE, arr5_len]
      generalize m.loss[j] = r at *
      generalize hlv : ls[j] = n at *
      generalize tcells h (arr5 j fun i => ls.getD i 0) = tc at *
      repeat' (first
        | (refine is_ucall ?_; first
          | refine st_callP (h := hours_spec _ _ _ m s1 s2 s3 s4 hok (by omega)) (k := ?_)
          | refine st_callP (h := has_spec _ _ _ _ _ _) (k := ?_)
          | fail)
        | (refine is_umcall ?_; first
          | refine mj_callP (h := hours_spec _ _ _ m s1 s2 s3 s4 hok (by omega)) (k := ?_)
          | refine mj_callP (h := has_spec _ _ _ _ _ _) (k := ?_)
          | fail)
        | ((fail_if_success (first | refine is_ucall ?_ | refine is_umcall ?_)); first | refine W1 ?_ | refine Wc ?_ | refine W2c ?_ ?_ | refine Wg ?_ | refine W2 ?_ ?_ | exact Wdead | refine Wlive (fun hb => ?_) | intro _ _ _ _ _ _ _ _ | refine We ?_ | refine Wx ?_ | refine Wt ?_ | refine Wm ?_ | refine W2m ?_ ?_ | refine Wl ?_)
        | fail)
      · have hf : truthOkS m h ls = false := by unfold truthOkS; rw [hfl (by assumption)]; simp
        rw [hf]; exact ⟨rfl, rfl, rfl⟩
      · refine ⟨(), hlt, (by repeat' (first | exact Weak.nil | refine Weak.wild ?_ | refine Weak.same ?_ | refine Weak.intEq (by first | omega | (simp; done) | (push_cast; omega)) ?_)), rfl, extA, getA, getA, getA, ?_, ?_, by simp; omega⟩
        · rw [Nat.mul_one, hkey]; exact getA
        · rw [hs, hx, Bool.true_and]; assumption
    · obtain rfl : j = ls.length := by omega
      have hto : truthOkS m h ls = true := by unfold truthOkS; rw [hin, hx, decide_eq_true hle]; rfl
      have htk : (tcells h (arr5 ls.length fun i => ls.getD i 0)).take 6 = tcells h (arr5 ls.length fun i => ls.getD i 0) := List.take_of_length_le (by simp [tcells, encE, arr5_len])
      have htl : (tcells h (arr5 ls.length fun i => ls.getD i 0)).length = 6 := by simp [tcells, encE, arr5_len]
      have hto2 := tcells_ok h (arr5 ls.length fun i => ls.getD i 0)
      rw [hto, if_pos rfl, show pad5 ls = arr5 ls.length fun i => ls.getD i 0 from rfl]
      have hfl := tcells_flat h (arr5 ls.length fun i => ls.getD i 0)
      generalize tcells h (arr5 ls.length fun i => ls.getD i 0) = tc at *
      repeat' (first
        | (refine is_ucall ?_; first
          | refine st_callP (h := hours_spec _ _ _ m s1 s2 s3 s4 hok (by omega)) (k := ?_)
          | refine st_callP (h := has_spec _ _ _ _ _ _) (k := ?_)
          | fail)
        | (refine is_umcall ?_; first
          | refine mj_callP (h := hours_spec _ _ _ m s1 s2 s3 s4 hok (by omega)) (k := ?_)
          | refine mj_callP (h := has_spec _ _ _ _ _ _) (k := ?_)
          | fail)
        | ((fail_if_success (first | refine is_ucall ?_ | refine is_umcall ?_)); first | refine W1 ?_ | refine Wc ?_ | refine W2c ?_ ?_ | refine Wg ?_ | refine W2 ?_ ?_ | exact Wdead | refine Wlive (fun hb => ?_) | intro _ _ _ _ _ _ _ _ | refine We ?_ | refine Wx ?_ | refine Wt ?_ | refine Wm ?_ | refine W2m ?_ ?_ | refine Wl ?_)
        | fail)
      exact ⟨rfl, rfl, rfl⟩
  · have hf : truthOkS m h ls = false := by
      have : inR m.hlo m.hhi h = false := by assumption
      unfold truthOkS; rw [this]; rfl
    rw [hf]; exact ⟨rfl, rfl, rfl⟩
end
end Go.Proofs.Ytjbiidlmpaibkaa
namespace Go.Proofs.Ytjbiidlmpaibkaa
open Go Go.Abs Go.Proofs
set_option maxHeartbeats 800000
attribute [local irreducible] CallJ OpsJ WPJ CallV MonoJ
structure Good (m : CopM) : Prop where
  w : WOk m
  ll : (m.loss.length : Int) = m.last + 1
  lb : ∀ r ∈ m.loss, upTo r 99 = true
  hh : upTo (m.hlo, m.hhi) 99 = true
  rd : ∀ r ∈ m.reads, isReadS m r = true
  nr : m.reads.length ≤ 5
  sh : 0 ≤ m.shovels ∧ m.shovels ≤ 3
  wn : ∀ x ∈ m.want, 0 ≤ x ∧ x ≤ 20
  cs : ∀ x ∈ m.coal, 0 ≤ x ∧ x ≤ m.shovels
  sz : sizesS m ≤ 2000
theorem good_of {m : CopM} (h : checkS m = 0) : Good m := by
  unfold checkS at h
  have h1 : isLongS m = false := by
    cases hl : isLongS m with
    | true => rw [hl, if_pos rfl] at h; exact absurd h (by decide)
    | false => rfl
  rw [h1, if_neg (by decide)] at h
  have h2 : isValidS m = true := by
    cases hv : isValidS m with
    | false => rw [hv, if_neg (by decide)] at h; exact absurd h (by decide)
    | true => rfl
  rw [h2, if_pos rfl] at h
  have h3 : ¬ 2000 < sizesS m := fun h4 => by rw [if_pos h4] at h; exact absurd h (by decide)
  simp only [isLongS, Bool.or_eq_false_iff, decide_eq_false_iff_not] at h1
  simp only [isValidS, numsS, forHours, inR, Bool.and_eq_true, List.all_eq_true, decide_eq_true_eq] at h2
  obtain ⟨⟨⟨⟨a0, ⟨⟨a1, a2⟩, ⟨a3, a4⟩⟩, ⟨a5, a6⟩, ⟨a7, a8⟩⟩, ⟨b1, b2⟩, b3, b4⟩, ⟨c1, c2⟩, c3⟩, d⟩ := h2
  have hn : ((hrs m : Nat) : Int) = m.last + 1 := by unfold hrs; omega
  refine ⟨⟨a0, by omega, ⟨a1, a2⟩, ⟨a3, a4⟩, ⟨a5, a6⟩, by omega, by omega, fun x hx => ?_, fun x hx => ?_⟩, c2, c3, c1, d, by omega, ⟨a7, a8⟩, b4, b2, by omega⟩
  · have := b2 x hx; omega
  · have := b4 x hx; omega
theorem truth_tok {m : CopM} (hG : Good m) {h : Int} {ls : List Int} (ht : truthOkS m h ls = true) : TOk h (pad5 ls) := by
  simp only [truthOkS, Bool.and_eq_true, decide_eq_true_eq, inR] at ht
  have hh := hG.hh
  simp only [upTo, Bool.and_eq_true, decide_eq_true_eq] at hh
  refine ⟨by omega, fun x hx => ?_, arr5_len _ _⟩
  unfold pad5 arr5 at hx
  obtain ⟨i, hi, rfl⟩ := List.mem_map.1 hx
  split
  · rename_i hil
    have h1 := List.all_eq_true.1 ht.2 i (List.mem_range.2 hil)
    have hill : i < m.loss.length := by have := hG.ll; omega
    have h2 := hG.lb _ (List.getElem_mem hill)
    simp only [inR, upTo, Bool.and_eq_true, decide_eq_true_eq, List.getD, List.getElem?_eq_getElem hill, Option.getD_some] at h1 h2
    simp only [List.getD]
    omega
  · omega
theorem _root_.Go.Abs.Tidy.rows2 {γ : Type} {H H' : AHeap} {K : Value → AHeap → γ → Prop} {v v0 : Value} {g' : γ} {i k : Nat} {c1 c2 : List Value} {e1 e2 : Nat} {o1 o2 : Bool} (he : Ext H H') (h1 : H'[i]? = some (.row c1 e1 o1)) (h2 : H'[k]? = some (.row c2 e2 o2)) (hik : i ≠ k) (hi : H.length ≤ i) (hk : H.length ≤ k) (f1 : c1.all flat1 = true) (f2 : c2.all flat1 = true) (hv : Mv H.length [i, k] v v0) (hK : K v0 (H ++ [.row c1 e1 o1, .row c2 e2 o2]) g') : Tidy H K v H' g' := by
  obtain ⟨L, rfl⟩ := he
  exact ⟨[i, k], H, L, v0, [.row c1 e1 o1, .row c2 e2 o2], rfl, rfl, fun _ _ h => .inl h, by simp [hik], fun n h => by simp at h; omega, by simp [h1, h2], by simp only [List.all_cons, List.all_nil, flatRow, f1, f2]; rfl, hv, hK⟩
theorem wcells_dropH (m : CopM) (s1 s2 s3 s4 : Value) {hot left : List Int} (h5 : hot.length = 5) : ((wcells m s1 s2 s3 s4 hot left).drop 11).take 5 = encE hot := by
  unfold wcells
  rw [List.drop_append, show (ccells m s1 s2 s3 s4).drop 11 = [] from rfl, show 11 - (ccells m s1 s2 s3 s4).length = 0 from rfl, List.nil_append, List.drop_zero, List.take_append_of_le_length (by simp [encE, h5]), List.take_of_length_le (by simp [encE, h5])]
theorem wcells_dropL (m : CopM) (s1 s2 s3 s4 : Value) {hot left : List Int} (h5 : hot.length = 5) (hl5 : left.length = 5) : ((wcells m s1 s2 s3 s4 hot left).drop 16).take 5 = encE left := by
  unfold wcells
  rw [List.drop_append, show (ccells m s1 s2 s3 s4).drop 16 = [] from rfl, show 16 - (ccells m s1 s2 s3 s4).length = 5 from rfl, List.nil_append, List.drop_append, List.drop_of_length_le (by simp [encE, h5]), show (5 - (encE hot).length) = 0 by simp [encE, h5], List.drop_zero, List.nil_append, List.take_of_length_le (by simp [encE, hl5])]
def playE (m : CopM) (h : Int) (ls : List Int) : Int := if checkS m = 0 then (if truthOkS m h ls then 0 else 2) else checkS m
def hotL (m : CopM) (h : Int) (ls : List Int) : List Int := (List.range (hrs m)).map (hotS m h (pad5 ls))
def leftL (m : CopM) (h : Int) (ls : List Int) : List Int := (List.range (hrs m)).map (leftS m h (pad5 ls))
section
variable {γ : Type} (E : Env γ) (g : γ) (H : AHeap)
theorem Play_spec (m : CopM) (s1 s2 s3 s4 tl : Value) (h : Int) (ls : List Int) (hm : CopIs H m s1 s2 s3 s4) (hr : RdS H tl 1 (encI ls)) (hn : ls.length ≤ 1000000) :
    CallJ Try.prog E 21 [cv m s1 s2 s3 s4, .agg ⟨[.int .i64 h, tl]⟩] (fun v H' g' => (if playE m h ls = 0 then v = .tuple #[.slice (some ⟨H.length, 0, none⟩) (hrs m) (hrs m), .slice (some ⟨H.length + 1, 0, none⟩) (hrs m) (hrs m), .int .i64 0] ∧ H' = H ++ [.row (encE (hotL m h ls)) 1 true, .row (encE (leftL m h ls)) 1 true] else v = .tuple #[.slice none 0 0, .slice none 0 0, .int .i64 (playE m h ls)] ∧ H' = H) ∧ g' = g) H g := by
  have hok := hm.cells
  have hokt : [Value.int .i64 h, tl].all cellOk = true := by
    obtain ⟨_, ⟨i, o, c, row, es', own, rfl, _⟩ | ⟨_, rfl | rfl⟩⟩ := hr <;> rfl
  refine CallJ.tidy ?_
  unfold cv
  refine CallJ.enter Try.func21 rfl (by simp only [Try.ntmps21, List.length_cons, List.length_nil, Nat.zero_add, Nat.reduceAdd, Nat.reduceSub, List.replicate_succ, List.replicate_zero, List.cons_append, List.nil_append]; rfl) ?_
  repeat' (first
    | (refine is_ucall ?_; first
      | refine st_callP (h := CheckCopper_spec _ _ _ m s1 s2 s3 s4 (hm.ext extA)) (k := ?_)
      | fail)
    | (refine is_umcall ?_; first
      | refine mj_callP (h := CheckCopper_spec _ _ _ m s1 s2 s3 s4 (hm.ext extA)) (k := ?_)
      | fail)
    | ((fail_if_success (first | refine is_ucall ?_ | refine is_umcall ?_)); first | refine W1 ?_ | refine Wc ?_ | refine W2c ?_ ?_ | refine Wg ?_ | refine W2 ?_ ?_ | exact Wdead | refine Wlive (fun hb => ?_) | intro _ _ _ _ _ _ _ _ | refine We ?_ | refine Wx ?_ | refine Wt ?_ | refine Wm ?_ | refine W2m ?_ ?_ | refine Wl ?_)
    | fail)
  · have hz : checkS m ≠ 0 := by assumption
    have e : playE m h ls = checkS m := by unfold playE; rw [if_neg hz]
    rw [e, if_neg hz]; exact ⟨⟨rfl, rfl⟩, rfl⟩
  · have hz : checkS m = 0 := by assumption
    have hG := good_of hz
    refine st_callP (h := truthOf_spec E _ _ m s1 s2 s3 s4 tl h ls (hm.ext extA) (hr.ext extA) hn hG.w.l0 hG.w.l4 hG.ll) (k := ?_)
    cases ht : truthOkS m h ls with
    | false =>
      have e : playE m h ls = 2 := by unfold playE; rw [if_pos hz, ht]; rfl
      rw [if_neg (by decide)]
      refine OpsJ.normA ?_
      repeat' (first
        | (refine is_ucall ?_; first
          | refine st_callP (h := CheckCopper_spec _ _ _ m s1 s2 s3 s4 (hm.ext extA)) (k := ?_)
          | fail)
        | (refine is_umcall ?_; first
          | refine mj_callP (h := CheckCopper_spec _ _ _ m s1 s2 s3 s4 (hm.ext extA)) (k := ?_)
          | fail)
        | ((fail_if_success (first | refine is_ucall ?_ | refine is_umcall ?_)); first | refine W1 ?_ | refine Wc ?_ | refine W2c ?_ ?_ | refine Wg ?_ | refine W2 ?_ ?_ | exact Wdead | refine Wlive (fun hb => ?_) | intro _ _ _ _ _ _ _ _ | refine We ?_ | refine Wx ?_ | refine Wt ?_ | refine Wm ?_ | refine W2m ?_ ?_ | refine Wl ?_)
        | fail)
      rw [if_neg (by rw [e]; decide), e]; exact ⟨⟨rfl, rfl⟩, rfl⟩
    | true =>
      have e : playE m h ls = 0 := by unfold playE; rw [if_pos hz, ht]; rfl
      have hT := truth_tok hG ht
      have htl : (tcells h (pad5 ls)).length = 6 := by simp [tcells, encE, pad5, arr5_len]
      have htk : (tcells h (pad5 ls)).take 6 = tcells h (pad5 ls) := List.take_of_length_le (by omega)
      have hto := tcells_ok h (pad5 ls)
      rw [if_pos rfl]
      generalize htc : tcells h (pad5 ls) = tc at *
      refine OpsJ.normA ?_
      repeat' (first
        | (refine is_ucall ?_; first
          | refine st_callP (h := CheckCopper_spec _ _ _ m s1 s2 s3 s4 (hm.ext extA)) (k := ?_)
          | fail)
        | (refine is_umcall ?_; first
          | refine mj_callP (h := CheckCopper_spec _ _ _ m s1 s2 s3 s4 (hm.ext extA)) (k := ?_)
          | fail)
        | ((fail_if_success (first | refine is_ucall ?_ | refine is_umcall ?_)); first | refine W1 ?_ | refine Wc ?_ | refine W2c ?_ ?_ | refine Wg ?_ | refine W2 ?_ ?_ | exact Wdead | refine Wlive (fun hb => ?_) | intro _ _ _ _ _ _ _ _ | refine We ?_ | refine Wx ?_ | refine Wt ?_ | refine Wm ?_ | refine W2m ?_ ?_ | refine Wl ?_)
        | fail)
      rw [← htc]
      refine st_callP (h := work_spec E _ _ m s1 s2 s3 s4 h (pad5 ls) (hm.ext extA).y hG.w hT) (k := ?_)
      have hwl := wcells_len m s1 s2 s3 s4 (arr5_len (hrs m) (hotS m h (pad5 ls))) (arr5_len (hrs m) (leftS m h (pad5 ls)))
      have hwo := wcells_ok (arr5 (hrs m) (hotS m h (pad5 ls))) (arr5 (hrs m) (leftS m h (pad5 ls))) hok
      have hwh := wcells_dropH m s1 s2 s3 s4 (left := arr5 (hrs m) (leftS m h (pad5 ls))) (arr5_len (hrs m) (hotS m h (pad5 ls)))
      have hwe := wcells_dropL m s1 s2 s3 s4 (arr5_len (hrs m) (hotS m h (pad5 ls))) (arr5_len (hrs m) (leftS m h (pad5 ls)))
      generalize wcells m s1 s2 s3 s4 (arr5 (hrs m) (hotS m h (pad5 ls))) (arr5 (hrs m) (leftS m h (pad5 ls))) = ws at *
      rw [htc]
      refine OpsJ.normA ?_
      repeat' (first
        | (refine is_ucall ?_; first
          | refine st_callP (h := CheckCopper_spec _ _ _ m s1 s2 s3 s4 (hm.ext extA)) (k := ?_)
          | fail)
        | (refine is_umcall ?_; first
          | refine mj_callP (h := CheckCopper_spec _ _ _ m s1 s2 s3 s4 (hm.ext extA)) (k := ?_)
          | fail)
        | ((fail_if_success (first | refine is_ucall ?_ | refine is_umcall ?_)); first | refine W1 ?_ | refine Wc ?_ | refine W2c ?_ ?_ | refine Wg ?_ | refine W2 ?_ ?_ | exact Wdead | refine Wlive (fun hb => ?_) | intro _ _ _ _ _ _ _ _ | refine We ?_ | refine Wx ?_ | refine Wt ?_ | refine Wm ?_ | refine W2m ?_ ?_ | refine Wl ?_)
        | fail)
      refine WPJ.draw 8 mixed (by kernel_rfl) (by kernel_rfl) (by kernel_rfl) (by decide) ?_
      refine MonoJ.normA ?_
      repeat' (first
        | (refine is_ucall ?_; first
          | refine st_callP (h := CheckCopper_spec _ _ _ m s1 s2 s3 s4 (hm.ext extA)) (k := ?_)
          | fail)
        | (refine is_umcall ?_; first
          | refine mj_callP (h := CheckCopper_spec _ _ _ m s1 s2 s3 s4 (hm.ext extA)) (k := ?_)
          | fail)
        | ((fail_if_success (first | refine is_ucall ?_ | refine is_umcall ?_)); first | refine W1 ?_ | refine Wc ?_ | refine W2c ?_ ?_ | refine Wg ?_ | refine W2 ?_ ?_ | exact Wdead | refine Wlive (fun hb => ?_) | intro _ _ _ _ _ _ _ _ | refine We ?_ | refine Wx ?_ | refine Wt ?_ | refine Wm ?_ | refine W2m ?_ ?_ | refine Wl ?_)
        | fail)
      refine mj_callL (h := listOf_spec _ _ _ m s1 s2 s3 s4 _ hok hG.w.l0 hG.w.l4 (arr5_len _ _)) (k := ?_)
      refine MonoJ.normA ?_
      repeat' (first
        | (refine is_ucall ?_; first
          | refine st_callP (h := CheckCopper_spec _ _ _ m s1 s2 s3 s4 (hm.ext extA)) (k := ?_)
          | fail)
        | (refine is_umcall ?_; first
          | refine mj_callP (h := CheckCopper_spec _ _ _ m s1 s2 s3 s4 (hm.ext extA)) (k := ?_)
          | fail)
        | ((fail_if_success (first | refine is_ucall ?_ | refine is_umcall ?_)); first | refine W1 ?_ | refine Wc ?_ | refine W2c ?_ ?_ | refine Wg ?_ | refine W2 ?_ ?_ | exact Wdead | refine Wlive (fun hb => ?_) | intro _ _ _ _ _ _ _ _ | refine We ?_ | refine Wx ?_ | refine Wt ?_ | refine Wm ?_ | refine W2m ?_ ?_ | refine Wl ?_)
        | fail)
      refine mj_callL (h := listOf_spec _ _ _ m s1 s2 s3 s4 _ hok hG.w.l0 hG.w.l4 (arr5_len _ _)) (k := ?_)
      refine MonoJ.normA ?_
      repeat' (first
        | (refine is_ucall ?_; first
          | refine st_callP (h := CheckCopper_spec _ _ _ m s1 s2 s3 s4 (hm.ext extA)) (k := ?_)
          | fail)
        | (refine is_umcall ?_; first
          | refine mj_callP (h := CheckCopper_spec _ _ _ m s1 s2 s3 s4 (hm.ext extA)) (k := ?_)
          | fail)
        | ((fail_if_success (first | refine is_ucall ?_ | refine is_umcall ?_)); first | refine W1 ?_ | refine Wc ?_ | refine W2c ?_ ?_ | refine Wg ?_ | refine W2 ?_ ?_ | exact Wdead | refine Wlive (fun hb => ?_) | intro _ _ _ _ _ _ _ _ | refine We ?_ | refine Wx ?_ | refine Wt ?_ | refine Wm ?_ | refine W2m ?_ ?_ | refine Wl ?_)
        | fail)
      have hn5 := (hrs_le hG.w).1
      rw [arr5_take hn5, arr5_take hn5]
      refine Tidy.rows2 (i := H.length + 4) (k := H.length + 5) (c1 := encE (hotL m h ls)) (c2 := encE (leftL m h ls)) extA getA getA (by omega) (by omega) (by omega) (encE_flat _) (encE_flat _) (.tuple3 (.slice (j := 0) rfl) (.slice (j := 1) rfl) (.flat rfl)) ?_
      rw [if_pos e]; exact ⟨⟨rfl, rfl⟩, rfl⟩
end
end Go.Proofs.Ytjbiidlmpaibkaa
namespace Go.Proofs.Ytjbiidlmpaibkaa
open Go Go.Abs Go.Proofs
set_option maxHeartbeats 800000
attribute [local irreducible] CallJ OpsJ WPJ CallV MonoJ
def shC (b : Nat) (rv : Value) : List Nat := b :: idOf rv
theorem shC_ok {H : AHeap} {rs : List (Int × Int)} {rv : Value} {b : Nat} {own : Bool} (hr : RdS H rv 2 (rs.map encR)) (hb : H[b]? = some (.row [rv] 1 own)) : ∀ Hi, Viewed (shC b rv) H Hi → OkC rs rv b Hi := by
  intro Hi hv
  exact ⟨hr.viewed (fun i hi => by simp [shC, hi]) hv, hv b (by simp [shC]) _ _ _ hb⟩
theorem shC_cap {H : AHeap} {rs : List (Int × Int)} {rv : Value} {b : Nat} {own : Bool} {gf : FuncId} (hr : RdS H rv 2 (rs.map encR)) (hb : H[b]? = some (.row [rv] 1 own)) :
    ∀ (ρ : Ren) (w : World), SRel ρ H w → (∀ v', VRel ρ (.func (.func gf) ⟨[]⟩ ⟨[.pointer (some ⟨b, 0, none⟩)]⟩) v' → ∀ i ∈ shC b rv, ∃ m, ρ i = some m) := by
  intro ρ w hs v' hv
  cases hv with
  | func h1 h2 h3 h4 =>
    have h := h4 0 (by simp) (by rw [← h3]; simp)
    simp only [List.getElem_toArray, List.getElem_cons_zero] at h
    obtain ⟨x, hx, _⟩ := rel_ptr h
    have hor := hs.obj b x _ hx hb
    obtain ⟨_, _, c, e, fr, _, _, _, h5, h6⟩ := hor
    have h5' : 1 ≤ c.size := h5
    intro i hi
    simp only [shC, List.mem_cons] at hi
    rcases hi with rfl | hi
    · exact ⟨x, hx⟩
    · exact rel_id hr (h6 0 (by simp) (by omega)) i hi
theorem shC_within {H : AHeap} {rs : List (Int × Int)} {rv : Value} {b : Nat} {own : Bool} (hr : RdS H rv 2 (rs.map encR)) (hp : PlainA H rv) (hb : H[b]? = some (.row [rv] 1 own)) :
    ∀ i ∈ shC b rv, ∀ c es own, H[i]? = some (.row c es own) → ∀ v ∈ c, Within (shC b rv) v := by
  intro i hi c es own' hc v hv
  simp only [shC, List.mem_cons] at hi
  rcases hi with rfl | hi
  · rw [hb] at hc; cases hc
    simp at hv; subst hv
    exact Within.idOf hr fun i hi => by simp [shC, hi]
  · obtain ⟨row, es2, own2, h1, h2⟩ := hp i hi
    rw [hc] at h1; cases h1
    exact h2 v hv _
theorem WPJ.choices {γ : Type} {E : Env γ} {gop : Operand} {p : Tmp} {assign body : Code} {Q : Exit → List Value → AHeap → γ → Prop} {T : List Value} {H : AHeap} {g : γ} {rs : List (Int × Int)} {rv : Value} {b : Nat} {own : Bool} (hg : evalT T gop = .func (.func 140) ⟨[]⟩ ⟨[.pointer (some ⟨b, 0, none⟩)]⟩)
    (hf : Few rs) (hr : RdS H rv 2 (rs.map encR)) (hp : PlainA H rv) (hb : H[b]? = some (.row [rv] 1 own))
    (I : Nat → AHeap → γ → Prop) (Ix : Code → AHeap → γ → Prop) (h0 : I 0 H g) (hI : ∀ k H2 g2, I k H2 g2 → Kept (shC b rv) H H2) (hIx : ∀ c H2 g2, Ix c H2 g2 → Kept (shC b rv) H H2)
    (round : ∀ k es Hc gc, (genA rs)[k]? = some es → I k Hc gc → WPJ Try.prog E assign (thenQ (WPJ Try.prog E body (roundQ (I (k + 1)) Ix)) (fun _ _ _ _ => False)) (T.set p (.agg ⟨encE es⟩)) Hc gc)
    (done : ∀ Hc gc, I (genA rs).length Hc gc → Q .normal T Hc gc) (stop : ∀ c Hc gc, Ix c Hc gc → WPJ Try.prog E c Q T Hc gc) : WPJ Try.prog E (.rangeFunc gop #[p] assign body) Q T H g := by
  refine WPJ.rangeHits (shC b rv) ((genA rs).map fun es => [.agg ⟨encE es⟩]) hg EntC.ent (choices_hits rs rv b hf) (shC_ok hr hb) (shC_cap hr hb) (fun v hv => by cases hv)
    (fun v hv => by simp at hv; subst hv; exact .ptr (by simp [shC])) (shC_within hr hp hb) (fun x hx => by simp at hx; obtain ⟨_, _, rfl⟩ := hx; rfl)
    (fun ρ w hs hk x hx v hv l => by simp at hx; obtain ⟨es, _, rfl⟩ := hx; simp at hv; subst hv; exact .agg fun v hv => by simp [encE] at hv; obtain ⟨_, _, rfl⟩ := hv; exact .flat rfl) I Ix h0 ?_ ?_ ?_ stop
  · rintro H2 g2 (⟨k, h⟩ | ⟨c, h⟩)
    · exact hI k H2 g2 h
    · exact hIx c H2 g2 h
  · intro k x Hc gc hx hIk
    rw [List.getElem?_map] at hx
    obtain ⟨es, hes, rfl⟩ := Option.map_eq_some_iff.1 hx
    exact round k es Hc gc hes hIk
  · intro Hc gc h
    rw [List.length_map] at h
    exact done Hc gc h
def allT (m : CopM) : List (Int × List Int) := (rng (m.hlo, m.hhi)).flatMap fun h => (genA m.loss).map fun es => (h, es)
theorem genA_len (rs : List (Int × Int)) : (genA rs).length = (gen rs).length := by simp [genA]
theorem allT_len (m : CopM) : (allT m).length = (m.hhi - m.hlo + 1).toNat * (genA m.loss).length := by
  unfold allT
  rw [flatMap_len _ (genA m.loss).length _ (fun a _ => by simp), rng_len]
theorem allT_get {m : CopM} {j k : Nat} {es : List Int} (hj : j < (m.hhi - m.hlo + 1).toNat) (hk : (genA m.loss)[k]? = some es) : (allT m)[j * (genA m.loss).length + k]? = some (m.hlo + j, es) := by
  unfold allT
  exact flatMap_get _ (genA m.loss).length _ (fun a _ => by simp) j k _ _ (rng_get (m.hlo, m.hhi) hj) (by simp [hk])
structure OkH (m : CopM) (s1 s2 s3 s4 : Value) (b : Nat) (Hi : AHeap) : Prop where
  cop : CopIs Hi m s1 s2 s3 s4
  box : Hi[b]? = some (.row (ccells m s1 s2 s3 s4) 1 false)
structure FewH (m : CopM) : Prop where
  f : Few m.loss
  h : -1000 ≤ m.hlo ∧ m.hhi ≤ 1000
theorem allTruths_hits (m : CopM) (s1 s2 s3 s4 : Value) (b : Nat) (hf : FewH m) : Hits Try.prog 132 [] [.pointer (some ⟨b, 0, none⟩)] (OkH m s1 s2 s3 s4 b) ((allT m).map fun t => [.agg ⟨tcells t.1 t.2⟩]) := by
  intro γ' E' J Jx yn Hi g0 hok hy hJ0
  have hbox := hok.box
  have hcl := hok.cop.cells
  have hhb := hf.h
  have hlt3 := RdS.shape hok.cop.loss
  have hlx : ((allT m).map fun t => [Value.agg ⟨tcells t.1 t.2⟩]).length = (m.hhi - m.hlo + 1).toNat * (genA m.loss).length := by rw [List.length_map, allT_len]
  refine CallJ.tidy ?_
  refine CallJ.enter Try.func132 rfl (by simp only [Try.ntmps132, List.length_cons, List.length_nil, Nat.zero_add, Nat.reduceAdd, Nat.reduceSub, List.replicate_succ, List.replicate_zero, List.cons_append, List.nil_append]; rfl) ?_
  repeat' (first
    | ((fail_if_success (first | refine is_ucall ?_ | refine is_umcall ?_)); first | refine W1 ?_ | refine Wc ?_ | refine W2c ?_ ?_ | refine Wg ?_ | refine W2 ?_ ?_ | exact Wdead | refine Wlive (fun hb => ?_) | intro _ _ _ _ _ _ _ _ | refine We ?_ | refine Wx ?_ | refine Wt ?_ | refine Wm ?_ | refine W2m ?_ ?_ | refine Wl ?_)
    | fail)
  rw [hlx]
  refine WPJ.loopT (m.hhi - m.hlo + 1).toNat [4, 5, 6, 7, 8, 9, 10, 11, 12, 13, 14, 15, 16, 17, 18, 19, 20, 21, 22, 23, 24, 25] (fun _ (p : Nat) => [(3, .pointer (some ⟨p, 0, none⟩))])
    (fun j p H1 g1 => (∃ L, H1 = (Hi ++ [.row [.func (.yield yn) #[] #[]] 1 true]) ++ L ∧ OwnL L) ∧ H1[p]? = some (.row [.int .i64 (m.hlo + j)] 1 true) ∧ Hi.length < p ∧ J (j * (genA m.loss).length) g1) 0 (Hi.length + 1) (Nat.zero_le _)
    (by intro p hp; simp at hp; rcases hp with rfl; rfl) ⟨⟨[.row [.int .i64 m.hlo] 1 true], by simp, .cons (.inr rfl) .nil⟩, by simp, by omega, by simpa using hJ0⟩ ?_
  rintro j p H1 g1 hj ⟨⟨L, hH1, hL⟩, hp, hpl, hJ⟩ hl
  simp only [updT, maskT, List.set_cons_zero, List.set_cons_succ]
  have hb0 : H1[Hi.length]? = some (.row [.func (.yield yn) #[] #[]] 1 true) := by rw [hH1]; exact get_old (get_new0 rfl)
  have hb1 : H1[b]? = some (.row (ccells m s1 s2 s3 s4) 1 false) := by rw [hH1]; exact get_old (get_old hbox)
  have hmc : CopIs H1 m s1 s2 s3 s4 := hok.cop.ext ⟨[.row [.func (.yield yn) #[] #[]] 1 true] ++ L, by rw [hH1, List.append_assoc]⟩
  have hxt : Ext Hi H1 := ⟨[.row [.func (.yield yn) #[] #[]] 1 true] ++ L, by rw [hH1, List.append_assoc]⟩
  have hlen : p < H1.length := (List.getElem?_eq_some_iff.1 hp).1
  have hpne : p ≠ Hi.length := by omega
  rcases Nat.lt_or_ge j (m.hhi - m.hlo + 1).toNat with hlt | hge
  · skip
    repeat' (first
      | ((fail_if_success (first | refine is_ucall ?_ | refine is_umcall ?_)); first | refine W1 ?_ | refine Wc ?_ | refine W2c ?_ ?_ | refine Wg ?_ | refine W2 ?_ ?_ | exact Wdead | refine Wlive (fun hb => ?_) | intro _ _ _ _ _ _ _ _ | refine We ?_ | refine Wx ?_ | refine Wt ?_ | refine Wm ?_ | refine W2m ?_ ?_ | refine Wl ?_)
      | fail)
    refine st_call rfl (choices_spec E' g1 _ s3 hlt3) ?_
    rintro _ _ g2 ⟨rfl, rfl, rfl⟩
    refine OpsJ.normA ?_
    repeat' (first
      | ((fail_if_success (first | refine is_ucall ?_ | refine is_umcall ?_)); first | refine W1 ?_ | refine Wc ?_ | refine W2c ?_ ?_ | refine Wg ?_ | refine W2 ?_ ?_ | exact Wdead | refine Wlive (fun hb => ?_) | intro _ _ _ _ _ _ _ _ | refine We ?_ | refine Wx ?_ | refine Wt ?_ | refine Wm ?_ | refine W2m ?_ ?_ | refine Wl ?_)
      | fail)
    refine WPJ.choices (b := H1.length) rfl hf.f (hmc.loss.ext extA) (hmc.p3.ext extA) getA
      (fun k H2 g2 => (∃ L2, H2 = (H1 ++ [.row [s3] 1 true]) ++ L2 ∧ OwnL L2) ∧ J (j * (genA m.loss).length + k) g2)
      (fun c H2 g2 => c = .ret ∧ (∃ L2, H2 = (H1 ++ [.row [s3] 1 true]) ++ L2 ∧ OwnL L2) ∧ Jx g2)
      ⟨⟨[], by simp, .nil⟩, hJ⟩ ?_ ?_ ?_ ?_ ?_
    · rintro k H2 g3 ⟨⟨L2, rfl, hL2⟩, _⟩
      exact Kept.app (Kept.refl _ _) hL2
    · rintro c H2 g3 ⟨_, ⟨L2, rfl, hL2⟩, _⟩
      exact Kept.app (Kept.refl _ _) hL2
    · rintro k es Hc gc hes ⟨⟨L2, hHc, hL2⟩, hJ2⟩
      have hc0 : Hc[Hi.length]? = some (.row [.func (.yield yn) #[] #[]] 1 true) := by rw [hHc]; exact get_old (get_old hb0)
      have hcp : Hc[p]? = some (.row [.int .i64 (m.hlo + j)] 1 true) := by rw [hHc]; exact get_old (get_old hp)
      have hes5 : es.length = 5 := by
        obtain ⟨s, hs, rfl⟩ := List.mem_map.1 (List.mem_of_getElem? hes)
        have := gen_elem_len _ _ hs
        have := hf.f.n
        simp; omega
      obtain ⟨e0, e1, e2, e3, e4, rfl⟩ : ∃ e0 e1 e2 e3 e4, es = [e0, e1, e2, e3, e4] := by
        match es, hes5 with
        | [a, b, c, d, e], _ => exact ⟨a, b, c, d, e, rfl⟩
      have hxo : ∀ row : List Value, ExtOwn Hi (Hc ++ [.row row 1 true]) := fun row => ⟨[.row [.func (.yield yn) #[] #[]] 1 true] ++ L ++ ([.row [s3] 1 true] ++ L2 ++ [.row row 1 true]), by rw [hHc, hH1]; simp, OwnL.append (OwnL.append (.cons (.inr rfl) .nil) hL) (OwnL.append (OwnL.append (.cons (.inr rfl) .nil) hL2) (.cons (.inr rfl) .nil))⟩
      have h0 := hy (j * (genA m.loss).length + k) [.agg ⟨tcells (m.hlo + j) [e0, e1, e2, e3, e4]⟩] (by rw [List.getElem?_map, allT_get hlt hes]; rfl) _ gc (hxo (encE [e0, e1, e2, e3, e4])) hJ2
      have hexc : ∀ row : List Value, ∃ L', Hc ++ [.row row 1 true] = (H1 ++ [.row [s3] 1 true]) ++ L' ∧ OwnL L' := fun row => ⟨L2 ++ [.row row 1 true], by rw [hHc]; simp, hL2.append (.cons (.inr rfl) .nil)⟩
      repeat' (first
        | ((fail_if_success (first | refine is_ucall ?_ | refine is_umcall ?_)); first | refine W1 ?_ | refine Wc ?_ | refine W2c ?_ ?_ | refine Wg ?_ | refine W2 ?_ ?_ | exact Wdead | refine Wlive (fun hb => ?_) | intro _ _ _ _ _ _ _ _ | refine We ?_ | refine Wx ?_ | refine Wt ?_ | refine Wm ?_ | refine W2m ?_ ?_ | refine Wl ?_)
        | fail)
      refine st_callV rfl rfl h0 ?_
      rintro v H' g' ⟨rfl, ⟨rfl, h1⟩ | ⟨rfl, h1⟩⟩
      · skip
        refine OpsJ.normA ?_
        repeat' (first
          | ((fail_if_success (first | refine is_ucall ?_ | refine is_umcall ?_)); first | refine W1 ?_ | refine Wc ?_ | refine W2c ?_ ?_ | refine Wg ?_ | refine W2 ?_ ?_ | exact Wdead | refine Wlive (fun hb => ?_) | intro _ _ _ _ _ _ _ _ | refine We ?_ | refine Wx ?_ | refine Wt ?_ | refine Wm ?_ | refine W2m ?_ ?_ | refine Wl ?_)
          | fail)
        exact ⟨hexc _, h1⟩
      · skip
        refine OpsJ.normA ?_
        repeat' (first
          | ((fail_if_success (first | refine is_ucall ?_ | refine is_umcall ?_)); first | refine W1 ?_ | refine Wc ?_ | refine W2c ?_ ?_ | refine Wg ?_ | refine W2 ?_ ?_ | exact Wdead | refine Wlive (fun hb => ?_) | intro _ _ _ _ _ _ _ _ | refine We ?_ | refine Wx ?_ | refine Wt ?_ | refine Wm ?_ | refine W2m ?_ ?_ | refine Wl ?_)
          | fail)
        exact ⟨rfl, hexc _, h1⟩
    · rintro Hc gc ⟨⟨L2, hHc, hL2⟩, hJ2⟩
      have hcp : Hc[p]? = some (.row [.int .i64 (m.hlo + j)] 1 true) := by rw [hHc]; exact get_old (get_old hp)
      have hcl2 : Hc.length = H1.length + 1 + L2.length := by rw [hHc]; simp; omega
      repeat' (first
        | ((fail_if_success (first | refine is_ucall ?_ | refine is_umcall ?_)); first | refine W1 ?_ | refine Wc ?_ | refine W2c ?_ ?_ | refine Wg ?_ | refine W2 ?_ ?_ | exact Wdead | refine Wlive (fun hb => ?_) | intro _ _ _ _ _ _ _ _ | refine We ?_ | refine Wx ?_ | refine Wt ?_ | refine Wm ?_ | refine W2m ?_ ?_ | refine Wl ?_)
        | fail)
      refine ⟨Hc.length, hlt, (by repeat' (first | exact Weak.nil | refine Weak.wild ?_ | refine Weak.same ?_ | refine Weak.intEq (by first | omega | (simp; done) | (push_cast; omega)) ?_)), ?_, ?_, by omega, by rw [Nat.add_mul, Nat.one_mul]; exact hJ2⟩
      · refine ⟨L ++ ([.row [s3] 1 true] ++ L2 ++ [.row [.int .i64 (m.hlo + j + 1)] 1 true]), ?_, OwnL.append hL (OwnL.append (OwnL.append (.cons (.inr rfl) .nil) hL2) (.cons (.inr rfl) .nil))⟩
        rw [hHc, hH1]; simp
      · have e : m.hlo + ((j + 1 : Nat) : Int) = m.hlo + j + 1 := by omega
        rw [e]
        exact getA
    · rintro c Hc gc ⟨rfl, ⟨L2, hHc, hL2⟩, hJ2⟩
      repeat' (first
        | ((fail_if_success (first | refine is_ucall ?_ | refine is_umcall ?_)); first | refine W1 ?_ | refine Wc ?_ | refine W2c ?_ ?_ | refine Wg ?_ | refine W2 ?_ ?_ | exact Wdead | refine Wlive (fun hb => ?_) | intro _ _ _ _ _ _ _ _ | refine We ?_ | refine Wx ?_ | refine Wt ?_ | refine Wm ?_ | refine W2m ?_ ?_ | refine Wl ?_)
        | fail)
      exact Tidy.ext (Ext.trans extA (show Ext H1 Hc from ⟨[.row [s3] 1 true] ++ L2, by rw [hHc, List.append_assoc]⟩)) .tuple0 ⟨rfl, .inr hJ2⟩
  · obtain rfl : j = (m.hhi - m.hlo + 1).toNat := by omega
    repeat' (first
      | ((fail_if_success (first | refine is_ucall ?_ | refine is_umcall ?_)); first | refine W1 ?_ | refine Wc ?_ | refine W2c ?_ ?_ | refine Wg ?_ | refine W2 ?_ ?_ | exact Wdead | refine Wlive (fun hb => ?_) | intro _ _ _ _ _ _ _ _ | refine We ?_ | refine Wx ?_ | refine Wt ?_ | refine Wm ?_ | refine W2m ?_ ?_ | refine Wl ?_)
      | fail)
    exact ⟨rfl, .inl hJ⟩
end Go.Proofs.Ytjbiidlmpaibkaa
namespace Go.Proofs.Ytjbiidlmpaibkaa
open Go Go.Abs Go.Proofs
set_option maxHeartbeats 800000
attribute [local irreducible] CallJ OpsJ WPJ CallV MonoJ
def shH (b : Nat) (s1 s2 s3 s4 : Value) : List Nat := b :: (idOf s1 ++ (idOf s2 ++ (idOf s3 ++ idOf s4)))
theorem shH_lt {H : AHeap} {m : CopM} {s1 s2 s3 s4 : Value} {b : Nat} (hm : CopIs H m s1 s2 s3 s4) (hb : b < H.length) : ∀ i ∈ shH b s1 s2 s3 s4, i < H.length := by
  intro i hi
  simp only [shH, List.mem_cons, List.mem_append] at hi
  rcases hi with rfl | hi | hi | hi | hi
  · exact hb
  · exact (idOf_rd hm.coal hi).1
  · exact (idOf_rd hm.want hi).1
  · exact (idOf_rd hm.loss hi).1
  · exact (idOf_rd hm.reads hi).1
theorem shH_ok {H : AHeap} {m : CopM} {s1 s2 s3 s4 : Value} {b : Nat} {own : Bool} (hm : CopIs H m s1 s2 s3 s4) (hb : H[b]? = some (.row (ccells m s1 s2 s3 s4) 1 own)) : ∀ Hi, Viewed (shH b s1 s2 s3 s4) H Hi → OkH m s1 s2 s3 s4 b Hi := by
  intro Hi hv
  have m1 : ∀ i ∈ idOf s1, i ∈ shH b s1 s2 s3 s4 := fun i hi => by simp [shH, hi]
  have m2 : ∀ i ∈ idOf s2, i ∈ shH b s1 s2 s3 s4 := fun i hi => by simp [shH, hi]
  have m3 : ∀ i ∈ idOf s3, i ∈ shH b s1 s2 s3 s4 := fun i hi => by simp [shH, hi]
  have m4 : ∀ i ∈ idOf s4, i ∈ shH b s1 s2 s3 s4 := fun i hi => by simp [shH, hi]
  exact ⟨⟨hm.coal.viewed m1 hv, hm.want.viewed m2 hv, hm.loss.viewed m3 hv, hm.reads.viewed m4 hv, hm.ok, hm.n1, hm.n2, hm.n3, hm.n4, hm.p1.viewed m1 hv, hm.p2.viewed m2 hv, hm.p3.viewed m3 hv, hm.p4.viewed m4 hv⟩, hv b (by simp [shH]) _ _ _ hb⟩
theorem shH_cap {H : AHeap} {m : CopM} {s1 s2 s3 s4 : Value} {b : Nat} {own : Bool} {gf : FuncId} (hm : CopIs H m s1 s2 s3 s4) (hb : H[b]? = some (.row (ccells m s1 s2 s3 s4) 1 own)) :
    ∀ (ρ : Ren) (w : World), SRel ρ H w → (∀ v', VRel ρ (.func (.func gf) ⟨[]⟩ ⟨[.pointer (some ⟨b, 0, none⟩)]⟩) v' → ∀ i ∈ shH b s1 s2 s3 s4, ∃ m, ρ i = some m) := by
  intro ρ w hs v' hv
  cases hv with
  | func h1 h2 h3 h4 =>
    have h := h4 0 (by simp) (by rw [← h3]; simp)
    simp only [List.getElem_toArray, List.getElem_cons_zero] at h
    obtain ⟨x, hx, _⟩ := rel_ptr h
    have hor := hs.obj b x _ hx hb
    obtain ⟨_, _, c, e, fr, _, _, _, h5, h6⟩ := hor
    have h5' : 11 ≤ c.size := h5
    intro i hi
    simp only [shH, List.mem_cons, List.mem_append] at hi
    rcases hi with rfl | hi | hi | hi | hi
    · exact ⟨x, hx⟩
    · exact rel_id hm.coal (h6 5 (by simp) (by omega)) i hi
    · exact rel_id hm.want (h6 6 (by simp) (by omega)) i hi
    · exact rel_id hm.loss (h6 9 (by simp) (by omega)) i hi
    · exact rel_id hm.reads (h6 10 (by simp) (by omega)) i hi
theorem shH_within {H : AHeap} {m : CopM} {s1 s2 s3 s4 : Value} {b : Nat} {own : Bool} (hm : CopIs H m s1 s2 s3 s4) (hb : H[b]? = some (.row (ccells m s1 s2 s3 s4) 1 own)) :
    ∀ i ∈ shH b s1 s2 s3 s4, ∀ c es own, H[i]? = some (.row c es own) → ∀ v ∈ c, Within (shH b s1 s2 s3 s4) v := by
  intro i hi c es own' hc v hv
  have hpl : ∀ s, PlainA H s → i ∈ idOf s → Within (shH b s1 s2 s3 s4) v := fun s hp hi => by
    obtain ⟨row, es2, own2, h1, h2⟩ := hp i hi
    rw [hc] at h1; cases h1
    exact h2 v hv _
  simp only [shH, List.mem_cons, List.mem_append] at hi
  rcases hi with rfl | hi | hi | hi | hi
  · rw [hb] at hc; cases hc
    simp only [ccells, List.mem_cons, List.not_mem_nil, or_false] at hv
    rcases hv with rfl | rfl | rfl | rfl | rfl | rfl | rfl | rfl | rfl | rfl | rfl
    · exact .flat rfl
    · exact .flat rfl
    · exact .flat rfl
    · exact .flat rfl
    · exact .flat rfl
    · exact Within.idOf hm.coal fun i hi => by simp [shH, hi]
    · exact Within.idOf hm.want fun i hi => by simp [shH, hi]
    · exact .flat rfl
    · exact .flat rfl
    · exact Within.idOf hm.loss fun i hi => by simp [shH, hi]
    · exact Within.idOf hm.reads fun i hi => by simp [shH, hi]
  · exact hpl _ hm.p1 hi
  · exact hpl _ hm.p2 hi
  · exact hpl _ hm.p3 hi
  · exact hpl _ hm.p4 hi
theorem shH_not {H : AHeap} {m : CopM} {s1 s2 s3 s4 : Value} {b j : Nat} (hm : CopIs H m s1 s2 s3 s4) (hj : H.length ≤ j) (hne : j ≠ b) : j ∉ shH b s1 s2 s3 s4 := by
  intro hi
  simp only [shH, List.mem_cons, List.mem_append] at hi
  rcases hi with hi | hi | hi | hi | hi
  · exact hne hi
  · have := (idOf_rd hm.coal hi).1; omega
  · have := (idOf_rd hm.want hi).1; omega
  · have := (idOf_rd hm.loss hi).1; omega
  · have := (idOf_rd hm.reads hi).1; omega
section
variable {γ : Type} (E : Env γ) (g : γ) (H : AHeap)
theorem allTruths_spec (m : CopM) (s1 s2 s3 s4 : Value) (hok : (ccells m s1 s2 s3 s4).all cellOk = true) : CallJ Try.prog E 117 [cv m s1 s2 s3 s4] (fun v H' g' => v = .func (.func 132) ⟨[]⟩ ⟨[.pointer (some ⟨H.length, 0, none⟩)]⟩ ∧ H' = H ++ [.row (ccells m s1 s2 s3 s4) 1 true] ∧ g' = g) H g := by
  unfold cv
  refine CallJ.enter Try.func117 rfl (by simp only [Try.ntmps117, List.length_cons, List.length_nil, Nat.zero_add, Nat.reduceSub, List.replicate_succ, List.replicate_zero, List.cons_append, List.nil_append]; rfl) ?_
  repeat' (first
    | ((fail_if_success (first | refine is_ucall ?_ | refine is_umcall ?_)); first | refine W1 ?_ | refine Wc ?_ | refine W2c ?_ ?_ | refine Wg ?_ | refine W2 ?_ ?_ | exact Wdead | refine Wlive (fun hb => ?_) | intro _ _ _ _ _ _ _ _ | refine We ?_ | refine Wx ?_ | refine Wt ?_ | refine Wm ?_ | refine W2m ?_ ?_ | refine Wl ?_)
    | fail)
  exact ⟨rfl, rfl, rfl⟩
theorem truths_spec (m : CopM) (s1 s2 s3 s4 : Value) (hok : (ccells m s1 s2 s3 s4).all cellOk = true) : CallJ Try.prog E 79 [cv m s1 s2 s3 s4] (fun v H' g' => v = .func (.func 116) ⟨[]⟩ ⟨[.pointer (some ⟨H.length, 0, none⟩)]⟩ ∧ H' = H ++ [.row (ccells m s1 s2 s3 s4) 1 true] ∧ g' = g) H g := by
  unfold cv
  refine CallJ.enter Try.func79 rfl (by simp only [Try.ntmps79, List.length_cons, List.length_nil, Nat.zero_add, Nat.reduceSub, List.replicate_succ, List.replicate_zero, List.cons_append, List.nil_append]; rfl) ?_
  repeat' (first
    | ((fail_if_success (first | refine is_ucall ?_ | refine is_umcall ?_)); first | refine W1 ?_ | refine Wc ?_ | refine W2c ?_ ?_ | refine Wg ?_ | refine W2 ?_ ?_ | exact Wdead | refine Wlive (fun hb => ?_) | intro _ _ _ _ _ _ _ _ | refine We ?_ | refine Wx ?_ | refine Wt ?_ | refine Wm ?_ | refine W2m ?_ ?_ | refine Wl ?_)
    | fail)
  exact ⟨rfl, rfl, rfl⟩
end
structure Valid (m : CopM) : Prop where
  few : FewH m
  w : WOk m
  tok : ∀ t ∈ allT m, TOk t.1 t.2
  rh : ∀ r ∈ m.reads, 0 ≤ r.hour ∧ r.hour < 5
def isT (m : CopM) (t : Int × List Int) : Bool := rightS m (arr5 (hrs m) (hotS m t.1 t.2))
def truthsL (m : CopM) : List (Int × List Int) := (allT m).filter (isT m)
abbrev tval (t : Int × List Int) : Value := .agg ⟨tcells t.1 t.2⟩
theorem cop_ext {H Hc : AHeap} {m : CopM} {s1 s2 s3 s4 : Value} (h : CopIs H m s1 s2 s3 s4) {L : AHeap} (e : Hc = H ++ L) : CopIs Hc m s1 s2 s3 s4 := h.ext ⟨L, e⟩
theorem truths_hits (m : CopM) (s1 s2 s3 s4 : Value) (b : Nat) (hV : Valid m) : Hits Try.prog 116 [] [.pointer (some ⟨b, 0, none⟩)] (OkH m s1 s2 s3 s4 b) ((truthsL m).map fun t => [tval t]) := by
  intro γ' E' J Jx yn Hi g0 hok hy hJ0
  have hbox := hok.box
  have hcl := hok.cop.cells
  refine CallJ.tidy ?_
  refine CallJ.enter Try.func116 rfl (by simp only [Try.ntmps116, List.length_cons, List.length_nil, Nat.zero_add, Nat.reduceAdd, Nat.reduceSub, List.replicate_succ, List.replicate_zero, List.cons_append, List.nil_append]; rfl) ?_
  repeat' (first
    | ((fail_if_success (first | refine is_ucall ?_ | refine is_umcall ?_)); first | refine W1 ?_ | refine Wc ?_ | refine W2c ?_ ?_ | refine Wg ?_ | refine W2 ?_ ?_ | exact Wdead | refine Wlive (fun hb => ?_) | intro _ _ _ _ _ _ _ _ | refine We ?_ | refine Wx ?_ | refine Wt ?_ | refine Wm ?_ | refine W2m ?_ ?_ | refine Wl ?_)
    | fail)
  refine st_call rfl (allTruths_spec E' g0 _ m s1 s2 s3 s4 hcl) ?_
  rintro _ _ g1 ⟨rfl, rfl, rfl⟩
  refine OpsJ.normA ?_
  repeat' (first
    | ((fail_if_success (first | refine is_ucall ?_ | refine is_umcall ?_)); first | refine W1 ?_ | refine Wc ?_ | refine W2c ?_ ?_ | refine Wg ?_ | refine W2 ?_ ?_ | exact Wdead | refine Wlive (fun hb => ?_) | intro _ _ _ _ _ _ _ _ | refine We ?_ | refine Wx ?_ | refine Wt ?_ | refine Wm ?_ | refine W2m ?_ ?_ | refine Wl ?_)
    | fail)
  have hmb : CopIs (Hi ++ [.row [.func (.yield yn) #[] #[]] 1 true, .row (ccells m s1 s2 s3 s4) 1 true]) m s1 s2 s3 s4 := hok.cop.ext ⟨_, rfl⟩
  have hbb : (Hi ++ [.row [.func (.yield yn) #[] #[]] 1 true, .row (ccells m s1 s2 s3 s4) 1 true])[Hi.length + 1]? = some (.row (ccells m s1 s2 s3 s4) 1 true) := get_new rfl
  have hlx : ((truthsL m).map fun t => [tval t]).length = ((allT m).filter (isT m)).length := by simp [truthsL]
  rw [hlx]
  refine WPJ.rangeHits (shH (Hi.length + 1) s1 s2 s3 s4) ((allT m).map fun t => [.agg ⟨tcells t.1 t.2⟩]) rfl EntC.ent (allTruths_hits m s1 s2 s3 s4 _ hV.few) (shH_ok hmb hbb) (shH_cap hmb hbb) (fun v hv => by cases hv)
    (fun v hv => by simp at hv; subst hv; exact .ptr (by simp [shH])) (shH_within hmb hbb) (fun x hx => by simp at hx; obtain ⟨_, _, _, rfl⟩ := hx; rfl)
    (fun ρ w hs hk x hx v hv l => by obtain ⟨t, _, rfl⟩ := List.mem_map.1 hx; simp at hv; subst hv; exact .agg fun v hv => .flat (List.all_eq_true.1 (tcells_flat _ _) v hv))
    (fun k H2 g2 => (∃ L, H2 = (Hi ++ [.row [.func (.yield yn) #[] #[]] 1 true, .row (ccells m s1 s2 s3 s4) 1 true]) ++ L ∧ OwnL L) ∧ J (((allT m).take k).filter (isT m)).length g2)
    (fun c H2 g2 => c = .ret ∧ (∃ L, H2 = (Hi ++ [.row [.func (.yield yn) #[] #[]] 1 true, .row (ccells m s1 s2 s3 s4) 1 true]) ++ L ∧ OwnL L) ∧ Jx g2)
    ⟨⟨[], by simp, .nil⟩, hJ0⟩ ?_ ?_ ?_ ?_
  · have hlt := shH_lt hmb (b := Hi.length + 1) (by simp)
    rintro H2 g2 h
    have hex : ∃ L, H2 = (Hi ++ [.row [.func (.yield yn) #[] #[]] 1 true, .row (ccells m s1 s2 s3 s4) 1 true]) ++ L ∧ OwnL L := by
      rcases h with ⟨k, h, _⟩ | ⟨c, _, h, _⟩ <;> exact h
    obtain ⟨L, rfl, hL⟩ := hex
    have := kept_of (L0 := []) hlt hL
    simpa using this
  · rintro k x Hc gc hx ⟨⟨L, hHc, hL⟩, hJ⟩
    rw [List.getElem?_map] at hx
    obtain ⟨t, hes0, rfl⟩ := Option.map_eq_some_iff.1 hx
    have hes : t ∈ allT m := List.mem_of_getElem? hes0
    have hstep := filter_step (isT m) hes0
    have hlen : Hi.length + 2 ≤ Hc.length := by rw [hHc]; simp
    have hmc : CopIs Hc m s1 s2 s3 s4 := cop_ext hmb hHc
    have hb0 : Hc[Hi.length]? = some (.row [.func (.yield yn) #[] #[]] 1 true) := by rw [hHc]; exact get_old (get_new0 rfl)
    have hb1 : Hc[b]? = some (.row (ccells m s1 s2 s3 s4) 1 false) := by rw [hHc]; exact get_old (get_old hbox)
    have hT := hV.tok t hes
    have htl : (tcells t.1 t.2).length = 6 := by simp [tcells, encE, hT.n]
    have htk : (tcells t.1 t.2).take 6 = tcells t.1 t.2 := List.take_of_length_le (by omega)
    have hto := tcells_ok t.1 t.2
    have hex : ∀ row : List Value, ∃ L', Hc ++ [.row row 1 true] = (Hi ++ [.row [.func (.yield yn) #[] #[]] 1 true, .row (ccells m s1 s2 s3 s4) 1 true]) ++ L' ∧ OwnL L' := fun row => ⟨L ++ [.row row 1 true], by rw [hHc]; simp, hL.append (.cons (.inr rfl) .nil)⟩
    have hxo : ∀ row : List Value, ExtOwn Hi (Hc ++ [.row row 1 true]) := fun row => by
      obtain ⟨L', h1, h2⟩ := hex row
      refine ⟨[.row [.func (.yield yn) #[] #[]] 1 true, .row (ccells m s1 s2 s3 s4) 1 true] ++ L', by rw [h1, List.append_assoc], ?_⟩
      exact OwnL.append (.cons (.inr rfl) (.cons (.inr rfl) .nil)) h2
    have hwork : ∀ (H' : AHeap) (g' : γ'), Ext Hc H' → CallJ Try.prog E' 77 [cv m s1 s2 s3 s4, .agg ⟨tcells t.1 t.2⟩] (fun v H2 g2 => v = .agg ⟨wcells m s1 s2 s3 s4 (arr5 (hrs m) (hotS m t.1 t.2)) (arr5 (hrs m) (leftS m t.1 t.2))⟩ ∧ H2 = H' ∧ g2 = g') H' g' := fun H' g' he => work_spec E' g' H' m s1 s2 s3 s4 t.1 t.2 (hmc.ext he).y hV.w hT
    have hright : ∀ (H' : AHeap) (g' : γ'), Ext Hc H' → CallJ Try.prog E' 118 [.agg ⟨wcells m s1 s2 s3 s4 (arr5 (hrs m) (hotS m t.1 t.2)) (arr5 (hrs m) (leftS m t.1 t.2))⟩] (fun v H2 g2 => v = .bool (isT m t) ∧ H2 = H' ∧ g2 = g') H' g' := fun H' g' he => areRight_spec E' g' H' m s1 s2 s3 s4 (arr5 (hrs m) (hotS m t.1 t.2)) (arr5 (hrs m) (leftS m t.1 t.2)) (hmc.ext he).y hV.rh (arr5_len _ _) (arr5_len _ _)
    have hyt : isT m t = true → ∀ g1, J (((allT m).take k).filter (isT m)).length g1 → CallV Try.prog E' (.func (.yield yn) #[] #[]) [.agg ⟨tcells t.1 t.2⟩] (fun v H2 g2 => H2 = Hc ++ [.row (tcells t.1 t.2) 1 true] ∧ (v = .bool true ∧ J ((((allT m).take k).filter (isT m)).length + 1) g2 ∨ v = .bool false ∧ Jx g2)) (Hc ++ [.row (tcells t.1 t.2) 1 true]) g1 := fun hp g1 hJ1 => by
      have hget := filter_get (isT m) (allT m) k t hes0 hp
      exact hy _ [tval t] (by rw [List.getElem?_map, truthsL, hget]; rfl) _ g1 (hxo _) hJ1
    generalize htc : tcells t.1 t.2 = tc at *
    generalize wcells m s1 s2 s3 s4 (arr5 (hrs m) (hotS m t.1 t.2)) (arr5 (hrs m) (leftS m t.1 t.2)) = ws at *
    simp only [putPs, List.set_cons_zero, List.set_cons_succ]
    repeat' (first
      | ((fail_if_success (first | refine is_ucall ?_ | refine is_umcall ?_)); first | refine W1 ?_ | refine Wc ?_ | refine W2c ?_ ?_ | refine Wg ?_ | refine W2 ?_ ?_ | exact Wdead | refine Wlive (fun hb => ?_) | intro _ _ _ _ _ _ _ _ | refine We ?_ | refine Wx ?_ | refine Wt ?_ | refine Wm ?_ | refine W2m ?_ ?_ | refine Wl ?_)
      | fail)
    refine st_callP (h := hwork _ _ extA) (k := ?_)
    refine OpsJ.normA ?_
    repeat' (first
      | ((fail_if_success (first | refine is_ucall ?_ | refine is_umcall ?_)); first | refine W1 ?_ | refine Wc ?_ | refine W2c ?_ ?_ | refine Wg ?_ | refine W2 ?_ ?_ | exact Wdead | refine Wlive (fun hb => ?_) | intro _ _ _ _ _ _ _ _ | refine We ?_ | refine Wx ?_ | refine Wt ?_ | refine Wm ?_ | refine W2m ?_ ?_ | refine Wl ?_)
      | fail)
    refine st_callP (h := hright _ _ extA) (k := ?_)
    cases hp : isT m t with
    | true =>
      rw [if_pos hp] at hstep
      refine OpsJ.normA ?_
      repeat' (first
        | ((fail_if_success (first | refine is_ucall ?_ | refine is_umcall ?_)); first | refine W1 ?_ | refine Wc ?_ | refine W2c ?_ ?_ | refine Wg ?_ | refine W2 ?_ ?_ | exact Wdead | refine Wlive (fun hb => ?_) | intro _ _ _ _ _ _ _ _ | refine We ?_ | refine Wx ?_ | refine Wt ?_ | refine Wm ?_ | refine W2m ?_ ?_ | refine Wl ?_)
        | fail)
      refine st_callV rfl rfl (hyt hp _ hJ) ?_
      rintro v H' g' ⟨rfl, ⟨rfl, h1⟩ | ⟨rfl, h1⟩⟩
      · skip
        refine OpsJ.normA ?_
        repeat' (first
          | ((fail_if_success (first | refine is_ucall ?_ | refine is_umcall ?_)); first | refine W1 ?_ | refine Wc ?_ | refine W2c ?_ ?_ | refine Wg ?_ | refine W2 ?_ ?_ | exact Wdead | refine Wlive (fun hb => ?_) | intro _ _ _ _ _ _ _ _ | refine We ?_ | refine Wx ?_ | refine Wt ?_ | refine Wm ?_ | refine W2m ?_ ?_ | refine Wl ?_)
          | fail)
        exact ⟨hex _, by rw [hstep]; exact h1⟩
      · skip
        refine OpsJ.normA ?_
        repeat' (first
          | ((fail_if_success (first | refine is_ucall ?_ | refine is_umcall ?_)); first | refine W1 ?_ | refine Wc ?_ | refine W2c ?_ ?_ | refine Wg ?_ | refine W2 ?_ ?_ | exact Wdead | refine Wlive (fun hb => ?_) | intro _ _ _ _ _ _ _ _ | refine We ?_ | refine Wx ?_ | refine Wt ?_ | refine Wm ?_ | refine W2m ?_ ?_ | refine Wl ?_)
          | fail)
        exact ⟨rfl, hex _, h1⟩
    | false =>
      rw [if_neg (by simp [hp])] at hstep
      refine OpsJ.normA ?_
      repeat' (first
        | ((fail_if_success (first | refine is_ucall ?_ | refine is_umcall ?_)); first | refine W1 ?_ | refine Wc ?_ | refine W2c ?_ ?_ | refine Wg ?_ | refine W2 ?_ ?_ | exact Wdead | refine Wlive (fun hb => ?_) | intro _ _ _ _ _ _ _ _ | refine We ?_ | refine Wx ?_ | refine Wt ?_ | refine Wm ?_ | refine W2m ?_ ?_ | refine Wl ?_)
        | fail)
      exact ⟨hex _, by rw [hstep]; exact hJ⟩
  · rintro Hc gc ⟨⟨L, rfl, hL⟩, hJ⟩
    repeat' (first
      | ((fail_if_success (first | refine is_ucall ?_ | refine is_umcall ?_)); first | refine W1 ?_ | refine Wc ?_ | refine W2c ?_ ?_ | refine Wg ?_ | refine W2 ?_ ?_ | exact Wdead | refine Wlive (fun hb => ?_) | intro _ _ _ _ _ _ _ _ | refine We ?_ | refine Wx ?_ | refine Wt ?_ | refine Wm ?_ | refine W2m ?_ ?_ | refine Wl ?_)
      | fail)
    rw [show (List.map (fun t => [Value.agg { toList := tcells t.1 t.2 }]) (allT m)).length = (allT m).length by simp, List.take_length] at hJ
    exact ⟨rfl, .inl hJ⟩
  · rintro c Hc gc ⟨rfl, ⟨L, rfl, hL⟩, hJ⟩
    repeat' (first
      | ((fail_if_success (first | refine is_ucall ?_ | refine is_umcall ?_)); first | refine W1 ?_ | refine Wc ?_ | refine W2c ?_ ?_ | refine Wg ?_ | refine W2 ?_ ?_ | exact Wdead | refine Wlive (fun hb => ?_) | intro _ _ _ _ _ _ _ _ | refine We ?_ | refine Wx ?_ | refine Wt ?_ | refine Wm ?_ | refine W2m ?_ ?_ | refine Wl ?_)
      | fail)
    exact ⟨rfl, .inr hJ⟩
end Go.Proofs.Ytjbiidlmpaibkaa
namespace Go.Proofs.Ytjbiidlmpaibkaa
open Go Go.Abs Go.Proofs
set_option maxHeartbeats 800000
attribute [local irreducible] CallJ OpsJ WPJ CallV MonoJ
theorem rng_mem {r : Int × Int} {x : Int} (h : x ∈ rng r) : r.1 ≤ x ∧ x ≤ r.2 := by
  unfold rng at h
  obtain ⟨k, hk, rfl⟩ := List.mem_map.1 h
  have := List.mem_range.1 hk
  omega
theorem gen_mem : ∀ {rs : List (Int × Int)} {s : List Int}, s ∈ gen rs → (∀ r ∈ rs, upTo r 99 = true) → ∀ x ∈ s, 0 ≤ x ∧ x ≤ 99
  | [], s, h, _ => by simp [gen] at h; subst h; intro x hx; cases hx
  | r :: rs, s, h, hb => by
    simp only [gen, List.mem_flatMap, List.mem_map] at h
    obtain ⟨n, hn, t, ht, rfl⟩ := h
    intro x hx
    rcases List.mem_cons.1 hx with rfl | hx
    · have h1 := rng_mem hn
      have h2 := hb r (by simp)
      simp only [upTo, Bool.and_eq_true, decide_eq_true_eq] at h2
      omega
    · exact gen_mem ht (fun r hr => hb r (by simp [hr])) x hx
theorem allT_mem {m : CopM} {t : Int × List Int} (h : t ∈ allT m) : t.1 ∈ rng (m.hlo, m.hhi) ∧ t.2 ∈ genA m.loss := by
  unfold allT at h
  obtain ⟨a, ha, hb⟩ := List.mem_flatMap.1 h
  obtain ⟨es, he, rfl⟩ := List.mem_map.1 hb
  exact ⟨ha, he⟩
theorem Good.valid {m : CopM} (hG : Good m) : Valid m := by
  have hhh := hG.hh
  simp only [upTo, Bool.and_eq_true, decide_eq_true_eq] at hhh
  have hl4 := hG.w.l4
  have hll := hG.ll
  refine ⟨⟨⟨by omega, fun r hr => ?_⟩, by omega⟩, hG.w, fun t ht => ?_, fun r hr => ?_⟩
  · have := hG.lb r hr
    simp only [upTo, Bool.and_eq_true, decide_eq_true_eq] at this
    omega
  · obtain ⟨h1, h2⟩ := allT_mem ht
    have h3 := rng_mem h1
    unfold genA at h2
    obtain ⟨s, hs, he⟩ := List.mem_map.1 h2
    have h5 := gen_elem_len _ _ hs
    refine ⟨by simp at h3; omega, fun x hx => ?_, by rw [← he]; simp; omega⟩
    rw [← he] at hx
    rcases List.mem_append.1 hx with hx | hx
    · exact gen_mem hs hG.lb x hx
    · have := List.mem_of_mem_drop hx
      simp at this; omega
  · have := hG.rd r hr
    simp only [isReadS, inR, Bool.and_eq_true, decide_eq_true_eq] at this
    omega
def IterIs (H : AHeap) (sh : List Nat) (fv : Value) (xs : List (Int × List Int)) : Prop := ∃ (gf : FuncId) (fx cx : List Value) (ok : AHeap → Prop), fv = .func (.func gf) ⟨fx⟩ ⟨cx⟩ ∧ Enters Try.prog gf ∧ Hits Try.prog gf fx cx ok (xs.map fun t => [tval t]) ∧ (∀ i ∈ sh, i < H.length) ∧ (∀ v ∈ fx, Within sh v) ∧ (∀ v ∈ cx, Within sh v) ∧
  ∀ H', Ext H H' → (∀ Hi, Viewed sh H' Hi → ok Hi) ∧ (∀ (ρ : Ren) (w : World), SRel ρ H' w → ∀ v', VRel ρ fv v' → ∀ i ∈ sh, ∃ m, ρ i = some m) ∧ (∀ i ∈ sh, ∀ c es own, H'[i]? = some (.row c es own) → ∀ v ∈ c, Within sh v)
theorem IterIs.ext {H H' : AHeap} {sh : List Nat} {fv : Value} {xs : List (Int × List Int)} (h : IterIs H sh fv xs) (he : Ext H H') : IterIs H' sh fv xs := by
  obtain ⟨gf, fx, cx, ok, h1, h2, h3, h4, h5, h6, h7⟩ := h
  exact ⟨gf, fx, cx, ok, h1, h2, h3, fun i hi => Nat.lt_of_lt_of_le (h4 i hi) he.len, h5, h6, fun H2 h => h7 H2 (he.trans h)⟩
theorem IterIs.lt {H : AHeap} {sh : List Nat} {fv : Value} {xs : List (Int × List Int)} (h : IterIs H sh fv xs) : ∀ i ∈ sh, i < H.length := by
  obtain ⟨gf, fx, cx, ok, h1, h2, h3, h4, _⟩ := h
  exact h4
theorem iter_truths {H : AHeap} {m : CopM} {s1 s2 s3 s4 : Value} {b : Nat} {own : Bool} (hm : CopIs H m s1 s2 s3 s4) (hV : Valid m) (hb : H[b]? = some (.row (ccells m s1 s2 s3 s4) 1 own)) : IterIs H (shH b s1 s2 s3 s4) (.func (.func 116) ⟨[]⟩ ⟨[.pointer (some ⟨b, 0, none⟩)]⟩) (truthsL m) :=
  ⟨_, [], _, OkH m s1 s2 s3 s4 b, rfl, EntC.ent, truths_hits m s1 s2 s3 s4 b hV, shH_lt hm (List.getElem?_eq_some_iff.1 hb).1, (fun v hv => by cases hv),
    (fun v hv => by simp at hv; subst hv; exact .ptr (by simp [shH])), fun H' he => ⟨shH_ok (hm.ext he) (he.get hb), shH_cap (hm.ext he) (he.get hb), shH_within (hm.ext he) (he.get hb)⟩⟩
theorem WPJ.iter {γ : Type} {E : Env γ} {gop : Operand} {p : Tmp} {assign body : Code} {Q : Exit → List Value → AHeap → γ → Prop} {T : List Value} {H0 H : AHeap} {g : γ} {sh : List Nat} {fv : Value} {xs : List (Int × List Int)} (hg : evalT T gop = fv) (hi : IterIs H0 sh fv xs) (he : Ext H0 H)
    (I : Nat → AHeap → γ → Prop) (Ix : Code → AHeap → γ → Prop) (h0 : I 0 H g) (hI : ∀ k H2 g2, I k H2 g2 → Kept sh H H2) (hIx : ∀ c H2 g2, Ix c H2 g2 → Kept sh H H2)
    (round : ∀ k t Hc gc, xs[k]? = some t → I k Hc gc → WPJ Try.prog E assign (thenQ (WPJ Try.prog E body (roundQ (I (k + 1)) Ix)) (fun _ _ _ _ => False)) (T.set p (tval t)) Hc gc)
    (done : ∀ Hc gc, I xs.length Hc gc → Q .normal T Hc gc) (stop : ∀ c Hc gc, Ix c Hc gc → WPJ Try.prog E c Q T Hc gc) : WPJ Try.prog E (.rangeFunc gop #[p] assign body) Q T H g := by
  obtain ⟨gf, fx, cx, ok, rfl, h2, h3, h4, h5, h6, h7⟩ := hi
  obtain ⟨k1, k2, k3⟩ := h7 H he
  refine WPJ.rangeHits sh (xs.map fun t => [tval t]) hg h2 h3 k1 k2 h5 h6 k3 (fun x hx => by obtain ⟨_, _, rfl⟩ := List.mem_map.1 hx; rfl)
    (fun ρ w hs hk x hx v hv l => by obtain ⟨t, _, rfl⟩ := List.mem_map.1 hx; simp at hv; subst hv; exact .agg fun v hv => .flat (List.all_eq_true.1 (tcells_flat _ _) v hv)) I Ix h0 ?_ ?_ ?_ stop
  · rintro H2 g2 (⟨k, h⟩ | ⟨c, h⟩)
    · exact hI k H2 g2 h
    · exact hIx c H2 g2 h
  · intro k x Hc gc hx hIk
    rw [List.getElem?_map] at hx
    obtain ⟨t, ht, rfl⟩ := Option.map_eq_some_iff.1 hx
    exact round k t Hc gc ht hIk
  · intro Hc gc h
    rw [List.length_map] at h
    exact done Hc gc h
def hasS (m : CopM) : Bool := !(truthsL m).isEmpty
theorem hasTruth_spec {γ : Type} (E : Env γ) (g : γ) (H : AHeap) (m : CopM) (s1 s2 s3 s4 : Value) (hm : CopIs H m s1 s2 s3 s4) (hV : Valid m) : CallJ Try.prog E 100 [cv m s1 s2 s3 s4] (fun v H' g' => v = .bool (hasS m) ∧ H' = H ∧ g' = g) H g := by
  have hok := hm.cells
  refine CallJ.tidy ?_
  unfold cv
  refine CallJ.enter Try.func100 rfl (by simp only [Try.ntmps100, List.length_cons, List.length_nil, Nat.zero_add, Nat.reduceSub, List.replicate_succ, List.replicate_zero, List.cons_append, List.nil_append]; rfl) ?_
  repeat' (first
    | ((fail_if_success (first | refine is_ucall ?_ | refine is_umcall ?_)); first | refine W1 ?_ | refine Wc ?_ | refine W2c ?_ ?_ | refine Wg ?_ | refine W2 ?_ ?_ | exact Wdead | refine Wlive (fun hb => ?_) | intro _ _ _ _ _ _ _ _ | refine We ?_ | refine Wx ?_ | refine Wt ?_ | refine Wm ?_ | refine W2m ?_ ?_ | refine Wl ?_)
    | fail)
  refine st_call rfl (truths_spec E g _ m s1 s2 s3 s4 hok) ?_
  rintro _ _ g ⟨rfl, rfl, rfl⟩
  refine OpsJ.normA ?_
  repeat' (first
    | ((fail_if_success (first | refine is_ucall ?_ | refine is_umcall ?_)); first | refine W1 ?_ | refine Wc ?_ | refine W2c ?_ ?_ | refine Wg ?_ | refine W2 ?_ ?_ | exact Wdead | refine Wlive (fun hb => ?_) | intro _ _ _ _ _ _ _ _ | refine We ?_ | refine Wx ?_ | refine Wt ?_ | refine Wm ?_ | refine W2m ?_ ?_ | refine Wl ?_)
    | fail)
  have hmx : CopIs (H ++ [.row (ccells m s1 s2 s3 s4) 1 true, .row [.bool false] 1 true, .row (ccells m s1 s2 s3 s4) 1 true]) m s1 s2 s3 s4 := hm.ext ⟨_, rfl⟩
  refine WPJ.iter rfl (iter_truths (b := H.length + 2) hmx hV getA) (Ext.refl _) (fun k H2 g2 => k = 0 ∧ H2 = H ++ [.row (ccells m s1 s2 s3 s4) 1 true, .row [.bool false] 1 true, .row (ccells m s1 s2 s3 s4) 1 true] ∧ g2 = g)
    (fun c H2 g2 => c = .ret ∧ (truthsL m).isEmpty = false ∧ H2 = H ++ [.row (ccells m s1 s2 s3 s4) 1 true, .row [.bool true] 1 true, .row (ccells m s1 s2 s3 s4) 1 true] ∧ g2 = g) ⟨rfl, rfl, rfl⟩ ?_ ?_ ?_ ?_ ?_
  · rintro k H2 g2 ⟨rfl, rfl, rfl⟩
    exact Kept.refl _ _
  · rintro c H2 g2 ⟨rfl, _, rfl, rfl⟩
    have := Kept.set (o := .row [.bool true] 1 true) (Kept.refl (shH (H.length + 2) s1 s2 s3 s4) (H ++ [.row (ccells m s1 s2 s3 s4) 1 true, .row [.bool false] 1 true, .row (ccells m s1 s2 s3 s4) 1 true])) (shH_not hm (j := H.length + 1) (by omega) (by omega)) rfl
    simpa [set_new] using this
  · rintro k t Hc gc ht ⟨rfl, rfl, rfl⟩
    repeat' (first
      | ((fail_if_success (first | refine is_ucall ?_ | refine is_umcall ?_)); first | refine W1 ?_ | refine Wc ?_ | refine W2c ?_ ?_ | refine Wg ?_ | refine W2 ?_ ?_ | exact Wdead | refine Wlive (fun hb => ?_) | intro _ _ _ _ _ _ _ _ | refine We ?_ | refine Wx ?_ | refine Wt ?_ | refine Wm ?_ | refine W2m ?_ ?_ | refine Wl ?_)
      | fail)
    refine ⟨rfl, ?_, rfl, rfl⟩
    cases h : truthsL m with
    | nil => rw [h] at ht; simp at ht
    | cons => rfl
  · rintro Hc gc ⟨h, rfl, rfl⟩
    repeat' (first
      | ((fail_if_success (first | refine is_ucall ?_ | refine is_umcall ?_)); first | refine W1 ?_ | refine Wc ?_ | refine W2c ?_ ?_ | refine Wg ?_ | refine W2 ?_ ?_ | exact Wdead | refine Wlive (fun hb => ?_) | intro _ _ _ _ _ _ _ _ | refine We ?_ | refine Wx ?_ | refine Wt ?_ | refine Wm ?_ | refine W2m ?_ ?_ | refine Wl ?_)
      | fail)
    exact ⟨by simp [hasS, List.length_eq_zero_iff.1 h], rfl, rfl⟩
  · rintro c Hc gc ⟨rfl, h, rfl, rfl⟩
    repeat' (first
      | ((fail_if_success (first | refine is_ucall ?_ | refine is_umcall ?_)); first | refine W1 ?_ | refine Wc ?_ | refine W2c ?_ ?_ | refine Wg ?_ | refine W2 ?_ ?_ | exact Wdead | refine Wlive (fun hb => ?_) | intro _ _ _ _ _ _ _ _ | refine We ?_ | refine Wx ?_ | refine Wt ?_ | refine Wm ?_ | refine W2m ?_ ?_ | refine Wl ?_)
      | fail)
    exact ⟨by simp [hasS, h], rfl, rfl⟩
end Go.Proofs.Ytjbiidlmpaibkaa
namespace Go.Proofs.Ytjbiidlmpaibkaa
open Go Go.Abs Go.Proofs
set_option maxHeartbeats 800000
attribute [local irreducible] CallJ OpsJ WPJ CallV MonoJ
theorem heap_same {l : AHeap} {n : Nat} {v : AObj} (h : l[n]? = some v) : l.set n v = l := by
  apply List.ext_getElem?
  intro i
  rw [List.getElem?_set]
  split
  · rename_i e; subst e
    rw [if_pos (List.getElem?_eq_some_iff.1 h).1, h]
  · rfl
def verdictS (l : List (Int × List Int)) (p : Int × List Int → Bool) : Int := if l.all p then 1 else if l.any p then 3 else 2
def checkT (m : CopM) : Int := if checkS m = 0 then (if hasS m then 0 else 11) else checkS m
section
variable {γ : Type} (E : Env γ) (g : γ) (H : AHeap)
theorem checkTruth_spec (m : CopM) (s1 s2 s3 s4 : Value) (hm : CopIs H m s1 s2 s3 s4) : CallJ Try.prog E 87 [cv m s1 s2 s3 s4] (fun v H' g' => v = .int .i64 (checkT m) ∧ H' = H ∧ g' = g) H g := by
  have hok := hm.cells
  refine CallJ.tidy ?_
  unfold cv
  refine CallJ.enter Try.func87 rfl (by simp only [Try.ntmps87, List.length_cons, List.length_nil, Nat.zero_add, Nat.reduceSub, List.replicate_succ, List.replicate_zero, List.cons_append, List.nil_append]; rfl) ?_
  repeat' (first
    | (refine is_ucall ?_; first
      | refine st_callP (h := CheckCopper_spec _ _ _ m s1 s2 s3 s4 (hm.ext extA)) (k := ?_)
      | refine st_callP (h := hasTruth_spec _ _ _ m s1 s2 s3 s4 (hm.ext extA) (good_of (by assumption)).valid) (k := ?_)
      | fail)
    | (refine is_umcall ?_; first
      | refine mj_callP (h := CheckCopper_spec _ _ _ m s1 s2 s3 s4 (hm.ext extA)) (k := ?_)
      | refine mj_callP (h := hasTruth_spec _ _ _ m s1 s2 s3 s4 (hm.ext extA) (good_of (by assumption)).valid) (k := ?_)
      | fail)
    | ((fail_if_success (first | refine is_ucall ?_ | refine is_umcall ?_)); first | refine W1 ?_ | refine Wc ?_ | refine W2c ?_ ?_ | refine Wg ?_ | refine W2 ?_ ?_ | exact Wdead | refine Wlive (fun hb => ?_) | intro _ _ _ _ _ _ _ _ | refine We ?_ | refine Wx ?_ | refine Wt ?_ | refine Wm ?_ | refine W2m ?_ ?_ | refine Wl ?_)
    | fail)
  all_goals refine ⟨?_, rfl, rfl⟩
  all_goals (simp only [checkT]; simp [*])
def keptT (m : CopM) (t : Int × List Int) : Bool := areKeptS m (arr5 (hrs m) (hotS m t.1 t.2)) (hrs m)
theorem all_false {α : Type} {p : α → Bool} {l : List α} {k : Nat} {x : α} (h : l[k]? = some x) (hp : p x = false) : l.all p = false := List.all_eq_false.2 ⟨x, List.mem_of_getElem? h, by simp [hp]⟩
theorem areAlways_spec (m : CopM) (s1 s2 s3 s4 fv : Value) (sh : List Nat) (xs : List (Int × List Int)) (hm : CopY H m s1 s2 s3 s4) (hW : WOk m) (hi : IterIs H sh fv xs) (hT : ∀ t ∈ xs, TOk t.1 t.2) :
    CallJ Try.prog E 104 [cv m s1 s2 s3 s4, fv] (fun v H' g' => v = .bool (xs.all (keptT m)) ∧ H' = H ∧ g' = g) H g := by
  have hok := hm.cells
  have hfo : ∃ a b c, fv = .func a b c := by
    obtain ⟨gf, fx, cx, ok, rfl, _⟩ := hi; exact ⟨_, _, _, rfl⟩
  obtain ⟨fa, fb, fc, rfl⟩ := hfo
  have hlt := hi.lt
  refine CallJ.tidy ?_
  unfold cv
  refine CallJ.enter Try.func104 rfl (by simp only [Try.ntmps104, List.length_cons, List.length_nil, Nat.zero_add, Nat.reduceAdd, Nat.reduceSub, List.replicate_succ, List.replicate_zero, List.cons_append, List.nil_append]; rfl) ?_
  repeat' (first
    | ((fail_if_success (first | refine is_ucall ?_ | refine is_umcall ?_)); first | refine W1 ?_ | refine Wc ?_ | refine W2c ?_ ?_ | refine Wg ?_ | refine W2 ?_ ?_ | exact Wdead | refine Wlive (fun hb => ?_) | intro _ _ _ _ _ _ _ _ | refine We ?_ | refine Wx ?_ | refine Wt ?_ | refine Wm ?_ | refine W2m ?_ ?_ | refine Wl ?_)
    | fail)
  refine WPJ.iter rfl hi extA (fun k H2 g2 => g2 = g ∧ (∃ L, H2 = (H ++ [.row (ccells m s1 s2 s3 s4) 1 true, .row [.bool false] 1 true]) ++ L ∧ OwnL L) ∧ (xs.take k).all (keptT m) = true)
    (fun c H2 g2 => c = .ret ∧ g2 = g ∧ (∃ L, H2 = (H ++ [.row (ccells m s1 s2 s3 s4) 1 true, .row [.bool false] 1 true]) ++ L ∧ OwnL L) ∧ xs.all (keptT m) = false) ⟨rfl, ⟨[], by simp, .nil⟩, by simp⟩ ?_ ?_ ?_ ?_ ?_
  · rintro k H2 g2 ⟨rfl, ⟨L, rfl, hL⟩, _⟩
    exact Kept.app (Kept.refl _ _) hL
  · rintro c H2 g2 ⟨rfl, rfl, ⟨L, rfl, hL⟩, _⟩
    exact Kept.app (Kept.refl _ _) hL
  · rintro k t Hc gc ht ⟨rfl, ⟨L, hHc, hL⟩, hx⟩
    have hTt := hT t (List.mem_of_getElem? ht)
    have hxc : Ext H Hc := ⟨[.row (ccells m s1 s2 s3 s4) 1 true, .row [.bool false] 1 true] ++ L, by rw [hHc, List.append_assoc]⟩
    have hb0 : Hc[H.length]? = some (.row (ccells m s1 s2 s3 s4) 1 true) := by rw [hHc]; exact get_old (get_new0 rfl)
    have hb1 : Hc[H.length + 1]? = some (.row [.bool false] 1 true) := by rw [hHc]; exact get_old (get_new rfl)
    have hlen : H.length + 2 ≤ Hc.length := by rw [hHc]; simp
    have hst := all_step (keptT m) ht
    have hfl := all_false (p := keptT m) ht
    have htl : (tcells t.1 t.2).length = 6 := by simp [tcells, encE, hTt.n]
    have htk : (tcells t.1 t.2).take 6 = tcells t.1 t.2 := List.take_of_length_le (by omega)
    have hto := tcells_ok t.1 t.2
    have hex : ∀ row : List Value, ∃ L', Hc ++ [.row row 1 true] = (H ++ [.row (ccells m s1 s2 s3 s4) 1 true, .row [.bool false] 1 true]) ++ L' ∧ OwnL L' := fun row => ⟨L ++ [.row row 1 true], by rw [hHc]; simp, hL.append (.cons (.inr rfl) .nil)⟩
    have hwork : ∀ (H' : AHeap) (g' : γ), Ext H H' → CallJ Try.prog E 77 [cv m s1 s2 s3 s4, .agg ⟨tcells t.1 t.2⟩] (fun v H2 g2 => v = .agg ⟨wcells m s1 s2 s3 s4 (arr5 (hrs m) (hotS m t.1 t.2)) (arr5 (hrs m) (leftS m t.1 t.2))⟩ ∧ H2 = H' ∧ g2 = g') H' g' := fun H' g' he => work_spec E g' H' m s1 s2 s3 s4 t.1 t.2 (hm.ext he) hW hTt
    have hkept : ∀ (H' : AHeap) (g' : γ), Ext H H' → CallJ Try.prog E 102 [.agg ⟨wcells m s1 s2 s3 s4 (arr5 (hrs m) (hotS m t.1 t.2)) (arr5 (hrs m) (leftS m t.1 t.2))⟩] (fun v H2 g2 => v = .bool (keptT m t) ∧ H2 = H' ∧ g2 = g') H' g' := fun H' g' he => areKept_spec E g' H' m s1 s2 s3 s4 (arr5 (hrs m) (hotS m t.1 t.2)) (arr5 (hrs m) (leftS m t.1 t.2)) (hm.ext he) hW (arr5_len _ _) (arr5_len _ _)
    unfold tval
    generalize tcells t.1 t.2 = tc at *
    generalize wcells m s1 s2 s3 s4 (arr5 (hrs m) (hotS m t.1 t.2)) (arr5 (hrs m) (leftS m t.1 t.2)) = ws at *
    repeat' (first
      | ((fail_if_success (first | refine is_ucall ?_ | refine is_umcall ?_)); first | refine W1 ?_ | refine Wc ?_ | refine W2c ?_ ?_ | refine Wg ?_ | refine W2 ?_ ?_ | exact Wdead | refine Wlive (fun hb => ?_) | intro _ _ _ _ _ _ _ _ | refine We ?_ | refine Wx ?_ | refine Wt ?_ | refine Wm ?_ | refine W2m ?_ ?_ | refine Wl ?_)
      | fail)
    refine st_callP (h := hwork _ _ extA) (k := ?_)
    refine OpsJ.normA ?_
    repeat' (first
      | ((fail_if_success (first | refine is_ucall ?_ | refine is_umcall ?_)); first | refine W1 ?_ | refine Wc ?_ | refine W2c ?_ ?_ | refine Wg ?_ | refine W2 ?_ ?_ | exact Wdead | refine Wlive (fun hb => ?_) | intro _ _ _ _ _ _ _ _ | refine We ?_ | refine Wx ?_ | refine Wt ?_ | refine Wm ?_ | refine W2m ?_ ?_ | refine Wl ?_)
      | fail)
    refine st_callP (h := hkept _ _ extA) (k := ?_)
    cases hp : keptT m t with
    | true =>
      refine OpsJ.normA ?_
      repeat' (first
        | ((fail_if_success (first | refine is_ucall ?_ | refine is_umcall ?_)); first | refine W1 ?_ | refine Wc ?_ | refine W2c ?_ ?_ | refine Wg ?_ | refine W2 ?_ ?_ | exact Wdead | refine Wlive (fun hb => ?_) | intro _ _ _ _ _ _ _ _ | refine We ?_ | refine Wx ?_ | refine Wt ?_ | refine Wm ?_ | refine W2m ?_ ?_ | refine Wl ?_)
        | fail)
      exact ⟨rfl, hex _, by rw [hst, hx, hp]; rfl⟩
    | false =>
      refine OpsJ.normA ?_
      repeat' (first
        | ((fail_if_success (first | refine is_ucall ?_ | refine is_umcall ?_)); first | refine W1 ?_ | refine Wc ?_ | refine W2c ?_ ?_ | refine Wg ?_ | refine W2 ?_ ?_ | exact Wdead | refine Wlive (fun hb => ?_) | intro _ _ _ _ _ _ _ _ | refine We ?_ | refine Wx ?_ | refine Wt ?_ | refine Wm ?_ | refine W2m ?_ ?_ | refine Wl ?_)
        | fail)
      rw [heap_same (get_old hb1)]
      exact ⟨rfl, rfl, hex _, hfl hp⟩
  · rintro Hc gc ⟨rfl, ⟨L, hHc, hL⟩, hx⟩
    have hxc : Ext H Hc := ⟨[.row (ccells m s1 s2 s3 s4) 1 true, .row [.bool false] 1 true] ++ L, by rw [hHc, List.append_assoc]⟩
    have hb1 : Hc[H.length + 1]? = some (.row [.bool false] 1 true) := by rw [hHc]; exact get_old (get_new rfl)
    rw [List.take_length] at hx
    repeat' (first
      | ((fail_if_success (first | refine is_ucall ?_ | refine is_umcall ?_)); first | refine W1 ?_ | refine Wc ?_ | refine W2c ?_ ?_ | refine Wg ?_ | refine W2 ?_ ?_ | exact Wdead | refine Wlive (fun hb => ?_) | intro _ _ _ _ _ _ _ _ | refine We ?_ | refine Wx ?_ | refine Wt ?_ | refine Wm ?_ | refine W2m ?_ ?_ | refine Wl ?_)
      | fail)
    exact ⟨by rw [hx], rfl, rfl⟩
  · rintro c Hc gc ⟨rfl, rfl, ⟨L, hHc, hL⟩, hx⟩
    have hxc : Ext H Hc := ⟨[.row (ccells m s1 s2 s3 s4) 1 true, .row [.bool false] 1 true] ++ L, by rw [hHc, List.append_assoc]⟩
    have hb1 : Hc[H.length + 1]? = some (.row [.bool false] 1 true) := by rw [hHc]; exact get_old (get_new rfl)
    repeat' (first
      | ((fail_if_success (first | refine is_ucall ?_ | refine is_umcall ?_)); first | refine W1 ?_ | refine Wc ?_ | refine W2c ?_ ?_ | refine Wg ?_ | refine W2 ?_ ?_ | exact Wdead | refine Wlive (fun hb => ?_) | intro _ _ _ _ _ _ _ _ | refine We ?_ | refine Wx ?_ | refine Wt ?_ | refine Wm ?_ | refine W2m ?_ ?_ | refine Wl ?_)
      | fail)
    exact ⟨by rw [hx], rfl, rfl⟩
theorem verdict_spec (m : CopM) (s1 s2 s3 s4 fv : Value) (sh : List Nat) (xs : List (Int × List Int)) (ff : Fn) (fx fc : List Value) (p : Int × List Int → Bool) (hm : CopY H m s1 s2 s3 s4) (hW : WOk m) (hi : IterIs H sh fv xs) (hT : ∀ t ∈ xs, TOk t.1 t.2)
    (hf : ∀ t ∈ xs, ∀ H', Ext H H' → CallV Try.prog trivE (.func ff ⟨fx⟩ ⟨fc⟩) [.agg ⟨wcells m s1 s2 s3 s4 (arr5 (hrs m) (hotS m t.1 t.2)) (arr5 (hrs m) (leftS m t.1 t.2))⟩] (fun v H2 g' => v = .bool (p t) ∧ H2 = H' ∧ g' = ()) H' ()) :
    CallJ Try.prog E 94 [cv m s1 s2 s3 s4, fv, .func ff ⟨fx⟩ ⟨fc⟩] (fun v H' g' => v = .int .i64 (verdictS xs p) ∧ H' = H ∧ g' = g) H g := by
  have hok := hm.cells
  have hfo : ∃ a b c, fv = .func a b c := by
    obtain ⟨gf, fx, cx, ok, rfl, _⟩ := hi; exact ⟨_, _, _, rfl⟩
  obtain ⟨fa, fb, fc', rfl⟩ := hfo
  have hlt := hi.lt
  refine CallJ.tidy ?_
  unfold cv
  refine CallJ.enter Try.func94 rfl (by simp only [Try.ntmps94, List.length_cons, List.length_nil, Nat.zero_add, Nat.reduceAdd, Nat.reduceSub, List.replicate_succ, List.replicate_zero, List.cons_append, List.nil_append]; rfl) ?_
  repeat' (first
    | ((fail_if_success (first | refine is_ucall ?_ | refine is_umcall ?_)); first | refine W1 ?_ | refine Wc ?_ | refine W2c ?_ ?_ | refine Wg ?_ | refine W2 ?_ ?_ | exact Wdead | refine Wlive (fun hb => ?_) | intro _ _ _ _ _ _ _ _ | refine We ?_ | refine Wx ?_ | refine Wt ?_ | refine Wm ?_ | refine W2m ?_ ?_ | refine Wl ?_)
    | fail)
  refine WPJ.iter rfl hi extA (fun k H2 g2 => g2 = g ∧ Kept sh (H ++ [.row (ccells m s1 s2 s3 s4) 1 true, .row [.func ff ⟨fx⟩ ⟨fc⟩] 1 true, .row [.bool true] 1 true, .row [.bool false] 1 true]) H2 ∧ Ext H H2 ∧ H2[H.length]? = some (.row (ccells m s1 s2 s3 s4) 1 true) ∧ H2[H.length + 1]? = some (.row [.func ff ⟨fx⟩ ⟨fc⟩] 1 true) ∧ H2[H.length + 2]? = some (.row [.bool ((xs.take k).all p)] 1 true) ∧ H2[H.length + 3]? = some (.row [.bool ((xs.take k).any p)] 1 true) ∧ H.length + 3 < H2.length)
    (fun c H2 g2 => False) ⟨rfl, Kept.refl _ _, extA, getA, getA, getA, getA, by simp⟩ (fun k H2 g2 h => h.2.1) (fun c H2 g2 h => h.elim) ?_ ?_ (fun _ _ _ h => h.elim)
  · rintro k t Hc gc ht ⟨rfl, hk, he, hb0, hb1, hb2, hb3, hlen⟩
    have hTt := hT t (List.mem_of_getElem? ht)
    have h1 := all_step p ht
    have h2 := any_step p ht
    have htl : (tcells t.1 t.2).length = 6 := by simp [tcells, encE, hTt.n]
    have htk : (tcells t.1 t.2).take 6 = tcells t.1 t.2 := List.take_of_length_le (by omega)
    have hto := tcells_ok t.1 t.2
    have hwork : ∀ (H' : AHeap) (g' : Unit), Ext H H' → CallJ Try.prog trivE 77 [cv m s1 s2 s3 s4, .agg ⟨tcells t.1 t.2⟩] (fun v H2 g2 => v = .agg ⟨wcells m s1 s2 s3 s4 (arr5 (hrs m) (hotS m t.1 t.2)) (arr5 (hrs m) (leftS m t.1 t.2))⟩ ∧ H2 = H' ∧ g2 = g') H' g' := fun H' g' he => work_spec trivE g' H' m s1 s2 s3 s4 t.1 t.2 (hm.ext he) hW hTt
    have hpt := hf t (List.mem_of_getElem? ht)
    unfold tval
    generalize tcells t.1 t.2 = tc at *
    generalize wcells m s1 s2 s3 s4 (arr5 (hrs m) (hotS m t.1 t.2)) (arr5 (hrs m) (leftS m t.1 t.2)) = ws at *
    generalize (xs.take k).all p = b1 at *
    generalize (xs.take k).any p = b2 at *
    repeat' (first
      | ((fail_if_success (first | refine is_ucall ?_ | refine is_umcall ?_)); first | refine W1 ?_ | refine Wc ?_ | refine W2c ?_ ?_ | refine Wg ?_ | refine W2 ?_ ?_ | exact Wdead | refine Wlive (fun hb => ?_) | intro _ _ _ _ _ _ _ _ | refine We ?_ | refine Wx ?_ | refine Wt ?_ | refine Wm ?_ | refine W2m ?_ ?_ | refine Wl ?_)
      | fail)
    refine WPJ.draw 5 mixed (by kernel_rfl) (by kernel_rfl) (by kernel_rfl) (by decide) ?_
    refine MonoJ.normA ?_
    repeat' (first
      | ((fail_if_success (first | refine is_ucall ?_ | refine is_umcall ?_)); first | refine W1 ?_ | refine Wc ?_ | refine W2c ?_ ?_ | refine Wg ?_ | refine W2 ?_ ?_ | exact Wdead | refine Wlive (fun hb => ?_) | intro _ _ _ _ _ _ _ _ | refine We ?_ | refine Wx ?_ | refine Wt ?_ | refine Wm ?_ | refine W2m ?_ ?_ | refine Wl ?_)
      | fail)
    refine mj_callP (h := hwork _ _ extA) (k := ?_)
    refine MonoJ.normA ?_
    repeat' (first
      | ((fail_if_success (first | refine is_ucall ?_ | refine is_umcall ?_)); first | refine W1 ?_ | refine Wc ?_ | refine W2c ?_ ?_ | refine Wg ?_ | refine W2 ?_ ?_ | exact Wdead | refine Wlive (fun hb => ?_) | intro _ _ _ _ _ _ _ _ | refine We ?_ | refine Wx ?_ | refine Wt ?_ | refine Wm ?_ | refine W2m ?_ ?_ | refine Wl ?_)
      | fail)
    refine mj_callVP (h := hpt _ extA) (k := ?_)
    generalize p t = pt at *
    refine MonoJ.normA ?_
    repeat' (first
      | ((fail_if_success (first | refine is_ucall ?_ | refine is_umcall ?_)); first | refine W1 ?_ | refine Wc ?_ | refine W2c ?_ ?_ | refine Wg ?_ | refine W2 ?_ ?_ | exact Wdead | refine Wlive (fun hb => ?_) | intro _ _ _ _ _ _ _ _ | refine We ?_ | refine Wx ?_ | refine Wt ?_ | refine Wm ?_ | refine W2m ?_ ?_ | refine Wl ?_)
      | fail)
    all_goals refine ⟨rfl, Kept.set (Kept.set (Kept.app hk (.cons (.inr rfl) .nil)) (fun h => by have := hlt _ h; omega) rfl) (fun h => by have := hlt _ h; omega) rfl, extA, getA, getA, ?_, ?_, by simp; omega⟩
    all_goals first | rw [h1] | rw [h2]
    all_goals (cases b1 <;> cases b2 <;> first | contradiction | exact getA)
  · rintro Hc gc ⟨rfl, hk, he, hb0, hb1, hb2, hb3, hlen⟩
    rw [List.take_length] at hb2 hb3
    unfold verdictS
    cases h1 : xs.all p with
    | true =>
      rw [h1] at hb2
      repeat' (first
        | ((fail_if_success (first | refine is_ucall ?_ | refine is_umcall ?_)); first | refine W1 ?_ | refine Wc ?_ | refine W2c ?_ ?_ | refine Wg ?_ | refine W2 ?_ ?_ | exact Wdead | refine Wlive (fun hb => ?_) | intro _ _ _ _ _ _ _ _ | refine We ?_ | refine Wx ?_ | refine Wt ?_ | refine Wm ?_ | refine W2m ?_ ?_ | refine Wl ?_)
        | fail)
      all_goals exact ⟨rfl, rfl, rfl⟩
    | false =>
      rw [h1] at hb2
      cases h2 : xs.any p with
      | true =>
        rw [h2] at hb3
        repeat' (first
          | ((fail_if_success (first | refine is_ucall ?_ | refine is_umcall ?_)); first | refine W1 ?_ | refine Wc ?_ | refine W2c ?_ ?_ | refine Wg ?_ | refine W2 ?_ ?_ | exact Wdead | refine Wlive (fun hb => ?_) | intro _ _ _ _ _ _ _ _ | refine We ?_ | refine Wx ?_ | refine Wt ?_ | refine Wm ?_ | refine W2m ?_ ?_ | refine Wl ?_)
          | fail)
        all_goals exact ⟨rfl, rfl, rfl⟩
      | false =>
        rw [h2] at hb3
        repeat' (first
          | ((fail_if_success (first | refine is_ucall ?_ | refine is_umcall ?_)); first | refine W1 ?_ | refine Wc ?_ | refine W2c ?_ ?_ | refine Wg ?_ | refine W2 ?_ ?_ | exact Wdead | refine Wlive (fun hb => ?_) | intro _ _ _ _ _ _ _ _ | refine We ?_ | refine Wx ?_ | refine Wt ?_ | refine Wm ?_ | refine W2m ?_ ?_ | refine Wl ?_)
          | fail)
        all_goals exact ⟨rfl, rfl, rfl⟩
end
end Go.Proofs.Ytjbiidlmpaibkaa
namespace Go.Proofs.Ytjbiidlmpaibkaa
open Go Go.Abs Go.Proofs
set_option maxHeartbeats 800000
attribute [local irreducible] CallJ OpsJ WPJ CallV MonoJ
theorem set_mid {l : List Int} {j : Nat} {z : List Int} (h : j < l.length) (hz : j < z.length) : (l.take j ++ z.drop j).set j l[j] = l.take (j + 1) ++ z.drop (j + 1) := by
  rw [List.set_append_right _ _ (by simp; omega)]
  have e : j - (l.take j).length = 0 := by simp; omega
  rw [e, List.drop_eq_getElem_cons hz, List.set_cons_zero, List.take_succ_eq_append_getElem h, List.append_assoc]
  rfl
def IntsA (H : AHeap) (e : Int) (l : List Int) (v : Value) (H' : AHeap) : Prop := if e = 0 then v = .tuple #[.slice (some ⟨H.length, 0, none⟩) l.length l.length, .int .i64 0] ∧ H' = H ++ [.row (encE l) 1 true] else v = .tuple #[.slice none 0 0, .int .i64 e] ∧ H' = H
def keepQ (m : CopM) (j : Nat) (t : Int × List Int) : Bool := decide (m.want.getD j 0 ≤ hotS m t.1 t.2 j)
def keepsL (m : CopM) : List Int := (List.range (hrs m)).map fun j => verdictS (truthsL m) (keepQ m j)
theorem truths_tok {m : CopM} (hV : Valid m) : ∀ t ∈ truthsL m, TOk t.1 t.2 := fun t ht => hV.tok t (List.mem_filter.1 ht).1
theorem checkT_zero {m : CopM} (h : checkT m = 0) : checkS m = 0 := by
  unfold checkT at h
  split at h
  · assumption
  · exact absurd h (by assumption)
section
variable {γ : Type} (E : Env γ) (g : γ) (H : AHeap)
theorem keeps_V (m : CopM) (s1 s2 s3 s4 : Value) (hm : CopY H m s1 s2 s3 s4) (hW : WOk m) (j i : Nat) (hj : j < hrs m) (hi : H[i]? = some (.row [.int .i64 j] 1 true)) (t : Int × List Int) :
    CallV Try.prog E (.func (.func 95) ⟨[]⟩ ⟨[.pointer (some ⟨i, 0, none⟩)]⟩) [.agg ⟨wcells m s1 s2 s3 s4 (arr5 (hrs m) (hotS m t.1 t.2)) (arr5 (hrs m) (leftS m t.1 t.2))⟩] (fun v H2 g' => v = .bool (keepQ m j t) ∧ H2 = H ∧ g' = g) H g := by
  refine CallV.of_func EntC.ent ?_
  have hn5 := (hrs_le hW).1
  have hwl := wcells_len m s1 s2 s3 s4 (arr5_len (hrs m) (hotS m t.1 t.2)) (arr5_len (hrs m) (leftS m t.1 t.2))
  have hwo := wcells_ok (arr5 (hrs m) (hotS m t.1 t.2)) (arr5 (hrs m) (leftS m t.1 t.2)) hm.cells
  have htk : (wcells m s1 s2 s3 s4 (arr5 (hrs m) (hotS m t.1 t.2)) (arr5 (hrs m) (leftS m t.1 t.2))).take 21 = wcells m s1 s2 s3 s4 (arr5 (hrs m) (hotS m t.1 t.2)) (arr5 (hrs m) (leftS m t.1 t.2)) := List.take_of_length_le (by omega)
  have hwj : j < m.want.length := by rw [hW.wl]; exact hj
  have hgw : m.want.getD j 0 = m.want[j] := by simp [List.getD, hwj]
  have hK : ∀ (H' : AHeap), Ext H H' → CallJ Try.prog E 96 [.agg ⟨wcells m s1 s2 s3 s4 (arr5 (hrs m) (hotS m t.1 t.2)) (arr5 (hrs m) (leftS m t.1 t.2))⟩, .int .i64 j] (fun v H2 g' => v = .bool (keepQ m j t) ∧ H2 = H' ∧ g' = g) H' g := fun H' he => by
    have := isKept_spec E g H' m s1 s2 s3 s4 (arr5 (hrs m) (hotS m t.1 t.2)) (arr5 (hrs m) (leftS m t.1 t.2)) j (hotS m t.1 t.2 j) m.want[j] (hm.ext he) (arr5_len _ _) (arr5_len _ _) (by omega) (arr5_get (by omega) (by omega)) (by simp [hwj])
    unfold keepQ; rw [hgw]; exact this
  generalize wcells m s1 s2 s3 s4 (arr5 (hrs m) (hotS m t.1 t.2)) (arr5 (hrs m) (leftS m t.1 t.2)) = ws at *
  refine CallJ.tidy ?_
  refine CallJ.enter Try.func95 rfl (by simp only [Try.ntmps95, List.length_cons, List.length_nil, Nat.zero_add, Nat.reduceAdd, Nat.reduceSub, List.replicate_succ, List.replicate_zero, List.cons_append, List.nil_append]; rfl) ?_
  repeat' (first
    | ((fail_if_success (first | refine is_ucall ?_ | refine is_umcall ?_)); first | refine W1 ?_ | refine Wc ?_ | refine W2c ?_ ?_ | refine Wg ?_ | refine W2 ?_ ?_ | exact Wdead | refine Wlive (fun hb => ?_) | intro _ _ _ _ _ _ _ _ | refine We ?_ | refine Wx ?_ | refine Wt ?_ | refine Wm ?_ | refine W2m ?_ ?_ | refine Wl ?_)
    | fail)
  refine st_callP (h := hK _ extA) (k := ?_)
  refine OpsJ.normA ?_
  repeat' (first
    | ((fail_if_success (first | refine is_ucall ?_ | refine is_umcall ?_)); first | refine W1 ?_ | refine Wc ?_ | refine W2c ?_ ?_ | refine Wg ?_ | refine W2 ?_ ?_ | exact Wdead | refine Wlive (fun hb => ?_) | intro _ _ _ _ _ _ _ _ | refine We ?_ | refine Wx ?_ | refine Wt ?_ | refine Wm ?_ | refine W2m ?_ ?_ | refine Wl ?_)
    | fail)
  exact ⟨rfl, rfl, rfl⟩
theorem Keeps_spec (m : CopM) (s1 s2 s3 s4 : Value) (hm : CopIs H m s1 s2 s3 s4) : CallJ Try.prog E 35 [cv m s1 s2 s3 s4] (fun v H' g' => IntsA H (checkT m) (keepsL m) v H' ∧ g' = g) H g := by
  have hok := hm.cells
  have hl : checkT m = 0 → m.last ≤ 1000000 ∧ -1000000 ≤ m.last := fun h => by have hw := (good_of (checkT_zero h)).w; have h0 := hw.l0; have h4 := hw.l4; omega
  have hl2 : checkT m = 0 → 0 ≤ m.last + 1 ∧ m.last + 1 ≤ 5 := fun h => by have hw := (good_of (checkT_zero h)).w; have h0 := hw.l0; have h4 := hw.l4; omega
  refine CallJ.tidy ?_
  unfold cv
  refine CallJ.enter Try.func35 rfl (by simp only [Try.ntmps35, List.length_cons, List.length_nil, Nat.zero_add, Nat.reduceSub, List.replicate_succ, List.replicate_zero, List.cons_append, List.nil_append]; rfl) ?_
  repeat' (first
    | (refine is_ucall ?_; first
      | refine st_callP (h := checkTruth_spec _ _ _ m s1 s2 s3 s4 (hm.ext extA)) (k := ?_)
      | refine st_callP (h := hours_spec _ _ _ m s1 s2 s3 s4 hok (hl (by assumption))) (k := ?_)
      | fail)
    | (refine is_umcall ?_; first
      | refine mj_callP (h := checkTruth_spec _ _ _ m s1 s2 s3 s4 (hm.ext extA)) (k := ?_)
      | refine mj_callP (h := hours_spec _ _ _ m s1 s2 s3 s4 hok (hl (by assumption))) (k := ?_)
      | fail)
    | ((fail_if_success (first | refine is_ucall ?_ | refine is_umcall ?_)); first | refine W1 ?_ | refine Wc ?_ | refine W2c ?_ ?_ | refine Wg ?_ | refine W2 ?_ ?_ | exact Wdead | refine Wlive (fun hb => ?_) | intro _ _ _ _ _ _ _ _ | refine We ?_ | refine Wx ?_ | refine Wt ?_ | refine Wm ?_ | refine W2m ?_ ?_ | refine Wl ?_)
    | fail)
  · exact ⟨by unfold IntsA; rw [if_neg (by assumption)]; exact ⟨rfl, rfl⟩, rfl⟩
  · have hz : checkT m = 0 := by assumption
    have hG := good_of (checkT_zero hz)
    obtain ⟨hn5, hnl⟩ := hrs_le hG.w
    have hlast0 := hG.w.l0
    have hlast4 := hG.w.l4
    have hpl : (keepsL m).length = hrs m := by simp [keepsL]
    have e0 : List.replicate (m.last + 1).toNat (Value.int .i64 (Int.ofNat 0)) = encE ((keepsL m).take 0 ++ List.drop 0 (List.replicate (hrs m) 0)) := by simp [encE, hrs]
    refine WPJ.loopT (hrs m) [18, 19, 6, 20, 21, 22, 23, 24, 25, 26, 27, 28] (fun j (_ : Unit) => [(17, .int .i64 j)])
      (fun j _ H1 g1 => g1 = g ∧ Ext H H1 ∧ H1[H.length]? = some (.row (ccells m s1 s2 s3 s4) 1 true) ∧ H1[H.length + 1]? = some (.row (encE ((keepsL m).take j ++ List.drop j (List.replicate (hrs m) 0))) 1 true) ∧ H.length + 1 < H1.length) 0 () (Nat.zero_le _)
      (by intro p hp; simp at hp; rcases hp with rfl; rfl) ⟨rfl, extA, getA, by rw [← e0]; exact getA, by simp⟩ ?_
    rintro j _ H1 g1 hj ⟨rfl, he, hb1, hb2, hlen⟩ hl0
    simp only [updT, maskT, List.set_cons_zero, List.set_cons_succ]
    rcases Nat.lt_or_ge j (hrs m) with hlt | hge
    · have hmid := set_mid (l := keepsL m) (j := j) (z := List.replicate (hrs m) 0) (by omega) (by simp; omega)
      have hpj : (keepsL m)[j]'(by omega) = verdictS (truthsL m) (keepQ m j) := by simp [keepsL]
      rw [hpj] at hmid
      have hel4 : (encE ((keepsL m).take j ++ List.drop j (List.replicate (hrs m) 0))).length = hrs m := by simp [encE]; omega
      generalize (keepsL m).take j ++ List.drop j (List.replicate (hrs m) 0) = xs at *
      repeat' (first
        | (refine is_ucall ?_; first
          | refine st_callP (h := checkTruth_spec _ _ _ m s1 s2 s3 s4 (hm.ext extA)) (k := ?_)
          | refine st_callP (h := hours_spec _ _ _ m s1 s2 s3 s4 hok (hl (by assumption))) (k := ?_)
          | fail)
        | (refine is_umcall ?_; first
          | refine mj_callP (h := checkTruth_spec _ _ _ m s1 s2 s3 s4 (hm.ext extA)) (k := ?_)
          | refine mj_callP (h := hours_spec _ _ _ m s1 s2 s3 s4 hok (hl (by assumption))) (k := ?_)
          | fail)
        | ((fail_if_success (first | refine is_ucall ?_ | refine is_umcall ?_)); first | refine W1 ?_ | refine Wc ?_ | refine W2c ?_ ?_ | refine Wg ?_ | refine W2 ?_ ?_ | exact Wdead | refine Wlive (fun hb => ?_) | intro _ _ _ _ _ _ _ _ | refine We ?_ | refine Wx ?_ | refine Wt ?_ | refine Wm ?_ | refine W2m ?_ ?_ | refine Wl ?_)
        | fail)
      refine WPJ.draw 8 mixed (by kernel_rfl) (by kernel_rfl) (by kernel_rfl) (by decide) ?_
      refine MonoJ.normA ?_
      repeat' (first
        | (refine is_ucall ?_; first
          | refine st_callP (h := checkTruth_spec _ _ _ m s1 s2 s3 s4 (hm.ext extA)) (k := ?_)
          | refine st_callP (h := hours_spec _ _ _ m s1 s2 s3 s4 hok (hl (by assumption))) (k := ?_)
          | fail)
        | (refine is_umcall ?_; first
          | refine mj_callP (h := checkTruth_spec _ _ _ m s1 s2 s3 s4 (hm.ext extA)) (k := ?_)
          | refine mj_callP (h := hours_spec _ _ _ m s1 s2 s3 s4 hok (hl (by assumption))) (k := ?_)
          | fail)
        | ((fail_if_success (first | refine is_ucall ?_ | refine is_umcall ?_)); first | refine W1 ?_ | refine Wc ?_ | refine W2c ?_ ?_ | refine Wg ?_ | refine W2 ?_ ?_ | exact Wdead | refine Wlive (fun hb => ?_) | intro _ _ _ _ _ _ _ _ | refine We ?_ | refine Wx ?_ | refine Wt ?_ | refine Wm ?_ | refine W2m ?_ ?_ | refine Wl ?_)
        | fail)
      refine mj_callL (h := truths_spec _ _ _ m s1 s2 s3 s4 hok) (k := ?_)
      refine MonoJ.normA ?_
      repeat' (first
        | (refine is_ucall ?_; first
          | refine st_callP (h := checkTruth_spec _ _ _ m s1 s2 s3 s4 (hm.ext extA)) (k := ?_)
          | refine st_callP (h := hours_spec _ _ _ m s1 s2 s3 s4 hok (hl (by assumption))) (k := ?_)
          | fail)
        | (refine is_umcall ?_; first
          | refine mj_callP (h := checkTruth_spec _ _ _ m s1 s2 s3 s4 (hm.ext extA)) (k := ?_)
          | refine mj_callP (h := hours_spec _ _ _ m s1 s2 s3 s4 hok (hl (by assumption))) (k := ?_)
          | fail)
        | ((fail_if_success (first | refine is_ucall ?_ | refine is_umcall ?_)); first | refine W1 ?_ | refine Wc ?_ | refine W2c ?_ ?_ | refine Wg ?_ | refine W2 ?_ ?_ | exact Wdead | refine Wlive (fun hb => ?_) | intro _ _ _ _ _ _ _ _ | refine We ?_ | refine Wx ?_ | refine Wt ?_ | refine Wm ?_ | refine W2m ?_ ?_ | refine Wl ?_)
        | fail)
      refine mj_callP (h := verdict_spec _ _ _ m s1 s2 s3 s4 _ (shH (H1.length + 1) s1 s2 s3 s4) (truthsL m) _ _ _ (keepQ m j) (hm.ext extA).y hG.w (iter_truths (b := H1.length + 1) (own := true) (hm.ext extA) hG.valid getA) (truths_tok hG.valid) (fun t _ H' he' => keeps_V _ _ _ m s1 s2 s3 s4 (hm.ext (Ext.trans extA he')).y hG.w j H1.length hlt (he'.get getA) t)) (k := ?_)
      repeat' (first
        | (refine is_ucall ?_; first
          | refine st_callP (h := checkTruth_spec _ _ _ m s1 s2 s3 s4 (hm.ext extA)) (k := ?_)
          | refine st_callP (h := hours_spec _ _ _ m s1 s2 s3 s4 hok (hl (by assumption))) (k := ?_)
          | fail)
        | (refine is_umcall ?_; first
          | refine mj_callP (h := checkTruth_spec _ _ _ m s1 s2 s3 s4 (hm.ext extA)) (k := ?_)
          | refine mj_callP (h := hours_spec _ _ _ m s1 s2 s3 s4 hok (hl (by assumption))) (k := ?_)
          | fail)
        | ((fail_if_success (first | refine is_ucall ?_ | refine is_umcall ?_)); first | refine W1 ?_ | refine Wc ?_ | refine W2c ?_ ?_ | refine Wg ?_ | refine W2 ?_ ?_ | exact Wdead | refine Wlive (fun hb => ?_) | intro _ _ _ _ _ _ _ _ | refine We ?_ | refine Wx ?_ | refine Wt ?_ | refine Wm ?_ | refine W2m ?_ ?_ | refine Wl ?_)
        | fail)
      refine ⟨(), hlt, (by repeat' (first | exact Weak.nil | refine Weak.wild ?_ | refine Weak.same ?_ | refine Weak.intEq (by first | omega | (simp; done) | (push_cast; omega)) ?_)), rfl, extA, getA, ?_, by simp; omega⟩
      rw [← hmid, ← row_encE]
      exact getA
    · obtain rfl : j = hrs m := by omega
      rw [List.take_of_length_le (by omega), List.drop_of_length_le (by simp), List.append_nil] at hb2
      repeat' (first
        | (refine is_ucall ?_; first
          | refine st_callP (h := checkTruth_spec _ _ _ m s1 s2 s3 s4 (hm.ext extA)) (k := ?_)
          | refine st_callP (h := hours_spec _ _ _ m s1 s2 s3 s4 hok (hl (by assumption))) (k := ?_)
          | fail)
        | (refine is_umcall ?_; first
          | refine mj_callP (h := checkTruth_spec _ _ _ m s1 s2 s3 s4 (hm.ext extA)) (k := ?_)
          | refine mj_callP (h := hours_spec _ _ _ m s1 s2 s3 s4 hok (hl (by assumption))) (k := ?_)
          | fail)
        | ((fail_if_success (first | refine is_ucall ?_ | refine is_umcall ?_)); first | refine W1 ?_ | refine Wc ?_ | refine W2c ?_ ?_ | refine Wg ?_ | refine W2 ?_ ?_ | exact Wdead | refine Wlive (fun hb => ?_) | intro _ _ _ _ _ _ _ _ | refine We ?_ | refine Wx ?_ | refine Wt ?_ | refine Wm ?_ | refine W2m ?_ ?_ | refine Wl ?_)
        | fail)
      refine Tidy.two extA hb2 (by omega) (encE_flat _) (.tuple2 (.slice (j := 0) rfl) (.flat rfl)) ⟨?_, rfl⟩
      unfold IntsA
      rw [if_pos hz, hpl]
      exact ⟨rfl, rfl⟩
end
end Go.Proofs.Ytjbiidlmpaibkaa
namespace Go.Proofs.Ytjbiidlmpaibkaa
open Go Go.Abs Go.Proofs
set_option maxHeartbeats 800000
attribute [local irreducible] CallJ OpsJ WPJ CallV MonoJ
def addL (n : Nat) (a b : List Int) : List Int := (List.range n).map fun j => a.getD j 0 + b.getD j 0
def moreM (m : CopM) (l : List Int) : CopM := { m with want := addL (hrs m) m.want l }
theorem WOk.more {m : CopM} (hW : WOk m) (hw : ∀ x ∈ m.want, 0 ≤ x ∧ x ≤ 20) {l : List Int} (hl : ∀ x ∈ l, 0 ≤ x ∧ x ≤ 20) : WOk (moreM m l) := by
  refine ⟨hW.l0, hW.l4, hW.most, hW.start, hW.per, hW.cl, by simp [moreM, addL, hrs], hW.c3, fun x hx => ?_⟩
  obtain ⟨j, _, rfl⟩ := List.mem_map.1 hx
  have h1 := getD_bd hw (by omega) j
  have h2 := getD_bd hl (by omega) j
  omega
section
variable {γ : Type} (E : Env γ) (g : γ) (H : AHeap)
theorem withMore_spec (m : CopM) (s1 s2 s3 s4 mv : Value) (l : List Int) (hm : CopY H m s1 s2 s3 s4) (hW : WOk m) (hw : ∀ x ∈ m.want, 0 ≤ x ∧ x ≤ 20) (hr : RdS H mv 1 (encI l)) (hll : l.length = hrs m) (hlb : ∀ x ∈ l, 0 ≤ x ∧ x ≤ 20) :
    CallJ Try.prog E 101 [cv m s1 s2 s3 s4, mv] (fun v H' g' => v = cv (moreM m l) s1 (.slice (some ⟨H.length, 0, none⟩) (hrs m) (hrs m)) s3 s4 ∧ H' = H ++ [.row (encE (addL (hrs m) m.want l)) 1 true] ∧ g' = g) H g := by
  have hok := hm.cells
  have hrw := hm.want
  have hl0 := hW.l0
  have hl4 := hW.l4
  obtain ⟨hn5, hnl⟩ := hrs_le hW
  have hmo : ∃ a b c, mv = .slice a b c := RdS.shape hr
  obtain ⟨ma, mb, mc, rfl⟩ := hmo
  refine CallJ.tidy ?_
  unfold cv
  refine CallJ.enter Try.func101 rfl (by simp only [Try.ntmps101, List.length_cons, List.length_nil, Nat.zero_add, Nat.reduceAdd, Nat.reduceSub, List.replicate_succ, List.replicate_zero, List.cons_append, List.nil_append]; rfl) ?_
  repeat' (first
    | (refine is_ucall ?_; first
      | refine st_callP (h := hours_spec _ _ _ m s1 s2 s3 s4 hok (by omega)) (k := ?_)
      | fail)
    | (refine is_umcall ?_; first
      | refine mj_callP (h := hours_spec _ _ _ m s1 s2 s3 s4 hok (by omega)) (k := ?_)
      | fail)
    | ((fail_if_success (first | refine is_ucall ?_ | refine is_umcall ?_)); first | refine W1 ?_ | refine Wc ?_ | refine W2c ?_ ?_ | refine Wg ?_ | refine W2 ?_ ?_ | exact Wdead | refine Wlive (fun hb => ?_) | intro _ _ _ _ _ _ _ _ | refine We ?_ | refine Wx ?_ | refine Wt ?_ | refine Wm ?_ | refine W2m ?_ ?_ | refine Wl ?_)
    | fail)
  have hpl : (addL (hrs m) m.want l).length = hrs m := by simp [addL]
  have e0 : List.replicate (m.last + 1).toNat (Value.int .i64 (Int.ofNat 0)) = encE ((addL (hrs m) m.want l).take 0 ++ List.drop 0 (List.replicate (hrs m) 0)) := by simp [encE, hrs]
  refine WPJ.loopT (hrs m) [13, 14, 6, 15, 16, 17, 18, 19, 20, 21, 22, 23, 24, 25, 26, 27, 28] (fun j (_ : Unit) => [(12, .int .i64 j)])
    (fun j _ H1 g1 => g1 = g ∧ Ext H H1 ∧ H1[H.length]? = some (.row (ccells m s1 s2 s3 s4) 1 true) ∧ (∃ cs, cs.length = 11 ∧ H1[H.length + 1]? = some (.row cs 1 true)) ∧ H1[H.length + 2]? = some (.row (encE ((addL (hrs m) m.want l).take j ++ List.drop j (List.replicate (hrs m) 0))) 1 true) ∧ H.length + 2 < H1.length) 0 () (Nat.zero_le _)
    (by intro p hp; simp at hp; rcases hp with rfl; rfl) ⟨rfl, extA, getA, ⟨_, ?_, getA⟩, by rw [← e0]; exact getA, by simp⟩ ?_
  · rfl
  rintro j _ H1 g1 hj ⟨rfl, he, hb1, ⟨cs, hcs, hbr⟩, hb2, hlen⟩ hl0'
  simp only [updT, maskT, List.set_cons_zero, List.set_cons_succ]
  rcases Nat.lt_or_ge j (hrs m) with hlt | hge
  · have hwj : j < m.want.length := by rw [hW.wl]; exact hlt
    have hlj : j < l.length := by omega
    have hew : (encI m.want)[(j : Int).toNat]? = some [.int .i64 m.want[j]] := by simp [hwj]
    have hel : (encI l)[(j : Int).toNat]? = some [.int .i64 l[j]] := by simp [hlj]
    have hwb := hw _ (List.getElem_mem hwj)
    have hlb' := hlb _ (List.getElem_mem hlj)
    have hmid := set_mid (l := addL (hrs m) m.want l) (j := j) (z := List.replicate (hrs m) 0) (by omega) (by simp; omega)
    have hpj : (addL (hrs m) m.want l)[j]'(by omega) = m.want[j] + l[j] := by simp [addL, List.getD, hwj, hlj]
    rw [hpj] at hmid
    have hel4 : (encE ((addL (hrs m) m.want l).take j ++ List.drop j (List.replicate (hrs m) 0))).length = hrs m := by simp [encE]; omega
    generalize (addL (hrs m) m.want l).take j ++ List.drop j (List.replicate (hrs m) 0) = xs at *
    repeat' (first
      | (refine is_ucall ?_; first
        | refine st_callP (h := hours_spec _ _ _ m s1 s2 s3 s4 hok (by omega)) (k := ?_)
        | fail)
      | (refine is_umcall ?_; first
        | refine mj_callP (h := hours_spec _ _ _ m s1 s2 s3 s4 hok (by omega)) (k := ?_)
        | fail)
      | ((fail_if_success (first | refine is_ucall ?_ | refine is_umcall ?_)); first | refine W1 ?_ | refine Wc ?_ | refine W2c ?_ ?_ | refine Wg ?_ | refine W2 ?_ ?_ | exact Wdead | refine Wlive (fun hb => ?_) | intro _ _ _ _ _ _ _ _ | refine We ?_ | refine Wx ?_ | refine Wt ?_ | refine Wm ?_ | refine W2m ?_ ?_ | refine Wl ?_)
      | fail)
    refine WPJ.draw 13 mixed (by kernel_rfl) (by kernel_rfl) (by kernel_rfl) (by decide) ?_
    refine MonoJ.normA ?_
    repeat' (first
      | (refine is_ucall ?_; first
        | refine st_callP (h := hours_spec _ _ _ m s1 s2 s3 s4 hok (by omega)) (k := ?_)
        | fail)
      | (refine is_umcall ?_; first
        | refine mj_callP (h := hours_spec _ _ _ m s1 s2 s3 s4 hok (by omega)) (k := ?_)
        | fail)
      | ((fail_if_success (first | refine is_ucall ?_ | refine is_umcall ?_)); first | refine W1 ?_ | refine Wc ?_ | refine W2c ?_ ?_ | refine Wg ?_ | refine W2 ?_ ?_ | exact Wdead | refine Wlive (fun hb => ?_) | intro _ _ _ _ _ _ _ _ | refine We ?_ | refine Wx ?_ | refine Wt ?_ | refine Wm ?_ | refine W2m ?_ ?_ | refine Wl ?_)
      | fail)
    refine ⟨(), hlt, (by repeat' (first | exact Weak.nil | refine Weak.wild ?_ | refine Weak.same ?_ | refine Weak.intEq (by first | omega | (simp; done) | (push_cast; omega)) ?_)), rfl, extA, getA, ⟨cs, hcs, getA⟩, ?_, by simp; omega⟩
    rw [← hmid, ← row_encE]
    exact getA
  · obtain rfl : j = hrs m := by omega
    rw [List.take_of_length_le (by omega), List.drop_of_length_le (by simp), List.append_nil] at hb2
    have hok2 : (ccells (moreM m l) s1 (.slice (some ⟨H.length + 2, 0, none⟩) (m.last + 1).toNat (m.last + 1).toNat) s3 s4).all cellOk = true := by
      have := hm.ok
      simp [cellOk] at this ⊢
      exact ⟨this.1, this.2.2.1, this.2.2.2⟩
    repeat' (first
      | (refine is_ucall ?_; first
        | refine st_callP (h := hours_spec _ _ _ m s1 s2 s3 s4 hok (by omega)) (k := ?_)
        | fail)
      | (refine is_umcall ?_; first
        | refine mj_callP (h := hours_spec _ _ _ m s1 s2 s3 s4 hok (by omega)) (k := ?_)
        | fail)
      | ((fail_if_success (first | refine is_ucall ?_ | refine is_umcall ?_)); first | refine W1 ?_ | refine Wc ?_ | refine W2c ?_ ?_ | refine Wg ?_ | refine W2 ?_ ?_ | exact Wdead | refine Wlive (fun hb => ?_) | intro _ _ _ _ _ _ _ _ | refine We ?_ | refine Wx ?_ | refine Wt ?_ | refine Wm ?_ | refine W2m ?_ ?_ | refine Wl ?_)
      | fail)
    refine Tidy.two (i := H.length + 2) (cells := encE (addL (hrs m) m.want l)) (es := 1) extA getA (by omega) (encE_flat _) (.aggs (b := ccells (moreM m l) s1 (.slice (some ⟨H.length, 0, none⟩) (hrs m) (hrs m)) s3 s4) rfl fun j h1 h2 => ?_) ⟨rfl, rfl, rfl⟩
    match j, h1 with
    | 0, _ => exact .flat rfl
    | 1, _ => exact .flat rfl
    | 2, _ => exact .flat rfl
    | 3, _ => exact .flat rfl
    | 4, _ => exact .flat rfl
    | 5, _ => exact .low (RdS.low hm.coal)
    | 6, _ => exact .slice (j := 0) rfl
    | 7, _ => exact .flat rfl
    | 8, _ => exact .flat rfl
    | 9, _ => exact .low (RdS.low hm.loss)
    | 10, _ => exact .low (RdS.low hm.reads)
end
end Go.Proofs.Ytjbiidlmpaibkaa
namespace Go.Proofs.Ytjbiidlmpaibkaa
open Go Go.Abs Go.Proofs
set_option maxHeartbeats 800000
attribute [local irreducible] CallJ OpsJ WPJ CallV MonoJ
theorem CopY.more {H : AHeap} {m : CopM} {s1 s2 s3 s4 : Value} (h : CopY H m s1 s2 s3 s4) {l : List Int} {i : Nat} {own : Bool} (h5 : hrs m ≤ 5) (hi : H[i]? = some (.row (encE (addL (hrs m) m.want l)) 1 own)) : CopY H (moreM m l) s1 (.slice (some ⟨i, 0, none⟩) (hrs m) (hrs m)) s3 s4 := by
  have hl : (addL (hrs m) m.want l).length = hrs m := by simp [addL]
  refine ⟨h.coal, ?_, h.loss, h.reads, ?_, h.n1, by simp [moreM, addL]; omega, h.n3, h.n4⟩
  · have := rd_encE (cap := hrs m) (s := addL (hrs m) m.want l) hi (List.take_of_length_le (by simp [encE]))
    rw [hl] at this
    exact this
  · have := h.ok
    simp [cellOk] at this ⊢
    exact ⟨this.1, this.2.2.1, this.2.2.2⟩
theorem forHours_of {m : CopM} {l : List Int} {k : Int} (h : forHours m l k = true) : (l.length : Int) = m.last + 1 ∧ ∀ x ∈ l, 0 ≤ x ∧ x ≤ k := by
  simp only [forHours, inR, Bool.and_eq_true, List.all_eq_true, decide_eq_true_eq] at h
  exact h
def moreE (m : CopM) (l : List Int) : Int := if checkS m = 0 then (if forHours m l 20 then (if hasS m then 0 else 11) else 2) else checkS m
def moreV (m : CopM) (l : List Int) : Int := verdictS (truthsL m) (keptT (moreM m l))
section
variable {γ : Type} (E : Env γ) (g : γ) (H : AHeap)
theorem areKept_V (m : CopM) (s1 s2 s3 s4 : Value) (hm : CopY H m s1 s2 s3 s4) (hW : WOk m) (t : Int × List Int) :
    CallV Try.prog E (.func (.func 102) ⟨[]⟩ ⟨[]⟩) [.agg ⟨wcells m s1 s2 s3 s4 (arr5 (hrs m) (hotS m t.1 t.2)) (arr5 (hrs m) (leftS m t.1 t.2))⟩] (fun v H2 g' => v = .bool (keptT m t) ∧ H2 = H ∧ g' = g) H g :=
  CallV.of_func EntC.ent (areKept_spec E g H m s1 s2 s3 s4 _ _ hm hW (arr5_len _ _) (arr5_len _ _))
theorem More_spec (m : CopM) (s1 s2 s3 s4 mv : Value) (l : List Int) (hm : CopIs H m s1 s2 s3 s4) (hr : RdS H mv 1 (encI l)) (hn : l.length ≤ 1000000) :
    CallJ Try.prog E 39 [cv m s1 s2 s3 s4, mv] (fun v H' g' => v = .tuple #[.int .i64 (if moreE m l = 0 then moreV m l else 0), .int .i64 (moreE m l)] ∧ H' = H ∧ g' = g) H g := by
  have hok := hm.cells
  have hl : checkS m = 0 → m.last ≤ 1000000 ∧ -1000000 ≤ m.last := fun h => by have hw := (good_of h).w; have h0 := hw.l0; have h4 := hw.l4; omega
  have hmo : ∃ a b c, mv = .slice a b c := RdS.shape hr
  obtain ⟨ma, mb, mc, rfl⟩ := hmo
  refine CallJ.tidy ?_
  unfold cv
  refine CallJ.enter Try.func39 rfl (by simp only [Try.ntmps39, List.length_cons, List.length_nil, Nat.zero_add, Nat.reduceAdd, Nat.reduceSub, List.replicate_succ, List.replicate_zero, List.cons_append, List.nil_append]; rfl) ?_
  repeat' (first
    | (refine is_ucall ?_; first
      | refine st_callP (h := CheckCopper_spec _ _ _ m s1 s2 s3 s4 (hm.ext extA)) (k := ?_)
      | refine st_callP (h := isForHours_spec _ _ _ m s1 s2 s3 s4 _ l _ hok (hl (by assumption)) (hr.ext extA) hn) (k := ?_)
      | refine st_callP (h := hasTruth_spec _ _ _ m s1 s2 s3 s4 (hm.ext extA) (good_of (by assumption)).valid) (k := ?_)
      | fail)
    | (refine is_umcall ?_; first
      | refine mj_callP (h := CheckCopper_spec _ _ _ m s1 s2 s3 s4 (hm.ext extA)) (k := ?_)
      | refine mj_callP (h := isForHours_spec _ _ _ m s1 s2 s3 s4 _ l _ hok (hl (by assumption)) (hr.ext extA) hn) (k := ?_)
      | refine mj_callP (h := hasTruth_spec _ _ _ m s1 s2 s3 s4 (hm.ext extA) (good_of (by assumption)).valid) (k := ?_)
      | fail)
    | ((fail_if_success (first | refine is_ucall ?_ | refine is_umcall ?_)); first | refine W1 ?_ | refine Wc ?_ | refine W2c ?_ ?_ | refine Wg ?_ | refine W2 ?_ ?_ | exact Wdead | refine Wlive (fun hb => ?_) | intro _ _ _ _ _ _ _ _ | refine We ?_ | refine Wx ?_ | refine Wt ?_ | refine Wm ?_ | refine W2m ?_ ?_ | refine Wl ?_)
    | fail)
  · have e : moreE m l = checkS m := by unfold moreE; rw [if_neg (by assumption)]
    rw [e, if_neg (by assumption)]; exact ⟨rfl, rfl, rfl⟩
  · have e : moreE m l = 2 := by unfold moreE; rw [if_pos (by assumption), if_neg (ne_true_of_eq_false (by assumption))]
    rw [e]; exact ⟨rfl, rfl, rfl⟩
  · have e : moreE m l = 11 := by unfold moreE; rw [if_pos (by assumption), if_pos (by assumption), if_neg (ne_true_of_eq_false (by assumption))]
    rw [e]; exact ⟨rfl, rfl, rfl⟩
  · have hz : checkS m = 0 := by assumption
    have hfh : forHours m l 20 = true := by assumption
    have e : moreE m l = 0 := by unfold moreE; rw [if_pos hz, if_pos hfh, if_pos (by assumption)]
    have hG := good_of hz
    obtain ⟨hn5, hnl⟩ := hrs_le hG.w
    have hfl := forHours_of hfh
    have hll : l.length = hrs m := by omega
    have hWm := hG.w.more hG.wn hfl.2
    rw [e, if_pos rfl]
    refine WPJ.draw 6 mixed (by kernel_rfl) (by kernel_rfl) (by kernel_rfl) (by decide) ?_
    refine MonoJ.normA ?_
    repeat' (first
      | (refine is_ucall ?_; first
        | refine st_callP (h := CheckCopper_spec _ _ _ m s1 s2 s3 s4 (hm.ext extA)) (k := ?_)
        | refine st_callP (h := isForHours_spec _ _ _ m s1 s2 s3 s4 _ l _ hok (hl (by assumption)) (hr.ext extA) hn) (k := ?_)
        | refine st_callP (h := hasTruth_spec _ _ _ m s1 s2 s3 s4 (hm.ext extA) (good_of (by assumption)).valid) (k := ?_)
        | fail)
      | (refine is_umcall ?_; first
        | refine mj_callP (h := CheckCopper_spec _ _ _ m s1 s2 s3 s4 (hm.ext extA)) (k := ?_)
        | refine mj_callP (h := isForHours_spec _ _ _ m s1 s2 s3 s4 _ l _ hok (hl (by assumption)) (hr.ext extA) hn) (k := ?_)
        | refine mj_callP (h := hasTruth_spec _ _ _ m s1 s2 s3 s4 (hm.ext extA) (good_of (by assumption)).valid) (k := ?_)
        | fail)
      | ((fail_if_success (first | refine is_ucall ?_ | refine is_umcall ?_)); first | refine W1 ?_ | refine Wc ?_ | refine W2c ?_ ?_ | refine Wg ?_ | refine W2 ?_ ?_ | exact Wdead | refine Wlive (fun hb => ?_) | intro _ _ _ _ _ _ _ _ | refine We ?_ | refine Wx ?_ | refine Wt ?_ | refine Wm ?_ | refine W2m ?_ ?_ | refine Wl ?_)
      | fail)
    refine mj_callL (h := withMore_spec _ _ _ m s1 s2 s3 s4 _ l (hm.ext extA).y hG.w hG.wn (hr.ext extA) hll hfl.2) (k := ?_)
    refine MonoJ.normA ?_
    repeat' (first
      | (refine is_ucall ?_; first
        | refine st_callP (h := CheckCopper_spec _ _ _ m s1 s2 s3 s4 (hm.ext extA)) (k := ?_)
        | refine st_callP (h := isForHours_spec _ _ _ m s1 s2 s3 s4 _ l _ hok (hl (by assumption)) (hr.ext extA) hn) (k := ?_)
        | refine st_callP (h := hasTruth_spec _ _ _ m s1 s2 s3 s4 (hm.ext extA) (good_of (by assumption)).valid) (k := ?_)
        | fail)
      | (refine is_umcall ?_; first
        | refine mj_callP (h := CheckCopper_spec _ _ _ m s1 s2 s3 s4 (hm.ext extA)) (k := ?_)
        | refine mj_callP (h := isForHours_spec _ _ _ m s1 s2 s3 s4 _ l _ hok (hl (by assumption)) (hr.ext extA) hn) (k := ?_)
        | refine mj_callP (h := hasTruth_spec _ _ _ m s1 s2 s3 s4 (hm.ext extA) (good_of (by assumption)).valid) (k := ?_)
        | fail)
      | ((fail_if_success (first | refine is_ucall ?_ | refine is_umcall ?_)); first | refine W1 ?_ | refine Wc ?_ | refine W2c ?_ ?_ | refine Wg ?_ | refine W2 ?_ ?_ | exact Wdead | refine Wlive (fun hb => ?_) | intro _ _ _ _ _ _ _ _ | refine We ?_ | refine Wx ?_ | refine Wt ?_ | refine Wm ?_ | refine W2m ?_ ?_ | refine Wl ?_)
      | fail)
    refine mj_callL (h := truths_spec _ _ _ m s1 s2 s3 s4 hok) (k := ?_)
    refine MonoJ.normA ?_
    repeat' (first
      | (refine is_ucall ?_; first
        | refine st_callP (h := CheckCopper_spec _ _ _ m s1 s2 s3 s4 (hm.ext extA)) (k := ?_)
        | refine st_callP (h := isForHours_spec _ _ _ m s1 s2 s3 s4 _ l _ hok (hl (by assumption)) (hr.ext extA) hn) (k := ?_)
        | refine st_callP (h := hasTruth_spec _ _ _ m s1 s2 s3 s4 (hm.ext extA) (good_of (by assumption)).valid) (k := ?_)
        | fail)
      | (refine is_umcall ?_; first
        | refine mj_callP (h := CheckCopper_spec _ _ _ m s1 s2 s3 s4 (hm.ext extA)) (k := ?_)
        | refine mj_callP (h := isForHours_spec _ _ _ m s1 s2 s3 s4 _ l _ hok (hl (by assumption)) (hr.ext extA) hn) (k := ?_)
        | refine mj_callP (h := hasTruth_spec _ _ _ m s1 s2 s3 s4 (hm.ext extA) (good_of (by assumption)).valid) (k := ?_)
        | fail)
      | ((fail_if_success (first | refine is_ucall ?_ | refine is_umcall ?_)); first | refine W1 ?_ | refine Wc ?_ | refine W2c ?_ ?_ | refine Wg ?_ | refine W2 ?_ ?_ | exact Wdead | refine Wlive (fun hb => ?_) | intro _ _ _ _ _ _ _ _ | refine We ?_ | refine Wx ?_ | refine Wt ?_ | refine Wm ?_ | refine W2m ?_ ?_ | refine Wl ?_)
      | fail)
    have hmy := CopY.more (l := l) (i := H.length + 1) (own := true) (H := H ++ [.row (ccells m s1 s2 s3 s4) 1 true, .row (encE (addL (hrs m) m.want l)) 1 true, .row (ccells m s1 s2 s3 s4) 1 true]) (hm.ext ⟨_, rfl⟩).y hn5 (by simp)
    refine mj_callP (h := verdict_spec _ _ _ (moreM m l) s1 _ s3 s4 _ (shH (H.length + 2) s1 s2 s3 s4) (truthsL m) _ _ _ (keptT (moreM m l)) hmy hWm (iter_truths (b := H.length + 2) (own := true) (hm.ext extA) hG.valid getA) (truths_tok hG.valid) (fun t _ H' he' => areKept_V _ _ _ (moreM m l) s1 _ s3 s4 (hmy.ext he') hWm t)) (k := ?_)
    refine MonoJ.normA ?_
    repeat' (first
      | (refine is_ucall ?_; first
        | refine st_callP (h := CheckCopper_spec _ _ _ m s1 s2 s3 s4 (hm.ext extA)) (k := ?_)
        | refine st_callP (h := isForHours_spec _ _ _ m s1 s2 s3 s4 _ l _ hok (hl (by assumption)) (hr.ext extA) hn) (k := ?_)
        | refine st_callP (h := hasTruth_spec _ _ _ m s1 s2 s3 s4 (hm.ext extA) (good_of (by assumption)).valid) (k := ?_)
        | fail)
      | (refine is_umcall ?_; first
        | refine mj_callP (h := CheckCopper_spec _ _ _ m s1 s2 s3 s4 (hm.ext extA)) (k := ?_)
        | refine mj_callP (h := isForHours_spec _ _ _ m s1 s2 s3 s4 _ l _ hok (hl (by assumption)) (hr.ext extA) hn) (k := ?_)
        | refine mj_callP (h := hasTruth_spec _ _ _ m s1 s2 s3 s4 (hm.ext extA) (good_of (by assumption)).valid) (k := ?_)
        | fail)
      | ((fail_if_success (first | refine is_ucall ?_ | refine is_umcall ?_)); first | refine W1 ?_ | refine Wc ?_ | refine W2c ?_ ?_ | refine Wg ?_ | refine W2 ?_ ?_ | exact Wdead | refine Wlive (fun hb => ?_) | intro _ _ _ _ _ _ _ _ | refine We ?_ | refine Wx ?_ | refine Wt ?_ | refine Wm ?_ | refine W2m ?_ ?_ | refine Wl ?_)
      | fail)
    exact ⟨rfl, rfl, rfl⟩
end
end Go.Proofs.Ytjbiidlmpaibkaa
namespace Go.Proofs.Ytjbiidlmpaibkaa
open Go Go.Abs Go.Proofs
set_option maxHeartbeats 800000
attribute [local irreducible] CallJ OpsJ WPJ CallV MonoJ
def oneL (n h : Nat) (x : Int) : List Int := (List.replicate n 0).set h x
def spareB (m : CopM) (h : Nat) (x : Int) : Bool := (truthsL m).all (keptT (moreM m (oneL (hrs m) h x)))
def spareS (m : CopM) (h : Nat) : Nat → Int
  | 0 => 0
  | k + 1 => if spareB m h (k + 1 : Nat) then (k + 1 : Nat) else spareS m h k
theorem oneL_bd {n h : Nat} {x : Int} (hx : 0 ≤ x ∧ x ≤ 20) : ∀ y ∈ oneL n h x, 0 ≤ y ∧ y ≤ 20 := fun y hy => by
  rcases List.mem_or_eq_of_mem_set hy with h | rfl
  · have := (List.mem_replicate.1 h).2; omega
  · exact hx
section
variable {γ : Type} (E : Env γ) (g : γ) (H : AHeap)
theorem spare_spec (m : CopM) (s1 s2 s3 s4 : Value) (h : Nat) (hm : CopIs H m s1 s2 s3 s4) (hG : Good m) (hh : h < hrs m) :
    CallJ Try.prog E 105 [cv m s1 s2 s3 s4, .int .i64 h] (fun v H' g' => v = .int .i64 (spareS m h 20) ∧ H' = H ∧ g' = g) H g := by
  have hok := hm.cells
  have hl0 := hG.w.l0
  have hl4 := hG.w.l4
  obtain ⟨hn5, hnl⟩ := hrs_le hG.w
  refine CallJ.tidy ?_
  unfold cv
  refine CallJ.enter Try.func105 rfl (by simp only [Try.ntmps105, List.length_cons, List.length_nil, Nat.zero_add, Nat.reduceAdd, Nat.reduceSub, List.replicate_succ, List.replicate_zero, List.cons_append, List.nil_append]; rfl) ?_
  repeat' (first
    | (refine is_ucall ?_; first
      | refine st_callP (h := hours_spec _ _ _ m s1 s2 s3 s4 hok (by omega)) (k := ?_)
      | fail)
    | (refine is_umcall ?_; first
      | refine mj_callP (h := hours_spec _ _ _ m s1 s2 s3 s4 hok (by omega)) (k := ?_)
      | fail)
    | ((fail_if_success (first | refine is_ucall ?_ | refine is_umcall ?_)); first | refine W1 ?_ | refine Wc ?_ | refine W2c ?_ ?_ | refine Wg ?_ | refine W2 ?_ ?_ | exact Wdead | refine Wlive (fun hb => ?_) | intro _ _ _ _ _ _ _ _ | refine We ?_ | refine Wx ?_ | refine Wt ?_ | refine Wm ?_ | refine W2m ?_ ?_ | refine Wl ?_)
    | fail)
  refine WPJ.loopT 20 [7, 8, 11, 12, 13, 6, 14, 15, 16, 17, 18, 19, 20, 21, 22, 23, 24, 9, 10] (fun j (x : Int) => [(5, .int .i64 x)])
    (fun j x H1 g1 => g1 = g ∧ Ext H H1 ∧ H1[H.length]? = some (.row (ccells m s1 s2 s3 s4) 1 true) ∧ x = 20 - (j : Int) ∧ spareS m h 20 = spareS m h (20 - j)) 0 20 (Nat.zero_le _)
    (by intro p hp; simp at hp; rcases hp with rfl; rfl) ⟨rfl, extA, getA, by simp, rfl⟩ ?_
  rintro j x H1 g1 hj ⟨rfl, he, hb1, hx, hs⟩ hl0'
  simp only [updT, maskT, List.set_cons_zero, List.set_cons_succ]
  rcases Nat.lt_or_ge j 20 with hlt | hge
  · have hxb : 0 ≤ x ∧ x ≤ 20 := by omega
    have hrl : (List.replicate (m.last + 1).toNat (Value.int .i64 (Int.ofNat 0))).length = hrs m := by simp [hrs]
    have hone : (List.replicate (m.last + 1).toNat (Value.int .i64 (Int.ofNat 0))).set h (.int .i64 x) = encE (oneL (hrs m) h x) := by
      unfold oneL encE
      rw [List.map_set, List.map_replicate]; rfl
    have hol : (oneL (hrs m) h x).length = hrs m := by simp [oneL]
    have hob := oneL_bd (n := hrs m) (h := h) hxb
    have hWm := hG.w.more hG.wn hob
    have hstep : spareS m h (20 - j) = if spareB m h x then x else spareS m h (20 - (j + 1)) := by
      have e : 20 - j = (20 - (j + 1)) + 1 := by omega
      have e2 : ((20 - (j + 1) + 1 : Nat) : Int) = x := by omega
      rw [e, spareS, e2]
    repeat' (first
      | (refine is_ucall ?_; first
        | refine st_callP (h := hours_spec _ _ _ m s1 s2 s3 s4 hok (by omega)) (k := ?_)
        | fail)
      | (refine is_umcall ?_; first
        | refine mj_callP (h := hours_spec _ _ _ m s1 s2 s3 s4 hok (by omega)) (k := ?_)
        | fail)
      | ((fail_if_success (first | refine is_ucall ?_ | refine is_umcall ?_)); first | refine W1 ?_ | refine Wc ?_ | refine W2c ?_ ?_ | refine Wg ?_ | refine W2 ?_ ?_ | exact Wdead | refine Wlive (fun hb => ?_) | intro _ _ _ _ _ _ _ _ | refine We ?_ | refine Wx ?_ | refine Wt ?_ | refine Wm ?_ | refine W2m ?_ ?_ | refine Wl ?_)
      | fail)
    rw [Nat.mul_one, hone]
    have hxc : Ext H (H1 ++ [.row (encE (oneL (hrs m) h x)) 1 true]) := he.app _
    have hrd : RdS (H1 ++ [.row (encE (oneL (hrs m) h x)) 1 true]) (.slice (some ⟨H1.length, 0, none⟩) (m.last + 1).toNat (m.last + 1).toNat) 1 (encI (oneL (hrs m) h x)) := by
      have := rd_encE (cap := (m.last + 1).toNat) (s := oneL (hrs m) h x) (H := H1 ++ [.row (encE (oneL (hrs m) h x)) 1 true]) (i := H1.length) (own := true) (cs := encE (oneL (hrs m) h x)) (by simp) (List.take_of_length_le (by simp [encE]))
      rw [hol] at this
      exact this
    refine WPJ.draw 6 mixed (by kernel_rfl) (by kernel_rfl) (by kernel_rfl) (by decide) ?_
    refine MonoJ.normA ?_
    repeat' (first
      | (refine is_ucall ?_; first
        | refine st_callP (h := hours_spec _ _ _ m s1 s2 s3 s4 hok (by omega)) (k := ?_)
        | fail)
      | (refine is_umcall ?_; first
        | refine mj_callP (h := hours_spec _ _ _ m s1 s2 s3 s4 hok (by omega)) (k := ?_)
        | fail)
      | ((fail_if_success (first | refine is_ucall ?_ | refine is_umcall ?_)); first | refine W1 ?_ | refine Wc ?_ | refine W2c ?_ ?_ | refine Wg ?_ | refine W2 ?_ ?_ | exact Wdead | refine Wlive (fun hb => ?_) | intro _ _ _ _ _ _ _ _ | refine We ?_ | refine Wx ?_ | refine Wt ?_ | refine Wm ?_ | refine W2m ?_ ?_ | refine Wl ?_)
      | fail)
    refine mj_callL (h := withMore_spec _ _ _ m s1 s2 s3 s4 _ (oneL (hrs m) h x) (hm.ext extA).y hG.w hG.wn (hrd.ext extA) hol hob) (k := ?_)
    refine MonoJ.normA ?_
    repeat' (first
      | (refine is_ucall ?_; first
        | refine st_callP (h := hours_spec _ _ _ m s1 s2 s3 s4 hok (by omega)) (k := ?_)
        | fail)
      | (refine is_umcall ?_; first
        | refine mj_callP (h := hours_spec _ _ _ m s1 s2 s3 s4 hok (by omega)) (k := ?_)
        | fail)
      | ((fail_if_success (first | refine is_ucall ?_ | refine is_umcall ?_)); first | refine W1 ?_ | refine Wc ?_ | refine W2c ?_ ?_ | refine Wg ?_ | refine W2 ?_ ?_ | exact Wdead | refine Wlive (fun hb => ?_) | intro _ _ _ _ _ _ _ _ | refine We ?_ | refine Wx ?_ | refine Wt ?_ | refine Wm ?_ | refine W2m ?_ ?_ | refine Wl ?_)
      | fail)
    refine mj_callL (h := truths_spec _ _ _ m s1 s2 s3 s4 hok) (k := ?_)
    refine MonoJ.normA ?_
    repeat' (first
      | (refine is_ucall ?_; first
        | refine st_callP (h := hours_spec _ _ _ m s1 s2 s3 s4 hok (by omega)) (k := ?_)
        | fail)
      | (refine is_umcall ?_; first
        | refine mj_callP (h := hours_spec _ _ _ m s1 s2 s3 s4 hok (by omega)) (k := ?_)
        | fail)
      | ((fail_if_success (first | refine is_ucall ?_ | refine is_umcall ?_)); first | refine W1 ?_ | refine Wc ?_ | refine W2c ?_ ?_ | refine Wg ?_ | refine W2 ?_ ?_ | exact Wdead | refine Wlive (fun hb => ?_) | intro _ _ _ _ _ _ _ _ | refine We ?_ | refine Wx ?_ | refine Wt ?_ | refine Wm ?_ | refine W2m ?_ ?_ | refine Wl ?_)
      | fail)
    have hmy := CopY.more (l := oneL (hrs m) h x) (i := H1.length + 1) (own := true) (H := H1 ++ [.row (encE (oneL (hrs m) h x)) 1 true, .row (encE (addL (hrs m) m.want (oneL (hrs m) h x))) 1 true, .row (ccells m s1 s2 s3 s4) 1 true]) (hm.ext (he.app _)).y hn5 (by simp)
    refine mj_callP (h := areAlways_spec _ _ _ (moreM m (oneL (hrs m) h x)) s1 _ s3 s4 _ (shH (H1.length + 2) s1 s2 s3 s4) (truthsL m) hmy hWm (iter_truths (b := H1.length + 2) (own := true) (hm.ext (he.app _)) hG.valid getA) (truths_tok hG.valid)) (k := ?_)
    rw [show (truthsL m).all (keptT (moreM m (oneL (hrs m) h x))) = spareB m h x from rfl]
    cases hsb : spareB m h x with
    | true =>
      rw [hsb, if_pos rfl] at hstep
      refine MonoJ.normA ?_
      repeat' (first
        | (refine is_ucall ?_; first
          | refine st_callP (h := hours_spec _ _ _ m s1 s2 s3 s4 hok (by omega)) (k := ?_)
          | fail)
        | (refine is_umcall ?_; first
          | refine mj_callP (h := hours_spec _ _ _ m s1 s2 s3 s4 hok (by omega)) (k := ?_)
          | fail)
        | ((fail_if_success (first | refine is_ucall ?_ | refine is_umcall ?_)); first | refine W1 ?_ | refine Wc ?_ | refine W2c ?_ ?_ | refine Wg ?_ | refine W2 ?_ ?_ | exact Wdead | refine Wlive (fun hb => ?_) | intro _ _ _ _ _ _ _ _ | refine We ?_ | refine Wx ?_ | refine Wt ?_ | refine Wm ?_ | refine W2m ?_ ?_ | refine Wl ?_)
        | fail)
      exact ⟨by rw [hs, hstep], rfl, rfl⟩
    | false =>
      rw [hsb, if_neg (by decide)] at hstep
      refine MonoJ.normA ?_
      repeat' (first
        | (refine is_ucall ?_; first
          | refine st_callP (h := hours_spec _ _ _ m s1 s2 s3 s4 hok (by omega)) (k := ?_)
          | fail)
        | (refine is_umcall ?_; first
          | refine mj_callP (h := hours_spec _ _ _ m s1 s2 s3 s4 hok (by omega)) (k := ?_)
          | fail)
        | ((fail_if_success (first | refine is_ucall ?_ | refine is_umcall ?_)); first | refine W1 ?_ | refine Wc ?_ | refine W2c ?_ ?_ | refine Wg ?_ | refine W2 ?_ ?_ | exact Wdead | refine Wlive (fun hb => ?_) | intro _ _ _ _ _ _ _ _ | refine We ?_ | refine Wx ?_ | refine Wt ?_ | refine Wm ?_ | refine W2m ?_ ?_ | refine Wl ?_)
        | fail)
      exact ⟨x - 1, hlt, (by repeat' (first | exact Weak.nil | refine Weak.wild ?_ | refine Weak.same ?_ | refine Weak.intEq (by first | omega | (simp; done) | (push_cast; omega)) ?_)), rfl, extA, getA, by omega, by rw [hs, hstep]⟩
  · obtain rfl : j = 20 := by omega
    have hx0 : x = 0 := by omega
    repeat' (first
      | (refine is_ucall ?_; first
        | refine st_callP (h := hours_spec _ _ _ m s1 s2 s3 s4 hok (by omega)) (k := ?_)
        | fail)
      | (refine is_umcall ?_; first
        | refine mj_callP (h := hours_spec _ _ _ m s1 s2 s3 s4 hok (by omega)) (k := ?_)
        | fail)
      | ((fail_if_success (first | refine is_ucall ?_ | refine is_umcall ?_)); first | refine W1 ?_ | refine Wc ?_ | refine W2c ?_ ?_ | refine Wg ?_ | refine W2 ?_ ?_ | exact Wdead | refine Wlive (fun hb => ?_) | intro _ _ _ _ _ _ _ _ | refine We ?_ | refine Wx ?_ | refine Wt ?_ | refine Wm ?_ | refine W2m ?_ ?_ | refine Wl ?_)
      | fail)
    exact ⟨by rw [hs]; rfl, rfl, rfl⟩
end
end Go.Proofs.Ytjbiidlmpaibkaa
namespace Go.Proofs.Ytjbiidlmpaibkaa
open Go Go.Abs Go.Proofs
set_option maxHeartbeats 800000
attribute [local irreducible] CallJ OpsJ WPJ CallV MonoJ
def allKept (m : CopM) : Bool := (truthsL m).all (keptT m)
def spareE (m : CopM) (h : Int) : Int := if checkS m = 0 then (if inR 0 m.last h then (if hasS m then (if allKept m then 0 else 10) else 11) else 2) else checkS m
def lacksF (m : CopM) (k : Nat) : Option Nat := (List.range k).find? fun j => decide ((keepsL m).getD j 0 ≠ 1)
section
variable {γ : Type} (E : Env γ) (g : γ) (H : AHeap)
theorem Spare_spec (m : CopM) (s1 s2 s3 s4 : Value) (h : Int) (hm : CopIs H m s1 s2 s3 s4) :
    CallJ Try.prog E 41 [cv m s1 s2 s3 s4, .int .i64 h] (fun v H' g' => v = .tuple #[.int .i64 (if spareE m h = 0 then spareS m h.toNat 20 else 0), .int .i64 (spareE m h)] ∧ H' = H ∧ g' = g) H g := by
  have hok := hm.cells
  refine CallJ.tidy ?_
  unfold cv
  refine CallJ.enter Try.func41 rfl (by simp only [Try.ntmps41, List.length_cons, List.length_nil, Nat.zero_add, Nat.reduceAdd, Nat.reduceSub, List.replicate_succ, List.replicate_zero, List.cons_append, List.nil_append]; rfl) ?_
  repeat' (first
    | (refine is_ucall ?_; first
      | refine st_callP (h := CheckCopper_spec _ _ _ m s1 s2 s3 s4 (hm.ext extA)) (k := ?_)
      | refine st_callP (h := hasHour_spec _ _ _ m s1 s2 s3 s4 _ hok) (k := ?_)
      | refine st_callP (h := hasTruth_spec _ _ _ m s1 s2 s3 s4 (hm.ext extA) (good_of (by assumption)).valid) (k := ?_)
      | fail)
    | (refine is_umcall ?_; first
      | refine mj_callP (h := CheckCopper_spec _ _ _ m s1 s2 s3 s4 (hm.ext extA)) (k := ?_)
      | refine mj_callP (h := hasHour_spec _ _ _ m s1 s2 s3 s4 _ hok) (k := ?_)
      | refine mj_callP (h := hasTruth_spec _ _ _ m s1 s2 s3 s4 (hm.ext extA) (good_of (by assumption)).valid) (k := ?_)
      | fail)
    | ((fail_if_success (first | refine is_ucall ?_ | refine is_umcall ?_)); first | refine W1 ?_ | refine Wc ?_ | refine W2c ?_ ?_ | refine Wg ?_ | refine W2 ?_ ?_ | exact Wdead | refine Wlive (fun hb => ?_) | intro _ _ _ _ _ _ _ _ | refine We ?_ | refine Wx ?_ | refine Wt ?_ | refine Wm ?_ | refine W2m ?_ ?_ | refine Wl ?_)
    | fail)
  · have e : spareE m h = checkS m := by unfold spareE; rw [if_neg (by assumption)]
    rw [e, if_neg (by assumption)]; exact ⟨rfl, rfl, rfl⟩
  · have e : spareE m h = 2 := by unfold spareE; rw [if_pos (by assumption), if_neg (ne_true_of_eq_false (by assumption))]
    rw [e]; exact ⟨rfl, rfl, rfl⟩
  · have e : spareE m h = 11 := by unfold spareE; rw [if_pos (by assumption), if_pos (by assumption), if_neg (ne_true_of_eq_false (by assumption))]
    rw [e]; exact ⟨rfl, rfl, rfl⟩
  · have hz : checkS m = 0 := by assumption
    have hhr : inR 0 m.last h = true := by assumption
    have hhs : hasS m = true := by assumption
    have hG := good_of hz
    obtain ⟨hn5, hnl⟩ := hrs_le hG.w
    simp only [inR, Bool.and_eq_true, decide_eq_true_eq] at hhr
    have hhn : ((h.toNat : Nat) : Int) = h := by omega
    have hsp : ∀ (H' : AHeap) (g' : γ), Ext H H' → CallJ Try.prog E 105 [cv m s1 s2 s3 s4, .int .i64 h] (fun v H2 g2 => v = .int .i64 (spareS m h.toNat 20) ∧ H2 = H' ∧ g2 = g') H' g' := fun H' g' he => by
      have := spare_spec E g' H' m s1 s2 s3 s4 h.toNat (hm.ext he) hG (by omega)
      rw [hhn] at this; exact this
    refine WPJ.draw 5 mixed (by kernel_rfl) (by kernel_rfl) (by kernel_rfl) (by decide) ?_
    refine MonoJ.normA ?_
    repeat' (first
      | (refine is_ucall ?_; first
        | refine st_callP (h := CheckCopper_spec _ _ _ m s1 s2 s3 s4 (hm.ext extA)) (k := ?_)
        | refine st_callP (h := hasHour_spec _ _ _ m s1 s2 s3 s4 _ hok) (k := ?_)
        | refine st_callP (h := hasTruth_spec _ _ _ m s1 s2 s3 s4 (hm.ext extA) (good_of (by assumption)).valid) (k := ?_)
        | fail)
      | (refine is_umcall ?_; first
        | refine mj_callP (h := CheckCopper_spec _ _ _ m s1 s2 s3 s4 (hm.ext extA)) (k := ?_)
        | refine mj_callP (h := hasHour_spec _ _ _ m s1 s2 s3 s4 _ hok) (k := ?_)
        | refine mj_callP (h := hasTruth_spec _ _ _ m s1 s2 s3 s4 (hm.ext extA) (good_of (by assumption)).valid) (k := ?_)
        | fail)
      | ((fail_if_success (first | refine is_ucall ?_ | refine is_umcall ?_)); first | refine W1 ?_ | refine Wc ?_ | refine W2c ?_ ?_ | refine Wg ?_ | refine W2 ?_ ?_ | exact Wdead | refine Wlive (fun hb => ?_) | intro _ _ _ _ _ _ _ _ | refine We ?_ | refine Wx ?_ | refine Wt ?_ | refine Wm ?_ | refine W2m ?_ ?_ | refine Wl ?_)
      | fail)
    refine mj_callL (h := truths_spec _ _ _ m s1 s2 s3 s4 hok) (k := ?_)
    refine MonoJ.normA ?_
    repeat' (first
      | (refine is_ucall ?_; first
        | refine st_callP (h := CheckCopper_spec _ _ _ m s1 s2 s3 s4 (hm.ext extA)) (k := ?_)
        | refine st_callP (h := hasHour_spec _ _ _ m s1 s2 s3 s4 _ hok) (k := ?_)
        | refine st_callP (h := hasTruth_spec _ _ _ m s1 s2 s3 s4 (hm.ext extA) (good_of (by assumption)).valid) (k := ?_)
        | fail)
      | (refine is_umcall ?_; first
        | refine mj_callP (h := CheckCopper_spec _ _ _ m s1 s2 s3 s4 (hm.ext extA)) (k := ?_)
        | refine mj_callP (h := hasHour_spec _ _ _ m s1 s2 s3 s4 _ hok) (k := ?_)
        | refine mj_callP (h := hasTruth_spec _ _ _ m s1 s2 s3 s4 (hm.ext extA) (good_of (by assumption)).valid) (k := ?_)
        | fail)
      | ((fail_if_success (first | refine is_ucall ?_ | refine is_umcall ?_)); first | refine W1 ?_ | refine Wc ?_ | refine W2c ?_ ?_ | refine Wg ?_ | refine W2 ?_ ?_ | exact Wdead | refine Wlive (fun hb => ?_) | intro _ _ _ _ _ _ _ _ | refine We ?_ | refine Wx ?_ | refine Wt ?_ | refine Wm ?_ | refine W2m ?_ ?_ | refine Wl ?_)
      | fail)
    refine mj_callP (h := areAlways_spec _ _ _ m s1 s2 s3 s4 _ (shH (H.length + 1) s1 s2 s3 s4) (truthsL m) (hm.ext extA).y hG.w (iter_truths (b := H.length + 1) (own := true) (hm.ext extA) hG.valid getA) (truths_tok hG.valid)) (k := ?_)
    rw [show (truthsL m).all (keptT m) = allKept m from rfl]
    have hin : inR 0 m.last h = true := by assumption
    cases hk : allKept m with
    | true =>
      have e : spareE m h = 0 := by unfold spareE; rw [if_pos hz, if_pos hin, if_pos hhs, hk]; rfl
      refine MonoJ.normA ?_
      repeat' (first
        | (refine is_ucall ?_; first
          | refine st_callP (h := CheckCopper_spec _ _ _ m s1 s2 s3 s4 (hm.ext extA)) (k := ?_)
          | refine st_callP (h := hasHour_spec _ _ _ m s1 s2 s3 s4 _ hok) (k := ?_)
          | refine st_callP (h := hasTruth_spec _ _ _ m s1 s2 s3 s4 (hm.ext extA) (good_of (by assumption)).valid) (k := ?_)
          | fail)
        | (refine is_umcall ?_; first
          | refine mj_callP (h := CheckCopper_spec _ _ _ m s1 s2 s3 s4 (hm.ext extA)) (k := ?_)
          | refine mj_callP (h := hasHour_spec _ _ _ m s1 s2 s3 s4 _ hok) (k := ?_)
          | refine mj_callP (h := hasTruth_spec _ _ _ m s1 s2 s3 s4 (hm.ext extA) (good_of (by assumption)).valid) (k := ?_)
          | fail)
        | ((fail_if_success (first | refine is_ucall ?_ | refine is_umcall ?_)); first | refine W1 ?_ | refine Wc ?_ | refine W2c ?_ ?_ | refine Wg ?_ | refine W2 ?_ ?_ | exact Wdead | refine Wlive (fun hb => ?_) | intro _ _ _ _ _ _ _ _ | refine We ?_ | refine Wx ?_ | refine Wt ?_ | refine Wm ?_ | refine W2m ?_ ?_ | refine Wl ?_)
        | fail)
      refine st_callP (h := hsp _ _ extA) (k := ?_)
      refine OpsJ.normA ?_
      repeat' (first
        | (refine is_ucall ?_; first
          | refine st_callP (h := CheckCopper_spec _ _ _ m s1 s2 s3 s4 (hm.ext extA)) (k := ?_)
          | refine st_callP (h := hasHour_spec _ _ _ m s1 s2 s3 s4 _ hok) (k := ?_)
          | refine st_callP (h := hasTruth_spec _ _ _ m s1 s2 s3 s4 (hm.ext extA) (good_of (by assumption)).valid) (k := ?_)
          | fail)
        | (refine is_umcall ?_; first
          | refine mj_callP (h := CheckCopper_spec _ _ _ m s1 s2 s3 s4 (hm.ext extA)) (k := ?_)
          | refine mj_callP (h := hasHour_spec _ _ _ m s1 s2 s3 s4 _ hok) (k := ?_)
          | refine mj_callP (h := hasTruth_spec _ _ _ m s1 s2 s3 s4 (hm.ext extA) (good_of (by assumption)).valid) (k := ?_)
          | fail)
        | ((fail_if_success (first | refine is_ucall ?_ | refine is_umcall ?_)); first | refine W1 ?_ | refine Wc ?_ | refine W2c ?_ ?_ | refine Wg ?_ | refine W2 ?_ ?_ | exact Wdead | refine Wlive (fun hb => ?_) | intro _ _ _ _ _ _ _ _ | refine We ?_ | refine Wx ?_ | refine Wt ?_ | refine Wm ?_ | refine W2m ?_ ?_ | refine Wl ?_)
        | fail)
      rw [e]; exact ⟨rfl, rfl, rfl⟩
    | false =>
      have e : spareE m h = 10 := by unfold spareE; rw [if_pos hz, if_pos hin, if_pos hhs, hk]; rfl
      refine MonoJ.normA ?_
      repeat' (first
        | (refine is_ucall ?_; first
          | refine st_callP (h := CheckCopper_spec _ _ _ m s1 s2 s3 s4 (hm.ext extA)) (k := ?_)
          | refine st_callP (h := hasHour_spec _ _ _ m s1 s2 s3 s4 _ hok) (k := ?_)
          | refine st_callP (h := hasTruth_spec _ _ _ m s1 s2 s3 s4 (hm.ext extA) (good_of (by assumption)).valid) (k := ?_)
          | fail)
        | (refine is_umcall ?_; first
          | refine mj_callP (h := CheckCopper_spec _ _ _ m s1 s2 s3 s4 (hm.ext extA)) (k := ?_)
          | refine mj_callP (h := hasHour_spec _ _ _ m s1 s2 s3 s4 _ hok) (k := ?_)
          | refine mj_callP (h := hasTruth_spec _ _ _ m s1 s2 s3 s4 (hm.ext extA) (good_of (by assumption)).valid) (k := ?_)
          | fail)
        | ((fail_if_success (first | refine is_ucall ?_ | refine is_umcall ?_)); first | refine W1 ?_ | refine Wc ?_ | refine W2c ?_ ?_ | refine Wg ?_ | refine W2 ?_ ?_ | exact Wdead | refine Wlive (fun hb => ?_) | intro _ _ _ _ _ _ _ _ | refine We ?_ | refine Wx ?_ | refine Wt ?_ | refine Wm ?_ | refine W2m ?_ ?_ | refine Wl ?_)
        | fail)
      rw [e]; exact ⟨rfl, rfl, rfl⟩
theorem Lacks_spec (m : CopM) (s1 s2 s3 s4 : Value) (hm : CopIs H m s1 s2 s3 s4) :
    CallJ Try.prog E 36 [cv m s1 s2 s3 s4] (fun v H' g' => v = (if checkT m = 0 then (match lacksF m (hrs m) with | some j => .tuple #[.int .i64 j, .int .i64 0] | none => .tuple #[.int .i64 0, .int .i64 7]) else .tuple #[.int .i64 0, .int .i64 (checkT m)]) ∧ H' = H ∧ g' = g) H g := by
  have hok := hm.cells
  refine CallJ.tidy ?_
  unfold cv
  refine CallJ.enter Try.func36 rfl (by simp only [Try.ntmps36, List.length_cons, List.length_nil, Nat.zero_add, Nat.reduceSub, List.replicate_succ, List.replicate_zero, List.cons_append, List.nil_append]; rfl) ?_
  repeat' (first
    | ((fail_if_success (first | refine is_ucall ?_ | refine is_umcall ?_)); first | refine W1 ?_ | refine Wc ?_ | refine W2c ?_ ?_ | refine Wg ?_ | refine W2 ?_ ?_ | exact Wdead | refine Wlive (fun hb => ?_) | intro _ _ _ _ _ _ _ _ | refine We ?_ | refine Wx ?_ | refine Wt ?_ | refine Wm ?_ | refine W2m ?_ ?_ | refine Wl ?_)
    | fail)
  refine st_call rfl (Keeps_spec E _ _ m s1 s2 s3 s4 (hm.ext extA)) ?_
  rintro v H1 g1 ⟨hA, rfl⟩
  unfold IntsA at hA
  by_cases hz : checkT m = 0
  · rw [if_pos hz] at hA ⊢
    obtain ⟨rfl, rfl⟩ := hA
    have hkl : (keepsL m).length = hrs m := by simp [keepsL]
    have hG := good_of (checkT_zero hz)
    obtain ⟨hn5, hnl⟩ := hrs_le hG.w
    have hrd : RdS (H ++ [.row (ccells m s1 s2 s3 s4) 1 true, .row (encE (keepsL m)) 1 true]) (.slice (some ⟨H.length + 1, 0, none⟩) (keepsL m).length (keepsL m).length) 1 (encI (keepsL m)) := rd_encE (own := true) (cs := encE (keepsL m)) getA (List.take_of_length_le (by simp [encE]))
    refine OpsJ.normA ?_
    repeat' (first
      | ((fail_if_success (first | refine is_ucall ?_ | refine is_umcall ?_)); first | refine W1 ?_ | refine Wc ?_ | refine W2c ?_ ?_ | refine Wg ?_ | refine W2 ?_ ?_ | exact Wdead | refine Wlive (fun hb => ?_) | intro _ _ _ _ _ _ _ _ | refine We ?_ | refine Wx ?_ | refine Wt ?_ | refine Wm ?_ | refine W2m ?_ ?_ | refine Wl ?_)
      | fail)
    refine WPJ.loopT (keepsL m).length [19, 20, 21, 22, 6, 7, 23, 24, 25, 26] (fun j (_ : Unit) => [(18, .int .i64 j)])
      (fun j _ H2 g2 => g2 = g1 ∧ H2 = H ++ [.row (ccells m s1 s2 s3 s4) 1 true, .row (encE (keepsL m)) 1 true] ∧ lacksF m j = none) 0 () (Nat.zero_le _) (by intro p hp; simp at hp; rcases hp with rfl; rfl) ⟨rfl, rfl, rfl⟩ ?_
    rintro j _ H2 g2 hj ⟨rfl, rfl, hx⟩ hl0
    simp only [updT, maskT, List.set_cons_zero, List.set_cons_succ]
    rcases Nat.lt_or_ge j (keepsL m).length with hlt | hge
    · have hel : (encI (keepsL m))[j]? = some [.int .i64 (keepsL m)[j]] := by simp [hlt]
      have hgd : (keepsL m).getD j 0 = (keepsL m)[j] := by simp [List.getD, hlt]
      have hst : lacksF m (j + 1) = if (keepsL m)[j] ≠ 1 then some j else none := by
        unfold lacksF at hx ⊢
        rw [List.range_succ, List.find?_append, hx, Option.none_or, List.find?_cons, hgd]
        by_cases h : (keepsL m)[j] = 1 <;> simp [h]
      have hfi : (keepsL m)[j] ≠ 1 → lacksF m (hrs m) = some j := fun h => by
        rw [if_pos h] at hst
        obtain ⟨d, hd⟩ : ∃ d, hrs m = j + 1 + d := ⟨hrs m - (j + 1), by omega⟩
        unfold lacksF at hst ⊢
        rw [hd, List.range_add, List.find?_append, hst]; rfl
      generalize (keepsL m)[j] = x at *
      repeat' (first
        | ((fail_if_success (first | refine is_ucall ?_ | refine is_umcall ?_)); first | refine W1 ?_ | refine Wc ?_ | refine W2c ?_ ?_ | refine Wg ?_ | refine W2 ?_ ?_ | exact Wdead | refine Wlive (fun hb => ?_) | intro _ _ _ _ _ _ _ _ | refine We ?_ | refine Wx ?_ | refine Wt ?_ | refine Wm ?_ | refine W2m ?_ ?_ | refine Wl ?_)
        | fail)
      · rw [hfi (by assumption)]; exact ⟨rfl, rfl, rfl⟩
      · refine ⟨(), hlt, (by repeat' (first | exact Weak.nil | refine Weak.wild ?_ | refine Weak.same ?_ | refine Weak.intEq (by first | omega | (simp; done) | (push_cast; omega)) ?_)), rfl, rfl, ?_⟩
        rw [hst, if_neg (by simpa using (by assumption))]
    · obtain rfl : j = (keepsL m).length := by omega
      rw [← hkl, hx]
      repeat' (first
        | ((fail_if_success (first | refine is_ucall ?_ | refine is_umcall ?_)); first | refine W1 ?_ | refine Wc ?_ | refine W2c ?_ ?_ | refine Wg ?_ | refine W2 ?_ ?_ | exact Wdead | refine Wlive (fun hb => ?_) | intro _ _ _ _ _ _ _ _ | refine We ?_ | refine Wx ?_ | refine Wt ?_ | refine Wm ?_ | refine W2m ?_ ?_ | refine Wl ?_)
        | fail)
      exact ⟨rfl, rfl, rfl⟩
  · rw [if_neg hz] at hA ⊢
    obtain ⟨rfl, rfl⟩ := hA
    refine OpsJ.normA ?_
    repeat' (first
      | ((fail_if_success (first | refine is_ucall ?_ | refine is_umcall ?_)); first | refine W1 ?_ | refine Wc ?_ | refine W2c ?_ ?_ | refine Wg ?_ | refine W2 ?_ ?_ | exact Wdead | refine Wlive (fun hb => ?_) | intro _ _ _ _ _ _ _ _ | refine We ?_ | refine Wx ?_ | refine Wt ?_ | refine Wm ?_ | refine W2m ?_ ?_ | refine Wl ?_)
      | fail)
    all_goals exact ⟨rfl, rfl, rfl⟩
end
end Go.Proofs.Ytjbiidlmpaibkaa
namespace Go.Proofs.Ytjbiidlmpaibkaa
open Go Go.Abs Go.Proofs
set_option maxHeartbeats 800000
attribute [local irreducible] CallJ OpsJ WPJ CallV MonoJ
section
variable {γ : Type} (E : Env γ) (g : γ) (H : AHeap)
theorem CopIs.low {H : AHeap} {m : CopM} {s1 s2 s3 s4 : Value} (hm : CopIs H m s1 s2 s3 s4) : ∀ v ∈ ccells m s1 s2 s3 s4, Low H.length v := by
  intro v hv
  simp only [ccells, List.mem_cons, List.not_mem_nil, or_false] at hv
  rcases hv with rfl | rfl | rfl | rfl | rfl | rfl | rfl | rfl | rfl | rfl | rfl
  · exact .flat rfl
  · exact .flat rfl
  · exact .flat rfl
  · exact .flat rfl
  · exact .flat rfl
  · exact RdS.low hm.coal
  · exact RdS.low hm.want
  · exact .flat rfl
  · exact .flat rfl
  · exact RdS.low hm.loss
  · exact RdS.low hm.reads
theorem withReadings_spec (m : CopM) (s1 s2 s3 s4 : Value) (a : Option Addr) (n c : Nat) (hok : (ccells m s1 s2 s3 s4).all cellOk = true) (hlow : ∀ v ∈ ccells m s1 s2 s3 (.slice a n c), Low H.length v) : CallJ Try.prog E 107 [cv m s1 s2 s3 s4, .slice a n c] (fun v H' g' => v = .agg ⟨ccells m s1 s2 s3 (.slice a n c)⟩ ∧ H' = H ∧ g' = g) H g := by
  have hok2 : (ccells m s1 s2 s3 (.slice a n c)).all cellOk = true := by
    simp [cellOk] at hok ⊢; exact ⟨hok.1, hok.2.1, hok.2.2.1⟩
  refine CallJ.tidy ?_
  unfold cv
  refine CallJ.enter Try.func107 rfl (by simp only [Try.ntmps107, List.length_cons, List.length_nil, Nat.zero_add, Nat.reduceAdd, Nat.reduceSub, List.replicate_succ, List.replicate_zero, List.cons_append, List.nil_append]; rfl) ?_
  repeat' (first
    | ((fail_if_success (first | refine is_ucall ?_ | refine is_umcall ?_)); first | refine W1 ?_ | refine Wc ?_ | refine W2c ?_ ?_ | refine Wg ?_ | refine W2 ?_ ?_ | exact Wdead | refine Wlive (fun hb => ?_) | intro _ _ _ _ _ _ _ _ | refine We ?_ | refine Wx ?_ | refine Wt ?_ | refine Wm ?_ | refine W2m ?_ ?_ | refine Wl ?_)
    | fail)
  exact Tidy.ext extA (.low (.agg hlow)) ⟨rfl, rfl, rfl⟩
def upto (m : CopM) (n : Nat) : CopM := { m with reads := m.reads.take n }
def firstS (p : Nat → Bool) (n : Nat) : Option Nat := (List.range n).find? p
def firstA (m : CopM) : Option Nat := firstS (fun j => !hasS (upto m (j + 1))) m.reads.length
def firstE (m : CopM) : Int := if checkS m = 0 then (if (firstA m).isSome then 0 else 7) else checkS m
def firstV (m : CopM) : Int := if checkS m = 0 then ((firstA m).getD 0 : Nat) else 0
theorem firstS_none {p : Nat → Bool} {n : Nat} (h : ∀ k < n, p k = false) : firstS p n = none := by
  unfold firstS
  rw [List.find?_eq_none]
  intro x hx
  rw [h x (List.mem_range.1 hx)]; simp
theorem firstS_some {p : Nat → Bool} {n j : Nat} (hj : j < n) (hp : p j = true) (h : ∀ k < j, p k = false) : firstS p n = some j := by
  unfold firstS
  rw [List.find?_eq_some_iff_getElem]
  refine ⟨hp, j, by simpa using hj, by simp, fun k hk => ?_⟩
  simp [h k hk]
theorem RdS.take {H : AHeap} {i o n c es : Nat} {row : List Value} {es' : Nat} {own : Bool} {xs : List (List Value)} (h1 : ∀ x ∈ xs, x.length = es) (hi : H[i]? = some (.row row es' own)) (hl : o + xs.length * es ≤ row.length) (he : (row.drop o).take (xs.length * es) = xs.flatten) (hn : n ≤ xs.length) :
    RdS H (.slice (some ⟨i, o, none⟩) n c) es (xs.take n) := by
  have hmul : n * es ≤ xs.length * es := Nat.mul_le_mul_right _ hn
  have hln : (xs.take n).length = n := by simp; omega
  refine ⟨fun x hx => h1 x (List.mem_of_mem_take hx), .inl ⟨i, o, c, row, es', own, by rw [hln], hi, by rw [hln]; omega, ?_⟩⟩
  rw [hln]
  have e : (xs.take n).flatten = xs.flatten.take (n * es) := by
    have e2 : ((xs.take n).flatten).length = n * es := by
      have key : ∀ l : List (List Value), (∀ x ∈ l, x.length = es) → l.flatten.length = l.length * es := by
        intro l
        induction l with
        | nil => simp
        | cons x l ih => intro h; have := h x (by simp); have := ih (fun y hy => h y (by simp [hy])); simp_all [Nat.add_mul]; omega
      rw [key _ fun x hx => h1 x (List.mem_of_mem_take hx), hln]
    conv => rhs; rw [← List.take_append_drop n xs, List.flatten_append]
    rw [← e2, List.take_left']
    rfl
  rw [e, ← he, List.take_take, Nat.min_eq_left hmul]
theorem upto_is {H : AHeap} {m : CopM} {s1 s2 s3 : Value} {i o n c k j : Nat} (hm : CopIs H m s1 s2 s3 (.slice (some ⟨i, o, none⟩) m.reads.length c)) {row : List Value} {es' : Nat} {own : Bool}
    (hi : H[i]? = some (.row row es' own)) (hl : o + m.reads.length * 3 ≤ row.length) (he : (row.drop o).take (m.reads.length * 3) = (m.reads.map encD).flatten) (hk : k = j + 1) (hj : j < m.reads.length) : CopIs H (upto m (j + 1)) s1 s2 s3 (.slice (some ⟨i, o, none⟩) k n) := by
  refine ⟨hm.coal, hm.want, hm.loss, ?_, ?_, hm.n1, hm.n2, hm.n3, ?_, hm.p1, hm.p2, hm.p3, ?_⟩
  · have := RdS.take (n := k) (c := n) (es := 3) (xs := m.reads.map encD) hm.reads.1 hi (by simpa using hl) (by simpa using he) (by simp; omega)
    simpa [upto, List.map_take, hk] using this
  · have := hm.ok; simp [cellOk] at this ⊢; exact ⟨this.1, this.2.1, this.2.2⟩
  · have := hm.n4; simp [upto]; omega
  · exact fun x hx => hm.p4 x hx
theorem WOk.reads {m : CopM} (h : WOk m) (r : List ReadM) : WOk { m with reads := r } := ⟨h.l0, h.l4, h.most, h.start, h.per, h.cl, h.wl, h.c3, h.w40⟩
theorem Good.reads {m : CopM} (hG : Good m) {r : List ReadM} (hr : r.Sublist m.reads) : Good { m with reads := r } := ⟨hG.w.reads r, hG.ll, hG.lb, hG.hh, fun x hx => hG.rd x (hr.subset hx), Nat.le_trans hr.length_le hG.nr, hG.sh, hG.wn, hG.cs, hG.sz⟩
theorem upto_good {m : CopM} (hG : Good m) (n : Nat) : Good (upto m n) := hG.reads (List.take_sublist _ _)
theorem First_spec (m : CopM) (s1 s2 s3 s4 : Value) (hm : CopIs H m s1 s2 s3 s4) : CallJ Try.prog E 47 [cv m s1 s2 s3 s4] (fun v H' g' => v = .tuple #[.int .i64 (firstV m), .int .i64 (firstE m)] ∧ H' = H ∧ g' = g) H g := by
  have hok := hm.cells
  have hrc := hm.reads
  by_cases hz : checkS m = 0
  · have hG := good_of hz
    have hn3 := hG.nr
    rcases hm.reads with ⟨h1, ⟨i, o, c, row, es', own, rfl, hi, hl, he⟩ | ⟨h0, h2⟩⟩
    · simp only [List.length_map] at hok hrc hm hl he ⊢
      refine CallJ.tidy ?_
      unfold cv
      refine CallJ.enter Try.func47 rfl (by simp only [Try.ntmps47, List.length_cons, List.length_nil, Nat.zero_add, Nat.reduceSub, List.replicate_succ, List.replicate_zero, List.cons_append, List.nil_append]; rfl) ?_
      repeat' (first
        | (refine is_ucall ?_; first
          | refine st_callP (h := CheckCopper_spec _ _ _ m s1 s2 s3 _ (hm.ext extA)) (k := ?_)
          | fail)
        | (refine is_umcall ?_; first
          | refine mj_callP (h := CheckCopper_spec _ _ _ m s1 s2 s3 _ (hm.ext extA)) (k := ?_)
          | fail)
        | ((fail_if_success (first | refine is_ucall ?_ | refine is_umcall ?_)); first | refine W1 ?_ | refine Wc ?_ | refine W2c ?_ ?_ | refine Wg ?_ | refine W2 ?_ ?_ | exact Wdead | refine Wlive (fun hb => ?_) | intro _ _ _ _ _ _ _ _ | refine We ?_ | refine Wx ?_ | refine Wt ?_ | refine Wm ?_ | refine W2m ?_ ?_ | refine Wl ?_)
        | fail)
      refine WPJ.loopT m.reads.length [15, 16, 5, 17, 18, 19, 20, 21, 22, 23, 24, 25, 26, 27] (fun j (_ : Unit) => [(14, .int .i64 j)])
        (fun j _ H1 g1 => g1 = g ∧ Ext H H1 ∧ H1[H.length]? = some (.row (ccells m s1 s2 s3 (.slice (some ⟨i, o, none⟩) m.reads.length c)) 1 true) ∧ (∀ k < j, hasS (upto m (k + 1)) = true) ∧ H.length < H1.length) 0 () (Nat.zero_le _)
        (by intro p hp; simp at hp; rcases hp with rfl; rfl) ⟨rfl, extA, getA, by intro k hk; omega, by simp⟩ ?_
      rintro j _ H1 g1 hj ⟨rfl, hee, hb1, hall, hlen⟩ hl0
      simp only [updT, maskT, List.set_cons_zero, List.set_cons_succ]
      rcases Nat.lt_or_ge j m.reads.length with hlt | hge
      · skip
        repeat' (first
          | (refine is_ucall ?_; first
            | refine st_callP (h := CheckCopper_spec _ _ _ m s1 s2 s3 _ (hm.ext extA)) (k := ?_)
            | fail)
          | (refine is_umcall ?_; first
            | refine mj_callP (h := CheckCopper_spec _ _ _ m s1 s2 s3 _ (hm.ext extA)) (k := ?_)
            | fail)
          | ((fail_if_success (first | refine is_ucall ?_ | refine is_umcall ?_)); first | refine W1 ?_ | refine Wc ?_ | refine W2c ?_ ?_ | refine Wg ?_ | refine W2 ?_ ?_ | exact Wdead | refine Wlive (fun hb => ?_) | intro _ _ _ _ _ _ _ _ | refine We ?_ | refine Wx ?_ | refine Wt ?_ | refine Wm ?_ | refine W2m ?_ ?_ | refine Wl ?_)
          | fail)
        refine WPJ.draw 9 mixed (by kernel_rfl) (by kernel_rfl) (by kernel_rfl) (by decide) ?_
        refine MonoJ.normA ?_
        repeat' (first
          | (refine is_ucall ?_; first
            | refine st_callP (h := CheckCopper_spec _ _ _ m s1 s2 s3 _ (hm.ext extA)) (k := ?_)
            | fail)
          | (refine is_umcall ?_; first
            | refine mj_callP (h := CheckCopper_spec _ _ _ m s1 s2 s3 _ (hm.ext extA)) (k := ?_)
            | fail)
          | ((fail_if_success (first | refine is_ucall ?_ | refine is_umcall ?_)); first | refine W1 ?_ | refine Wc ?_ | refine W2c ?_ ?_ | refine Wg ?_ | refine W2 ?_ ?_ | exact Wdead | refine Wlive (fun hb => ?_) | intro _ _ _ _ _ _ _ _ | refine We ?_ | refine Wx ?_ | refine Wt ?_ | refine Wm ?_ | refine W2m ?_ ?_ | refine Wl ?_)
          | fail)
        have hu : CopIs H1 (upto m (j + 1)) s1 s2 s3 (.slice (some ⟨i, o, none⟩) ((j : Int) + 1).toNat ((j : Int) + 1).toNat) := upto_is (hm.ext hee) (hee.get hi) hl he (by omega) hlt
        refine mj_callP (h := withReadings_spec _ _ _ m s1 s2 s3 _ _ _ _ hok hu.low) (k := ?_)
        refine mj_callP (h := hasTruth_spec _ _ _ (upto m (j + 1)) s1 s2 s3 _ hu (upto_good hG _).valid) (k := ?_)
        repeat' (first
          | (refine is_ucall ?_; first
            | refine st_callP (h := CheckCopper_spec _ _ _ m s1 s2 s3 _ (hm.ext extA)) (k := ?_)
            | fail)
          | (refine is_umcall ?_; first
            | refine mj_callP (h := CheckCopper_spec _ _ _ m s1 s2 s3 _ (hm.ext extA)) (k := ?_)
            | fail)
          | ((fail_if_success (first | refine is_ucall ?_ | refine is_umcall ?_)); first | refine W1 ?_ | refine Wc ?_ | refine W2c ?_ ?_ | refine Wg ?_ | refine W2 ?_ ?_ | exact Wdead | refine Wlive (fun hb => ?_) | intro _ _ _ _ _ _ _ _ | refine We ?_ | refine Wx ?_ | refine Wt ?_ | refine Wm ?_ | refine W2m ?_ ?_ | refine Wl ?_)
          | fail)
        · have e : firstA m = some j := firstS_some hlt (by simp [*]) fun k hk => by simp [hall k hk]
          refine ⟨?_, rfl, rfl⟩
          simp [firstV, firstE, hz, e]
        · refine ⟨(), hlt, (by repeat' (first | exact Weak.nil | refine Weak.wild ?_ | refine Weak.same ?_ | refine Weak.intEq (by first | omega | (simp; done) | (push_cast; omega)) ?_)), rfl, extA, hb1, fun k hk => ?_, hlen⟩
          rcases Nat.lt_or_ge k j with h | h
          · exact hall k h
          · obtain rfl : k = j := by omega
            assumption
      · have hj' : j = m.reads.length := by omega
        repeat' (first
          | (refine is_ucall ?_; first
            | refine st_callP (h := CheckCopper_spec _ _ _ m s1 s2 s3 _ (hm.ext extA)) (k := ?_)
            | fail)
          | (refine is_umcall ?_; first
            | refine mj_callP (h := CheckCopper_spec _ _ _ m s1 s2 s3 _ (hm.ext extA)) (k := ?_)
            | fail)
          | ((fail_if_success (first | refine is_ucall ?_ | refine is_umcall ?_)); first | refine W1 ?_ | refine Wc ?_ | refine W2c ?_ ?_ | refine Wg ?_ | refine W2 ?_ ?_ | exact Wdead | refine Wlive (fun hb => ?_) | intro _ _ _ _ _ _ _ _ | refine We ?_ | refine Wx ?_ | refine Wt ?_ | refine Wm ?_ | refine W2m ?_ ?_ | refine Wl ?_)
          | fail)
        have e : firstA m = none := firstS_none fun k hk => by simp [hall k (by omega)]
        refine ⟨?_, rfl, rfl⟩
        simp [firstV, firstE, hz, e]
    · have hc0 : m.reads.length = 0 := by simpa using congrArg List.length h0
      have e : firstA m = none := firstS_none fun k hk => by omega
      have e1 : firstV m = 0 := by simp [firstV, hz, e]
      have e2 : firstE m = 7 := by simp [firstE, hz, e]
      rw [e1, e2]
      refine CallJ.tidy ?_
      unfold cv
      refine CallJ.enter Try.func47 rfl (by simp only [Try.ntmps47, List.length_cons, List.length_nil, Nat.zero_add, Nat.reduceSub, List.replicate_succ, List.replicate_zero, List.cons_append, List.nil_append]; rfl) ?_
      repeat' (first
        | (refine is_ucall ?_; first
          | refine st_callP (h := CheckCopper_spec _ _ _ m s1 s2 s3 _ (hm.ext extA)) (k := ?_)
          | fail)
        | (refine is_umcall ?_; first
          | refine mj_callP (h := CheckCopper_spec _ _ _ m s1 s2 s3 _ (hm.ext extA)) (k := ?_)
          | fail)
        | ((fail_if_success (first | refine is_ucall ?_ | refine is_umcall ?_)); first | refine W1 ?_ | refine Wc ?_ | refine W2c ?_ ?_ | refine Wg ?_ | refine W2 ?_ ?_ | exact Wdead | refine Wlive (fun hb => ?_) | intro _ _ _ _ _ _ _ _ | refine We ?_ | refine Wx ?_ | refine Wt ?_ | refine Wm ?_ | refine W2m ?_ ?_ | refine Wl ?_)
        | fail)
      refine WPJ.loopT 0 [15] (fun j (_ : Unit) => [(14, .int .i64 j)]) (fun j _ H1 g1 => g1 = g ∧ Ext H H1) 0 () (Nat.zero_le _)
        (by intro p hp; simp at hp; rcases hp with rfl; rfl) ⟨rfl, extA⟩ ?_
      rintro j _ H1 g1 hj ⟨rfl, hee⟩ hl0
      simp only [updT, maskT, List.set_cons_zero, List.set_cons_succ]
      repeat' (first
        | (refine is_ucall ?_; first
          | refine st_callP (h := CheckCopper_spec _ _ _ m s1 s2 s3 _ (hm.ext extA)) (k := ?_)
          | fail)
        | (refine is_umcall ?_; first
          | refine mj_callP (h := CheckCopper_spec _ _ _ m s1 s2 s3 _ (hm.ext extA)) (k := ?_)
          | fail)
        | ((fail_if_success (first | refine is_ucall ?_ | refine is_umcall ?_)); first | refine W1 ?_ | refine Wc ?_ | refine W2c ?_ ?_ | refine Wg ?_ | refine W2 ?_ ?_ | exact Wdead | refine Wlive (fun hb => ?_) | intro _ _ _ _ _ _ _ _ | refine We ?_ | refine Wx ?_ | refine Wt ?_ | refine Wm ?_ | refine W2m ?_ ?_ | refine Wl ?_)
        | fail)
      all_goals first | omega | exact ⟨rfl, rfl, rfl⟩
  · have e1 : firstV m = 0 := by unfold firstV; rw [if_neg hz]
    have e2 : firstE m = checkS m := by unfold firstE; rw [if_neg hz]
    refine CallJ.tidy ?_
    unfold cv
    rw [e1, e2]
    refine CallJ.enter Try.func47 rfl (by simp only [Try.ntmps47, List.length_cons, List.length_nil, Nat.zero_add, Nat.reduceSub, List.replicate_succ, List.replicate_zero, List.cons_append, List.nil_append]; rfl) ?_
    repeat' (first
      | (refine is_ucall ?_; first
        | refine st_callP (h := CheckCopper_spec _ _ _ m s1 s2 s3 _ (hm.ext extA)) (k := ?_)
        | fail)
      | (refine is_umcall ?_; first
        | refine mj_callP (h := CheckCopper_spec _ _ _ m s1 s2 s3 _ (hm.ext extA)) (k := ?_)
        | fail)
      | ((fail_if_success (first | refine is_ucall ?_ | refine is_umcall ?_)); first | refine W1 ?_ | refine Wc ?_ | refine W2c ?_ ?_ | refine Wg ?_ | refine W2 ?_ ?_ | exact Wdead | refine Wlive (fun hb => ?_) | intro _ _ _ _ _ _ _ _ | refine We ?_ | refine Wx ?_ | refine Wt ?_ | refine Wm ?_ | refine W2m ?_ ?_ | refine Wl ?_)
      | fail)
    exact ⟨rfl, rfl, rfl⟩
end
end Go.Proofs.Ytjbiidlmpaibkaa
namespace Go.Proofs.Ytjbiidlmpaibkaa
open Go Go.Abs Go.Proofs
set_option maxHeartbeats 800000
attribute [local irreducible] CallJ OpsJ WPJ CallV MonoJ
section
variable {γ : Type} (E : Env γ) (g : γ) (H : AHeap)
def indexS (l : List Int) (x : Int) : Int := match (List.range l.length).find? (fun j => x == l.getD j 0) with | some j => j | none => -1
theorem Index_spec (sv : Value) (l : List Int) (x : Int) (hr : RdS H sv 1 (encI l)) (hn : l.length ≤ 1000000) : CallJ Try.prog E 142 [sv, .int .i64 x] (fun v H' g' => v = .int .i64 (indexS l x) ∧ H' = H ∧ g' = g) H g := by
  refine CallJ.tidy ?_
  refine CallJ.enter Try.func142 rfl (by simp only [Try.ntmps142, List.length_cons, List.length_nil, Nat.zero_add, Nat.reduceAdd, Nat.reduceSub, List.replicate_succ, List.replicate_zero, List.cons_append, List.nil_append]; rfl) ?_
  repeat' (first
    | ((fail_if_success (first | refine is_ucall ?_ | refine is_umcall ?_)); first | refine W1 ?_ | refine Wc ?_ | refine W2c ?_ ?_ | refine Wg ?_ | refine W2 ?_ ?_ | exact Wdead | refine Wlive (fun hb => ?_) | intro _ _ _ _ _ _ _ _ | refine We ?_ | refine Wx ?_ | refine Wt ?_ | refine Wm ?_ | refine W2m ?_ ?_ | refine Wl ?_)
    | fail)
  refine WPJ.loopT l.length [9, 10, 5, 11, 12, 13, 14, 15, 16, 17, 18] (fun j (_ : Unit) => [(8, .int .i64 j)]) (fun j _ H1 g1 => H1 = H ∧ g1 = g ∧ ∀ k < j, (x == l.getD k 0) = false) 0 () (Nat.zero_le _)
    (by intro p hp; simp at hp; rcases hp with rfl; rfl) ⟨rfl, rfl, by intro k hk; omega⟩ ?_
  rintro j _ H1 g1 hj ⟨rfl, rfl, hx⟩ hl
  simp only [updT, maskT, List.set_cons_zero, List.set_cons_succ]
  rcases Nat.lt_or_ge j l.length with hlt | hge
  · have hel : (encI l)[j]? = some [.int .i64 l[j]] := by simp [hlt]
    have hgd : l.getD j 0 = l[j] := by simp [hlt]
    generalize l[j] = y at *
    repeat' (first
      | ((fail_if_success (first | refine is_ucall ?_ | refine is_umcall ?_)); first | refine W1 ?_ | refine Wc ?_ | refine W2c ?_ ?_ | refine Wg ?_ | refine W2 ?_ ?_ | exact Wdead | refine Wlive (fun hb => ?_) | intro _ _ _ _ _ _ _ _ | refine We ?_ | refine Wx ?_ | refine Wt ?_ | refine Wm ?_ | refine W2m ?_ ?_ | refine Wl ?_)
      | fail)
    · have e := firstS_some hlt (p := fun j => x == l.getD j 0) (by rw [hgd]; simp [*]) hx
      refine ⟨?_, rfl, rfl⟩
      unfold firstS at e
      unfold indexS
      rw [e]
    · refine ⟨(), hlt, (by repeat' (first | exact Weak.nil | refine Weak.wild ?_ | refine Weak.same ?_ | refine Weak.intEq (by first | omega | (simp; done) | (push_cast; omega)) ?_)), rfl, rfl, fun k hk => ?_⟩
      rcases Nat.lt_or_ge k j with h | h
      · exact hx k h
      · obtain rfl : k = j := by omega
        rw [hgd]; simp [*]
  · skip
    repeat' (first
      | ((fail_if_success (first | refine is_ucall ?_ | refine is_umcall ?_)); first | refine W1 ?_ | refine Wc ?_ | refine W2c ?_ ?_ | refine Wg ?_ | refine W2 ?_ ?_ | exact Wdead | refine Wlive (fun hb => ?_) | intro _ _ _ _ _ _ _ _ | refine We ?_ | refine Wx ?_ | refine Wt ?_ | refine Wm ?_ | refine W2m ?_ ?_ | refine Wl ?_)
      | fail)
    have e := firstS_none (p := fun j => x == l.getD j 0) (n := l.length) (fun k hk => hx k (by omega))
    refine ⟨?_, rfl, rfl⟩
    unfold firstS at e
    unfold indexS
    rw [e]
theorem indexS_ge (l : List Int) (x : Int) : decide (indexS l x ≥ 0) = l.contains x := by
  unfold indexS
  rw [Bool.eq_iff_iff, decide_eq_true_eq, List.contains_iff_mem]
  split
  · rename_i j h
    have h1 := List.mem_of_find?_eq_some h
    have h2 := List.find?_some h
    simp only [List.mem_range, beq_iff_eq] at h1 h2
    refine ⟨fun _ => ?_, fun _ => by omega⟩
    rw [h2]; simp [h1]
  · rename_i h
    rw [List.find?_eq_none] at h
    refine ⟨fun h => by omega, fun hm => ?_⟩
    obtain ⟨j, hj, rfl⟩ := List.getElem_of_mem hm
    have := h j (by simpa using hj)
    simp [hj] at this
theorem Contains_spec (sv : Value) (l : List Int) (x : Int) (hr : RdS H sv 1 (encI l)) (hn : l.length ≤ 1000000) : CallJ Try.prog E 136 [sv, .int .i64 x] (fun v H' g' => v = .bool (l.contains x) ∧ H' = H ∧ g' = g) H g := by
  rw [← indexS_ge]
  refine CallJ.tidy ?_
  refine CallJ.enter Try.func136 rfl (by simp only [Try.ntmps136, List.length_cons, List.length_nil, Nat.zero_add, Nat.reduceAdd, Nat.reduceSub, List.replicate_succ, List.replicate_zero, List.cons_append, List.nil_append]; rfl) ?_
  repeat' (first
    | (refine is_ucall ?_; first
      | refine st_callP (h := Index_spec _ _ _ sv l x (hr.ext extA) hn) (k := ?_)
      | fail)
    | (refine is_umcall ?_; first
      | refine mj_callP (h := Index_spec _ _ _ sv l x (hr.ext extA) hn) (k := ?_)
      | fail)
    | ((fail_if_success (first | refine is_ucall ?_ | refine is_umcall ?_)); first | refine W1 ?_ | refine Wc ?_ | refine W2c ?_ ?_ | refine Wg ?_ | refine W2 ?_ ?_ | exact Wdead | refine Wlive (fun hb => ?_) | intro _ _ _ _ _ _ _ _ | refine We ?_ | refine Wx ?_ | refine Wt ?_ | refine Wm ?_ | refine W2m ?_ ?_ | refine Wl ?_)
    | fail)
  exact ⟨rfl, rfl, rfl⟩
def keptN (cs : List ReadM) (l : List Int) (j : Nat) : List ReadM := (List.range j).filterMap fun (k : Nat) => if l.contains (k : Int) then none else cs[k]?
theorem keptN_step {cs : List ReadM} {l : List Int} {j : Nat} (h : j < cs.length) : keptN cs l (j + 1) = if l.contains (j : Int) then keptN cs l j else keptN cs l j ++ [cs[j]] := by
  unfold keptN
  rw [List.range_succ, List.filterMap_append]
  split <;> rename_i hc <;> simp only [List.filterMap_cons, List.filterMap_nil, hc, Bool.false_eq_true, if_true, if_false, List.append_nil]
  simp [h]
theorem keptN_len (cs : List ReadM) (l : List Int) (j : Nat) : (keptN cs l j).length ≤ j := by
  unfold keptN
  exact Nat.le_trans (List.length_filterMap_le _ _) (by simp)
def KeptS (H : AHeap) (n : Nat) (v : Value) (ks : List ReadM) : Prop := (v = .slice none 0 0 ∧ ks = []) ∨ ∃ i, v = .slice (some ⟨i, 0, none⟩) ks.length ks.length ∧ H[i]? = some (.row (ks.map encD).flatten 3 true) ∧ n ≤ i ∧ ks ≠ []
theorem flatten_len3 (cs : List ReadM) : (cs.map encD).flatten.length = cs.length * 3 := by
  rw [List.length_flatten]
  induction cs with
  | nil => rfl
  | cons c cs ih => simp_all; omega
theorem clips_flat (cs : List ReadM) : (cs.map encD).flatten.all flat1 = true := List.all_eq_true.2 fun x hx => by
  obtain ⟨y, hy, hx⟩ := List.mem_flatten.1 hx
  obtain ⟨k, _, rfl⟩ := List.mem_map.1 hy
  simp at hx; rcases hx with rfl | rfl | rfl <;> rfl
theorem KeptS.keep {H H' : AHeap} {n : Nat} {v : Value} {ks : List ReadM} (h : KeptS H n v ks) (hk : ∀ i o, n ≤ i → H[i]? = some o → H'[i]? = some o) : KeptS H' n v ks := by
  rcases h with h | ⟨i, h1, h2, h3, h4⟩
  · exact .inl h
  · exact .inr ⟨i, h1, hk i _ h3 h2, h3, h4⟩
def without (m : CopM) (l : List Int) : CopM := { m with reads := keptN m.reads l m.reads.length }
def WithoutA (H : AHeap) (m : CopM) (s1 s2 s3 : Value) (ks : List ReadM) (v : Value) (H' : AHeap) : Prop :=
  (ks = [] ∧ v = .agg ⟨ccells m s1 s2 s3 (.slice none 0 0)⟩ ∧ H' = H) ∨ (ks ≠ [] ∧ v = .agg ⟨ccells m s1 s2 s3 (.slice (some ⟨H.length, 0, none⟩) ks.length ks.length)⟩ ∧ H' = H ++ [.row (ks.map encD).flatten 3 true])
theorem low_of {H : AHeap} {m : CopM} {s1 s2 s3 s4 s : Value} (hm : CopIs H m s1 s2 s3 s4) (hs : Low H.length s) : ∀ v ∈ ccells m s1 s2 s3 s, Low H.length v := fun v hv => by
  simp only [ccells, List.mem_cons, List.not_mem_nil, or_false] at hv
  rcases hv with rfl | rfl | rfl | rfl | rfl | rfl | rfl | rfl | rfl | rfl | rfl
  · exact .flat rfl
  · exact .flat rfl
  · exact .flat rfl
  · exact .flat rfl
  · exact .flat rfl
  · exact RdS.low hm.coal
  · exact RdS.low hm.want
  · exact .flat rfl
  · exact .flat rfl
  · exact RdS.low hm.loss
  · exact hs
theorem ok_of {H : AHeap} {m : CopM} {s1 s2 s3 s4 : Value} (hm : CopIs H m s1 s2 s3 s4) (a : Option Addr) (n c : Nat) : (ccells m s1 s2 s3 (.slice a n c)).all cellOk = true := by
  have h := hm.cells
  simp [cellOk] at h ⊢; exact ⟨h.1, h.2.1, h.2.2.1⟩
theorem without_spec (m : CopM) (s1 s2 s3 s4 sv : Value) (l : List Int) (hm : CopIs H m s1 s2 s3 s4) (hr : RdS H sv 1 (encI l)) (hn : l.length ≤ 1000000) :
    CallJ Try.prog E 129 [cv m s1 s2 s3 s4, sv] (fun v H' g' => WithoutA H m s1 s2 s3 (keptN m.reads l m.reads.length) v H' ∧ g' = g) H g := by
  have hok := hm.cells
  have hrc := hm.reads
  have hn3 := hm.n4
  refine CallJ.tidy ?_
  unfold cv
  refine CallJ.enter Try.func129 rfl (by simp only [Try.ntmps129, List.length_cons, List.length_nil, Nat.zero_add, Nat.reduceAdd, Nat.reduceSub, List.replicate_succ, List.replicate_zero, List.cons_append, List.nil_append]; rfl) ?_
  repeat' (first
    | (refine is_ucall ?_; first
      | refine st_callP (h := Contains_spec _ _ _ sv l _ (hr.ext extA) hn) (k := ?_)
      | fail)
    | (refine is_umcall ?_; first
      | refine mj_callP (h := Contains_spec _ _ _ sv l _ (hr.ext extA) hn) (k := ?_)
      | fail)
    | ((fail_if_success (first | refine is_ucall ?_ | refine is_umcall ?_)); first | refine W1 ?_ | refine Wc ?_ | refine W2c ?_ ?_ | refine Wg ?_ | refine W2 ?_ ?_ | exact Wdead | refine Wlive (fun hb => ?_) | intro _ _ _ _ _ _ _ _ | refine We ?_ | refine Wx ?_ | refine Wt ?_ | refine Wm ?_ | refine W2m ?_ ?_ | refine Wl ?_)
    | fail)
  refine WPJ.loopT m.reads.length [12, 13, 14, 15, 7, 6, 16, 17, 18, 19, 20, 21, 22, 23, 24] (fun j (kv : Value) => [(11, .int .i64 j), (5, kv)])
    (fun j kv H1 g1 => g1 = g ∧ Ext H H1 ∧ H1[H.length]? = some (.row (ccells m s1 s2 s3 s4) 1 true) ∧ (∃ cs, cs.length = 11 ∧ H1[H.length + 1]? = some (.row cs 1 true)) ∧ KeptS H1 (H.length + 2) kv (keptN m.reads l j) ∧ H.length + 1 < H1.length) 0 (.slice none 0 0) (Nat.zero_le _)
    (by intro p hp; simp at hp; rcases hp with rfl | rfl <;> rfl) ⟨rfl, extA, getA, ⟨_, ?_, getA⟩, .inl ⟨rfl, rfl⟩, by simp⟩ ?_
  · rfl
  rintro j kv H1 g1 hj ⟨rfl, he, hb0, ⟨cs, hcs, hb1⟩, hk, hlen⟩ hl0
  simp only [updT, maskT, List.set_cons_zero, List.set_cons_succ]
  rcases Nat.lt_or_ge j m.reads.length with hlt | hge
  · have hel : (m.reads.map encD)[j]? = some (encD m.reads[j]) := by simp [hlt]
    have hstep := keptN_step (l := l) hlt
    have hkl := keptN_len m.reads l j
    generalize m.reads[j] = c at *
    rcases hk with ⟨rfl, hk0⟩ | ⟨i, rfl, hi, hin, hne⟩
    · skip
      repeat' (first
        | (refine is_ucall ?_; first
          | refine st_callP (h := Contains_spec _ _ _ sv l _ (hr.ext extA) hn) (k := ?_)
          | fail)
        | (refine is_umcall ?_; first
          | refine mj_callP (h := Contains_spec _ _ _ sv l _ (hr.ext extA) hn) (k := ?_)
          | fail)
        | ((fail_if_success (first | refine is_ucall ?_ | refine is_umcall ?_)); first | refine W1 ?_ | refine Wc ?_ | refine W2c ?_ ?_ | refine Wg ?_ | refine W2 ?_ ?_ | exact Wdead | refine Wlive (fun hb => ?_) | intro _ _ _ _ _ _ _ _ | refine We ?_ | refine Wx ?_ | refine Wt ?_ | refine Wm ?_ | refine W2m ?_ ?_ | refine Wl ?_)
        | fail)
      · refine st_appendNil (by rfl) rfl rfl getA (by simp) (by rfl) ⟨by decide, by decide, by decide⟩ ?_
        refine OpsJ.normA ?_
        repeat' (first
          | (refine is_ucall ?_; first
            | refine st_callP (h := Contains_spec _ _ _ sv l _ (hr.ext extA) hn) (k := ?_)
            | fail)
          | (refine is_umcall ?_; first
            | refine mj_callP (h := Contains_spec _ _ _ sv l _ (hr.ext extA) hn) (k := ?_)
            | fail)
          | ((fail_if_success (first | refine is_ucall ?_ | refine is_umcall ?_)); first | refine W1 ?_ | refine Wc ?_ | refine W2c ?_ ?_ | refine Wg ?_ | refine W2 ?_ ?_ | exact Wdead | refine Wlive (fun hb => ?_) | intro _ _ _ _ _ _ _ _ | refine We ?_ | refine Wx ?_ | refine Wt ?_ | refine Wm ?_ | refine W2m ?_ ?_ | refine Wl ?_)
          | fail)
        have e : keptN m.reads l (j + 1) = [c] := by rw [hstep, if_neg (ne_true_of_eq_false (by assumption)), hk0]; rfl
        exact ⟨.slice (some ⟨H1.length + 2, 0, none⟩) 1 1, hlt, (by repeat' (first | exact Weak.nil | refine Weak.wild ?_ | refine Weak.same ?_ | refine Weak.intEq (by first | omega | (simp; done) | (push_cast; omega)) ?_)), rfl, extA, getA, ⟨cs, hcs, getA⟩, .inr ⟨H1.length + 2, by rw [e]; rfl, by rw [e]; exact getA, by omega, by rw [e]; simp⟩, by simp; omega⟩
      · refine ⟨.slice none 0 0, hlt, (by repeat' (first | exact Weak.nil | refine Weak.wild ?_ | refine Weak.same ?_ | refine Weak.intEq (by first | omega | (simp; done) | (push_cast; omega)) ?_)), rfl, extA, getA, ⟨cs, hcs, getA⟩, .inl ⟨rfl, ?_⟩, by simp; omega⟩
        rw [hstep, if_pos (by assumption), hk0]
    · skip
      repeat' (first
        | (refine is_ucall ?_; first
          | refine st_callP (h := Contains_spec _ _ _ sv l _ (hr.ext extA) hn) (k := ?_)
          | fail)
        | (refine is_umcall ?_; first
          | refine mj_callP (h := Contains_spec _ _ _ sv l _ (hr.ext extA) hn) (k := ?_)
          | fail)
        | ((fail_if_success (first | refine is_ucall ?_ | refine is_umcall ?_)); first | refine W1 ?_ | refine Wc ?_ | refine W2c ?_ ?_ | refine Wg ?_ | refine W2 ?_ ?_ | exact Wdead | refine Wlive (fun hb => ?_) | intro _ _ _ _ _ _ _ _ | refine We ?_ | refine Wx ?_ | refine Wt ?_ | refine Wm ?_ | refine W2m ?_ ?_ | refine Wl ?_)
        | fail)
      · refine st_appendOwn (by rfl) rfl rfl (cells0 := ((keptN m.reads l j).map encD).flatten) getA (by rw [flatten_len3]; omega) getA (by simp) (by rfl) (by simp [cellOk]) ⟨by simp [maxLen]; omega, by omega⟩ ?_
        refine OpsJ.normA ?_
        repeat' (first
          | (refine is_ucall ?_; first
            | refine st_callP (h := Contains_spec _ _ _ sv l _ (hr.ext extA) hn) (k := ?_)
            | fail)
          | (refine is_umcall ?_; first
            | refine mj_callP (h := Contains_spec _ _ _ sv l _ (hr.ext extA) hn) (k := ?_)
            | fail)
          | ((fail_if_success (first | refine is_ucall ?_ | refine is_umcall ?_)); first | refine W1 ?_ | refine Wc ?_ | refine W2c ?_ ?_ | refine Wg ?_ | refine W2 ?_ ?_ | exact Wdead | refine Wlive (fun hb => ?_) | intro _ _ _ _ _ _ _ _ | refine We ?_ | refine Wx ?_ | refine Wt ?_ | refine Wm ?_ | refine W2m ?_ ?_ | refine Wl ?_)
          | fail)
        have e : keptN m.reads l (j + 1) = keptN m.reads l j ++ [c] := by rw [hstep, if_neg (ne_true_of_eq_false (by assumption))]
        refine ⟨.slice (some ⟨H1.length + 2, 0, none⟩) ((keptN m.reads l j).length + 1) ((keptN m.reads l j).length + 1), hlt, (by repeat' (first | exact Weak.nil | refine Weak.wild ?_ | refine Weak.same ?_ | refine Weak.intEq (by first | omega | (simp; done) | (push_cast; omega)) ?_)), rfl, extA, getA, ⟨cs, hcs, getA⟩, .inr ⟨H1.length + 2, by rw [e]; simp, ?_, by omega, by rw [e]; simp⟩, by simp; omega⟩
        rw [List.getElem?_append_right (by simp), e, List.take_of_length_le (by rw [flatten_len3]; omega)]
        simp
      · refine ⟨.slice (some ⟨i, 0, none⟩) (keptN m.reads l j).length (keptN m.reads l j).length, hlt, (by repeat' (first | exact Weak.nil | refine Weak.wild ?_ | refine Weak.same ?_ | refine Weak.intEq (by first | omega | (simp; done) | (push_cast; omega)) ?_)), rfl, extA, getA, ⟨cs, hcs, getA⟩, .inr ⟨i, ?_, ?_, hin, ?_⟩, by simp; omega⟩
        all_goals rw [hstep, if_pos (by assumption)]
        · exact getA
        · exact hne
  · have hj' : j = m.reads.length := by omega
    subst hj'
    rcases hk with ⟨rfl, hk0⟩ | ⟨i, rfl, hi, hin, hne⟩
    · skip
      repeat' (first
        | (refine is_ucall ?_; first
          | refine st_callP (h := Contains_spec _ _ _ sv l _ (hr.ext extA) hn) (k := ?_)
          | fail)
        | (refine is_umcall ?_; first
          | refine mj_callP (h := Contains_spec _ _ _ sv l _ (hr.ext extA) hn) (k := ?_)
          | fail)
        | ((fail_if_success (first | refine is_ucall ?_ | refine is_umcall ?_)); first | refine W1 ?_ | refine Wc ?_ | refine W2c ?_ ?_ | refine Wg ?_ | refine W2 ?_ ?_ | exact Wdead | refine Wlive (fun hb => ?_) | intro _ _ _ _ _ _ _ _ | refine We ?_ | refine Wx ?_ | refine Wt ?_ | refine Wm ?_ | refine W2m ?_ ?_ | refine Wl ?_)
        | fail)
      have hlow := low_of hm (.flat rfl : Low H.length (.slice none 0 0))
      have hlow1 : ∀ v ∈ ccells m s1 s2 s3 (.slice none 0 0), Low H1.length v := fun v hv ρ ρ2 v' h => hlow v hv ρ ρ2 v' (fun i hi => h i (by omega))
      have hok2 := ok_of hm none 0 0
      refine st_callP (h := withReadings_spec _ _ _ m s1 s2 s3 _ _ _ _ hok hlow1) (k := ?_)
      repeat' (first
        | (refine is_ucall ?_; first
          | refine st_callP (h := Contains_spec _ _ _ sv l _ (hr.ext extA) hn) (k := ?_)
          | fail)
        | (refine is_umcall ?_; first
          | refine mj_callP (h := Contains_spec _ _ _ sv l _ (hr.ext extA) hn) (k := ?_)
          | fail)
        | ((fail_if_success (first | refine is_ucall ?_ | refine is_umcall ?_)); first | refine W1 ?_ | refine Wc ?_ | refine W2c ?_ ?_ | refine Wg ?_ | refine W2 ?_ ?_ | exact Wdead | refine Wlive (fun hb => ?_) | intro _ _ _ _ _ _ _ _ | refine We ?_ | refine Wx ?_ | refine Wt ?_ | refine Wm ?_ | refine W2m ?_ ?_ | refine Wl ?_)
        | fail)
      exact Tidy.ext extA (.low (.agg hlow)) ⟨.inl ⟨hk0, rfl, rfl⟩, rfl⟩
    · skip
      repeat' (first
        | (refine is_ucall ?_; first
          | refine st_callP (h := Contains_spec _ _ _ sv l _ (hr.ext extA) hn) (k := ?_)
          | fail)
        | (refine is_umcall ?_; first
          | refine mj_callP (h := Contains_spec _ _ _ sv l _ (hr.ext extA) hn) (k := ?_)
          | fail)
        | ((fail_if_success (first | refine is_ucall ?_ | refine is_umcall ?_)); first | refine W1 ?_ | refine Wc ?_ | refine W2c ?_ ?_ | refine Wg ?_ | refine W2 ?_ ?_ | exact Wdead | refine Wlive (fun hb => ?_) | intro _ _ _ _ _ _ _ _ | refine We ?_ | refine Wx ?_ | refine Wt ?_ | refine Wm ?_ | refine W2m ?_ ?_ | refine Wl ?_)
        | fail)
      have hil : i < H1.length := (List.getElem?_eq_some_iff.1 hi).1
      have hlow1 : ∀ v ∈ ccells m s1 s2 s3 (.slice (some ⟨i, 0, none⟩) (keptN m.reads l m.reads.length).length (keptN m.reads l m.reads.length).length), Low H1.length v := low_of (hm.ext he) (.slice hil)
      have hok2 := ok_of hm (some ⟨i, 0, none⟩) (keptN m.reads l m.reads.length).length (keptN m.reads l m.reads.length).length
      refine st_callP (h := withReadings_spec _ _ _ m s1 s2 s3 _ _ _ _ hok hlow1) (k := ?_)
      repeat' (first
        | (refine is_ucall ?_; first
          | refine st_callP (h := Contains_spec _ _ _ sv l _ (hr.ext extA) hn) (k := ?_)
          | fail)
        | (refine is_umcall ?_; first
          | refine mj_callP (h := Contains_spec _ _ _ sv l _ (hr.ext extA) hn) (k := ?_)
          | fail)
        | ((fail_if_success (first | refine is_ucall ?_ | refine is_umcall ?_)); first | refine W1 ?_ | refine Wc ?_ | refine W2c ?_ ?_ | refine Wg ?_ | refine W2 ?_ ?_ | exact Wdead | refine Wlive (fun hb => ?_) | intro _ _ _ _ _ _ _ _ | refine We ?_ | refine Wx ?_ | refine Wt ?_ | refine Wm ?_ | refine W2m ?_ ?_ | refine Wl ?_)
        | fail)
      refine Tidy.two (i := i) (cells := ((keptN m.reads l m.reads.length).map encD).flatten) (es := 3) extA getA (by omega) (clips_flat _) (.aggs (b := ccells m s1 s2 s3 (.slice (some ⟨H.length, 0, none⟩) (keptN m.reads l m.reads.length).length (keptN m.reads l m.reads.length).length)) rfl fun j h1 h2 => ?_) ⟨.inr ⟨hne, rfl, rfl⟩, rfl⟩
      have hlow := low_of hm (.flat rfl : Low H.length (.slice none 0 0))
      match j, h1 with
      | 0, _ => exact .flat rfl
      | 1, _ => exact .flat rfl
      | 2, _ => exact .flat rfl
      | 3, _ => exact .flat rfl
      | 4, _ => exact .flat rfl
      | 5, _ => exact .low (RdS.low hm.coal)
      | 6, _ => exact .low (RdS.low hm.want)
      | 7, _ => exact .flat rfl
      | 8, _ => exact .flat rfl
      | 9, _ => exact .low (RdS.low hm.loss)
      | 10, _ => exact .slice (j := 0) rfl
end
end Go.Proofs.Ytjbiidlmpaibkaa
namespace Go.Proofs.Ytjbiidlmpaibkaa
open Go Go.Abs Go.Proofs
set_option maxHeartbeats 800000
attribute [local irreducible] CallJ OpsJ WPJ CallV MonoJ
section
variable {γ : Type} (E : Env γ) (g : γ) (H : AHeap)
theorem Clone_nil : CallJ Try.prog E 115 [.slice none 0 0] (fun v H' g' => v = .slice none 0 0 ∧ H' = H ∧ g' = g) H g := by
  refine CallJ.tidy ?_
  refine CallJ.enter Try.func115 rfl (by simp only [Try.ntmps115, List.length_cons, List.length_nil, Nat.zero_add, Nat.reduceSub, List.replicate_succ, List.replicate_zero, List.cons_append, List.nil_append]; rfl) ?_
  repeat' (first
    | ((fail_if_success (first | refine is_ucall ?_ | refine is_umcall ?_)); first | refine W1 ?_ | refine Wc ?_ | refine W2c ?_ ?_ | refine Wg ?_ | refine W2 ?_ ?_ | exact Wdead | refine Wlive (fun hb => ?_) | intro _ _ _ _ _ _ _ _ | refine We ?_ | refine Wx ?_ | refine Wt ?_ | refine Wm ?_ | refine W2m ?_ ?_ | refine Wl ?_)
    | fail)
  refine st_eqNilS rfl rfl ?_
  refine OpsJ.normA ?_
  repeat' (first
    | ((fail_if_success (first | refine is_ucall ?_ | refine is_umcall ?_)); first | refine W1 ?_ | refine Wc ?_ | refine W2c ?_ ?_ | refine Wg ?_ | refine W2 ?_ ?_ | exact Wdead | refine Wlive (fun hb => ?_) | intro _ _ _ _ _ _ _ _ | refine We ?_ | refine Wx ?_ | refine Wt ?_ | refine Wm ?_ | refine W2m ?_ ?_ | refine Wl ?_)
    | fail)
  exact ⟨rfl, rfl, rfl⟩
end
def subs : Nat → Nat → Nat → List (List Int)
  | 0, _, _ => [[]]
  | q + 1, f, lim => (List.range' f (lim - f)).flatMap fun n => (subs q (n + 1) lim).map ((n : Int) :: ·)
theorem subs_len : ∀ (q f lim : Nat) (s : List Int), s ∈ subs q f lim → s.length = q
  | 0, f, lim, s, h => by simp [subs] at h; simp [h]
  | q + 1, f, lim, s, h => by
    simp only [subs, List.mem_flatMap, List.mem_map] at h
    obtain ⟨n, _, t, ht, rfl⟩ := h
    simp [subs_len q _ _ t ht]
def subsN (q f lim j : Nat) : Nat := ((List.range' f j).flatMap fun n => (subs q (n + 1) lim).map ((n : Int) :: ·)).length
theorem subsN_step (q f lim j : Nat) : subsN q f lim (j + 1) = subsN q f lim j + (subs q (f + j + 1) lim).length := by
  unfold subsN
  rw [List.range'_concat, List.flatMap_append, List.length_append]
  simp
theorem subsN_all (q f lim : Nat) : subsN q f lim (lim - f) = (subs (q + 1) f lim).length := rfl
theorem subs_at {q f lim j i : Nat} {s : List Int} (hj : j < lim - f) (h : (subs q (f + j + 1) lim)[i]? = some s) : (subs (q + 1) f lim)[subsN q f lim j + i]? = some (((f + j : Nat) : Int) :: s) := by
  have e : List.range' f (lim - f) = List.range' f j ++ (f + j) :: List.range' (f + j + 1) (lim - f - j - 1) := by
    have e2 : List.range' (f + j) (lim - f - j) = (f + j) :: List.range' (f + j + 1) (lim - f - j - 1) := by
      obtain ⟨d, hd⟩ : ∃ d, lim - f - j = d + 1 := ⟨lim - f - j - 1, by omega⟩
      rw [hd, List.range'_succ, Nat.add_sub_cancel]
    rw [← e2, List.range'_append_1]
    congr 1; omega
  unfold subs subsN
  rw [e, List.flatMap_append, List.getElem?_append_right (by omega), Nat.add_sub_cancel_left, List.flatMap_cons]
  have hi := (List.getElem?_eq_some_iff.1 h).1
  rw [List.getElem?_append_left (by simpa using hi), List.getElem?_map, h]
  rfl
section
variable {γ : Type} (E : Env γ) (Hi : AHeap) (aM aL : Nat) (yv : Value) (many lim : Nat)
abbrev lval : Value := .func (.func 135) ⟨[]⟩ ⟨[.pointer (some ⟨Hi.length + 1, 0, none⟩), .pointer (some ⟨aM, 0, none⟩), .pointer (some ⟨Hi.length, 0, none⟩), .pointer (some ⟨aL, 0, none⟩), .pointer (some ⟨Hi.length + 2, 0, none⟩)]⟩
structure StL (H1 : AHeap) (cv : Value) : Prop where
  ext : ExtOwn Hi H1
  b0 : H1[Hi.length]? = some (.row [yv] 1 true)
  b1 : H1[Hi.length + 1]? = some (.row [cv] 1 true)
  b2 : H1[Hi.length + 2]? = some (.row [lval Hi aM aL] 1 true)
structure CurS (H1 : AHeap) (cv : Value) (l : List Int) (i cap : Nat) (cells : List Value) : Prop where
  v : cv = .slice (some ⟨i, 0, none⟩) l.length cap
  row : H1[i]? = some (.row cells 1 true)
  take : cells.take l.length = encE l
  flat : cells.all flat1 = true
  new : Hi.length + 3 ≤ i
def Cur (H1 : AHeap) (cv : Value) (l : List Int) : Prop := (cv = .slice none 0 0 ∧ l = []) ∨ ∃ i cap cells, CurS Hi H1 cv l i cap cells
theorem lists_spec (hM : Hi[aM]? = some (.row [.int .i64 many] 1 false)) (hL : Hi[aL]? = some (.row [.int .i64 lim] 1 false)) (hm : many ≤ 1000) (hl : lim ≤ 1000) (J : Nat → γ → Prop) (Jx : γ → Prop) :
    ∀ (q f : Nat) (l : List Int) (k : Nat) (g : γ) (H1 : AHeap) (cv : Value), l.length + q = many → f ≤ 1000 → StL Hi aM aL yv H1 cv → Cur Hi H1 cv l → (many = 0 → cv = .slice none 0 0) →
    (∀ j s, (subs q f lim)[j]? = some s → ∀ H1 g1 i cap cs, ExtOwn Hi H1 → H1[i]? = some (.row cs 1 true) → cs.all flat1 = true → cs.take (l ++ s).length = encE (l ++ s) → J (k + j) g1 → CallV Try.prog E yv [.slice (some ⟨i, 0, none⟩) (l ++ s).length cap] (fun v H2 g2 => H2 = H1.set i .dead ∧ (v = .bool true ∧ J (k + j + 1) g2 ∨ v = .bool false ∧ Jx g2)) H1 g1) →
    (many = 0 → ∀ H1 g1, ExtOwn Hi H1 → J k g1 → CallV Try.prog E yv [.slice none 0 0] (fun v H2 g2 => H2 = H1 ∧ (v = .bool true ∧ J (k + 1) g2 ∨ v = .bool false ∧ Jx g2)) H1 g1) → J k g →
    CallJ Try.prog E 135 [.int .i64 f, .pointer (some ⟨Hi.length + 1, 0, none⟩), .pointer (some ⟨aM, 0, none⟩), .pointer (some ⟨Hi.length, 0, none⟩), .pointer (some ⟨aL, 0, none⟩), .pointer (some ⟨Hi.length + 2, 0, none⟩)]
      (fun v H' g' => ∃ cv', StL Hi aM aL yv H' cv' ∧ (v = .bool true ∧ Cur Hi H' cv' l ∧ J (k + (subs q f lim).length) g' ∨ v = .bool false ∧ Jx g')) H1 g
  | 0, f, l, k, g, H1, cv, hq, hf, ⟨hx, b0, b1, b2⟩, hcur, hcv, hy, hyn, hJ => by
    have hM1 := hx.ext.get hM
    have hL1 := hx.ext.get hL
    rcases hcur with ⟨rfl, rfl⟩ | ⟨i, cap, cells, rfl, hi, ht, hfl, hnew⟩
    · have h0 : many = 0 := by simpa using hq.symm
      have hy0 := hyn h0
      subst h0
      refine CallJ.enter Try.func135 rfl (by simp only [Try.ntmps135, List.length_cons, List.length_nil, Nat.zero_add, Nat.reduceAdd, Nat.reduceSub, List.replicate_succ, List.replicate_zero, List.cons_append, List.nil_append]; rfl) ?_
      repeat' (first
        | ((fail_if_success (first | refine is_ucall ?_ | refine is_umcall ?_)); first | refine W1 ?_ | refine Wc ?_ | refine W2c ?_ ?_ | refine Wg ?_ | refine W2 ?_ ?_ | exact Wdead | refine Wlive (fun hb => ?_) | intro _ _ _ _ _ _ _ _ | refine We ?_ | refine Wx ?_ | refine Wt ?_ | refine Wm ?_ | refine W2m ?_ ?_ | refine Wl ?_)
        | fail)
      refine WPJ.draw 3 mixed (by kernel_rfl) (by kernel_rfl) (by kernel_rfl) (by decide) ?_
      refine MonoJ.normA ?_
      repeat' (first
        | ((fail_if_success (first | refine is_ucall ?_ | refine is_umcall ?_)); first | refine W1 ?_ | refine Wc ?_ | refine W2c ?_ ?_ | refine Wg ?_ | refine W2 ?_ ?_ | exact Wdead | refine Wlive (fun hb => ?_) | intro _ _ _ _ _ _ _ _ | refine We ?_ | refine Wx ?_ | refine Wt ?_ | refine Wm ?_ | refine W2m ?_ ?_ | refine Wl ?_)
        | fail)
      refine mj_callP (h := Clone_nil _ _ _) (k := ?_)
      refine mj_nil ?_
      refine OpsJ.normA ?_
      repeat' (first
        | ((fail_if_success (first | refine is_ucall ?_ | refine is_umcall ?_)); first | refine W1 ?_ | refine Wc ?_ | refine W2c ?_ ?_ | refine Wg ?_ | refine W2 ?_ ?_ | exact Wdead | refine Wlive (fun hb => ?_) | intro _ _ _ _ _ _ _ _ | refine We ?_ | refine Wx ?_ | refine Wt ?_ | refine Wm ?_ | refine W2m ?_ ?_ | refine Wl ?_)
        | fail)
      refine st_callV rfl rfl (hy0 H1 g hx hJ) ?_
      rintro v H' g' ⟨rfl, h⟩
      refine OpsJ.normA ?_
      repeat' (first
        | ((fail_if_success (first | refine is_ucall ?_ | refine is_umcall ?_)); first | refine W1 ?_ | refine Wc ?_ | refine W2c ?_ ?_ | refine Wg ?_ | refine W2 ?_ ?_ | exact Wdead | refine Wlive (fun hb => ?_) | intro _ _ _ _ _ _ _ _ | refine We ?_ | refine Wx ?_ | refine Wt ?_ | refine Wm ?_ | refine W2m ?_ ?_ | refine Wl ?_)
        | fail)
      refine ⟨_, ⟨hx, b0, b1, b2⟩, ?_⟩
      exact h.imp (fun h => ⟨h.1, .inl ⟨rfl, rfl⟩, h.2⟩) id
    · skip
      have hE := encE_flat l
      have h0 := hy 0 [] rfl
      rw [List.append_nil] at h0
      refine CallJ.enter Try.func135 rfl (by simp only [Try.ntmps135, List.length_cons, List.length_nil, Nat.zero_add, Nat.reduceAdd, Nat.reduceSub, List.replicate_succ, List.replicate_zero, List.cons_append, List.nil_append]; rfl) ?_
      repeat' (first
        | ((fail_if_success (first | refine is_ucall ?_ | refine is_umcall ?_)); first | refine W1 ?_ | refine Wc ?_ | refine W2c ?_ ?_ | refine Wg ?_ | refine W2 ?_ ?_ | exact Wdead | refine Wlive (fun hb => ?_) | intro _ _ _ _ _ _ _ _ | refine We ?_ | refine Wx ?_ | refine Wt ?_ | refine Wm ?_ | refine W2m ?_ ?_ | refine Wl ?_)
        | fail)
      refine WPJ.draw 3 mixed (by kernel_rfl) (by kernel_rfl) (by kernel_rfl) (by decide) ?_
      refine MonoJ.normA ?_
      repeat' (first
        | ((fail_if_success (first | refine is_ucall ?_ | refine is_umcall ?_)); first | refine W1 ?_ | refine Wc ?_ | refine W2c ?_ ?_ | refine Wg ?_ | refine W2 ?_ ?_ | exact Wdead | refine Wlive (fun hb => ?_) | intro _ _ _ _ _ _ _ _ | refine We ?_ | refine Wx ?_ | refine Wt ?_ | refine Wm ?_ | refine W2m ?_ ?_ | refine Wl ?_)
        | fail)
      refine mj_call (.slice (some ⟨H1.length, 0, none⟩) l.length l.length) [.row (encE l) 1 true] rfl (Clone_spec _ _ _ i l.length cap cells l true getA ht rfl (by omega)) (fun _ _ _ h => ⟨h.1, h.2.1⟩) (by rfl) ?_
      refine mj_nil ?_
      refine OpsJ.normA ?_
      repeat' (first
        | ((fail_if_success (first | refine is_ucall ?_ | refine is_umcall ?_)); first | refine W1 ?_ | refine Wc ?_ | refine W2c ?_ ?_ | refine Wg ?_ | refine W2 ?_ ?_ | exact Wdead | refine Wlive (fun hb => ?_) | intro _ _ _ _ _ _ _ _ | refine We ?_ | refine Wx ?_ | refine Wt ?_ | refine Wm ?_ | refine W2m ?_ ?_ | refine Wl ?_)
        | fail)
      refine st_callV rfl rfl (h0 (H1 ++ [AObj.row (encE l) 1 true] : AHeap) g H1.length l.length (encE l) (by ((repeat' (first | assumption | exact ExtOwn.refl _ | refine ExtOwn.set ?_ (by first | omega | (simp; omega)) (by first | exact .inl rfl | exact .inr rfl) | refine ExtOwn.app ?_ (by intro o ho; simp at ho; first | (subst ho; first | exact .inl rfl | exact .inr rfl) | (rcases ho with rfl | rfl <;> first | exact .inl rfl | exact .inr rfl) | (rcases ho with rfl | rfl | rfl <;> first | exact .inl rfl | exact .inr rfl)))); done)) getA hE (List.take_of_length_le (by simp [encE])) hJ) ?_
      rintro v H' g' ⟨rfl, h⟩
      refine OpsJ.normA ?_
      repeat' (first
        | ((fail_if_success (first | refine is_ucall ?_ | refine is_umcall ?_)); first | refine W1 ?_ | refine Wc ?_ | refine W2c ?_ ?_ | refine Wg ?_ | refine W2 ?_ ?_ | exact Wdead | refine Wlive (fun hb => ?_) | intro _ _ _ _ _ _ _ _ | refine We ?_ | refine Wx ?_ | refine Wt ?_ | refine Wm ?_ | refine W2m ?_ ?_ | refine Wl ?_)
        | fail)
      have hi2 : (H1 ++ [AObj.dead] : AHeap)[i]? = some (.row cells 1 true) := get_old hi
      refine ⟨_, ⟨(by ((repeat' (first | assumption | exact ExtOwn.refl _ | refine ExtOwn.set ?_ (by first | omega | (simp; omega)) (by first | exact .inl rfl | exact .inr rfl) | refine ExtOwn.app ?_ (by intro o ho; simp at ho; first | (subst ho; first | exact .inl rfl | exact .inr rfl) | (rcases ho with rfl | rfl <;> first | exact .inl rfl | exact .inr rfl) | (rcases ho with rfl | rfl | rfl <;> first | exact .inl rfl | exact .inr rfl)))); done)), getA, getA, getA⟩, ?_⟩
      exact h.imp (fun h => ⟨h.1, .inr ⟨i, cap, cells, rfl, hi2, ht, hfl, hnew⟩, h.2⟩) id
  | q + 1, f, l, k, g, H1, cv, hq, hf, ⟨hx, b0, b1, b2⟩, hcur, hcv, hy, hyn, hJ => by
    have hM1 := hx.ext.get hM
    have hL1 := hx.ext.get hL
    have hcl : ∃ a c, cv = .slice a l.length c := by
      rcases hcur with ⟨rfl, rfl⟩ | ⟨i, cap, cells, h⟩
      · exact ⟨_, _, rfl⟩
      · exact ⟨_, _, h.v⟩
    obtain ⟨a0, c0, rfl⟩ := hcl
    have hne : ¬ (l.length : Int) = many := by omega
    refine CallJ.enter Try.func135 rfl (by simp only [Try.ntmps135, List.length_cons, List.length_nil, Nat.zero_add, Nat.reduceAdd, Nat.reduceSub, List.replicate_succ, List.replicate_zero, List.cons_append, List.nil_append]; rfl) ?_
    repeat' (first
      | ((fail_if_success (first | refine is_ucall ?_ | refine is_umcall ?_)); first | refine W1 ?_ | refine Wc ?_ | refine W2c ?_ ?_ | refine Wg ?_ | refine W2 ?_ ?_ | exact Wdead | refine Wlive (fun hb => ?_) | intro _ _ _ _ _ _ _ _ | refine We ?_ | refine Wx ?_ | refine Wt ?_ | refine Wm ?_ | refine W2m ?_ ?_ | refine Wl ?_)
      | fail)
    refine WPJ.loopT (lim - f) [9, 10, 11, 12, 13, 14, 15, 16, 17, 18, 19, 20, 21, 22, 23, 24, 25, 26, 27, 28, 29, 30, 31, 32, 33, 34, 35, 36] (fun j (_ : Unit) => [(8, .int .i64 (f + j))])
      (fun j _ H2 g1 => ∃ cv2, StL Hi aM aL yv H2 cv2 ∧ Cur Hi H2 cv2 l ∧ J (k + subsN q f lim j) g1) 0 () (Nat.zero_le _) (by intro p hp; simp at hp; subst hp; simp) ⟨_, ⟨hx, b0, b1, b2⟩, hcur, hJ⟩ ?_
    rintro j _ H2 g1 hj ⟨cv2, ⟨hx2, b02, b12, b22⟩, hcur2, hJ1⟩ hl0
    have hlen2 : Hi.length + 2 < H2.length := (List.getElem?_eq_some_iff.1 b22).1
    have hM2 := hx2.ext.get hM
    have hL2 := hx2.ext.get hL
    simp only [updT, maskT, List.set_cons_zero, List.set_cons_succ]
    rcases Nat.lt_or_ge j (lim - f) with hlt | hge
    · have hrec := fun H3 cv3 => lists_spec hM hL hm hl J Jx q (f + j + 1) (l ++ [(f : Int) + j]) (k + subsN q f lim j) g1 H3 cv3 (by simp; omega) (by omega)
      have e : ((f + j + 1 : Nat) : Int) = (f : Int) + j + 1 := by omega
      simp only [e] at hrec
      have hyr : ∀ j' s, (subs q (f + j + 1) lim)[j']? = some s → ∀ H1 g1 i cap cs, ExtOwn Hi H1 → H1[i]? = some (.row cs 1 true) → cs.all flat1 = true → cs.take (l ++ [(f : Int) + j] ++ s).length = encE (l ++ [(f : Int) + j] ++ s) → J (k + subsN q f lim j + j') g1 → CallV Try.prog E yv [.slice (some ⟨i, 0, none⟩) (l ++ [(f : Int) + j] ++ s).length cap] (fun v H2 g2 => H2 = H1.set i .dead ∧ (v = .bool true ∧ J (k + subsN q f lim j + j' + 1) g2 ∨ v = .bool false ∧ Jx g2)) H1 g1 := by
        intro j' s hs H1 g1 i cap cs a1 a2 a3 a4 a5
        have e1 : l ++ [(f : Int) + j] ++ s = l ++ (((f + j : Nat) : Int) :: s) := by simp
        rw [e1] at a4 ⊢
        rw [Nat.add_assoc k] at a5 ⊢
        exact hy _ _ (subs_at hlt hs) H1 g1 i cap cs a1 a2 a3 a4 a5
      clear hy
      rcases hcur2 with ⟨rfl, rfl⟩ | ⟨i, cap, cells, rfl, hi, ht, hfl, hnew⟩
      · skip
        repeat' (first
          | ((fail_if_success (first | refine is_ucall ?_ | refine is_umcall ?_)); first | refine W1 ?_ | refine Wc ?_ | refine W2c ?_ ?_ | refine Wg ?_ | refine W2 ?_ ?_ | exact Wdead | refine Wlive (fun hb => ?_) | intro _ _ _ _ _ _ _ _ | refine We ?_ | refine Wx ?_ | refine Wt ?_ | refine Wm ?_ | refine W2m ?_ ?_ | refine Wl ?_)
          | fail)
        refine st_appendNil (by rfl) rfl rfl getA (by simp) (by rfl) ⟨by decide, by decide, by decide⟩ ?_
        refine OpsJ.normA ?_
        repeat' (first
          | ((fail_if_success (first | refine is_ucall ?_ | refine is_umcall ?_)); first | refine W1 ?_ | refine Wc ?_ | refine W2c ?_ ?_ | refine Wg ?_ | refine W2 ?_ ?_ | exact Wdead | refine Wlive (fun hb => ?_) | intro _ _ _ _ _ _ _ _ | refine We ?_ | refine Wx ?_ | refine Wt ?_ | refine Wm ?_ | refine W2m ?_ ?_ | refine Wl ?_)
          | fail)
        refine st_callV rfl rfl (CallV.of_func EntC.ent (hrec _ _ ⟨(by ((repeat' (first | assumption | exact ExtOwn.refl _ | refine ExtOwn.set ?_ (by first | omega | (simp; omega)) (by first | exact .inl rfl | exact .inr rfl) | refine ExtOwn.app ?_ (by intro o ho; simp at ho; first | (subst ho; first | exact .inl rfl | exact .inr rfl) | (rcases ho with rfl | rfl <;> first | exact .inl rfl | exact .inr rfl) | (rcases ho with rfl | rfl | rfl <;> first | exact .inl rfl | exact .inr rfl)))); done)), getA, getA, getA⟩ (.inr ⟨H2.length + 1, 1, [.int .i64 (f + j)], ⟨rfl, getA, rfl, rfl, by omega⟩⟩) (fun h => by omega) hyr (fun h => by omega) hJ1)) ?_
        rintro v H' g' ⟨cv', ⟨hx3, c0, c1, c2⟩, ⟨rfl, hcur', h⟩ | ⟨rfl, h⟩⟩
        · rcases hcur' with ⟨_, h0⟩ | ⟨i', cap', cells', rfl, hi', ht', hfl', hnew'⟩
          · simp at h0
          · skip
            refine OpsJ.normA ?_
            repeat' (first
              | ((fail_if_success (first | refine is_ucall ?_ | refine is_umcall ?_)); first | refine W1 ?_ | refine Wc ?_ | refine W2c ?_ ?_ | refine Wg ?_ | refine W2 ?_ ?_ | exact Wdead | refine Wlive (fun hb => ?_) | intro _ _ _ _ _ _ _ _ | refine We ?_ | refine Wx ?_ | refine Wt ?_ | refine Wm ?_ | refine W2m ?_ ?_ | refine Wl ?_)
              | fail)
            have ht2 : cells'.take ([] : List Int).length = encE ([] : List Int) := by
              have := congrArg (List.take ([] : List Int).length) ht'
              rw [List.take_take, Nat.min_eq_left (by simp)] at this
              rw [this]; simp [encE]
            refine ⟨(), hlt, (by repeat' (first | exact Weak.nil | refine Weak.wild ?_ | refine Weak.same ?_ | refine Weak.intEq (by first | omega | (simp; done) | (push_cast; omega)) ?_)), _, ⟨(by ((repeat' (first | assumption | exact ExtOwn.refl _ | refine ExtOwn.set ?_ (by first | omega | (simp; omega)) (by first | exact .inl rfl | exact .inr rfl) | refine ExtOwn.app ?_ (by intro o ho; simp at ho; first | (subst ho; first | exact .inl rfl | exact .inr rfl) | (rcases ho with rfl | rfl <;> first | exact .inl rfl | exact .inr rfl) | (rcases ho with rfl | rfl | rfl <;> first | exact .inl rfl | exact .inr rfl)))); done)), getA, getA, getA⟩, .inr ⟨i', ([] : List Int).length, cells', ⟨by simp, getA, ht2, hfl', hnew'⟩⟩, ?_⟩
            rw [subsN_step, ← Nat.add_assoc]
            exact h
        · skip
          refine OpsJ.normA ?_
          repeat' (first
            | ((fail_if_success (first | refine is_ucall ?_ | refine is_umcall ?_)); first | refine W1 ?_ | refine Wc ?_ | refine W2c ?_ ?_ | refine Wg ?_ | refine W2 ?_ ?_ | exact Wdead | refine Wlive (fun hb => ?_) | intro _ _ _ _ _ _ _ _ | refine We ?_ | refine Wx ?_ | refine Wt ?_ | refine Wm ?_ | refine W2m ?_ ?_ | refine Wl ?_)
            | fail)
          exact ⟨_, ⟨hx3, c0, c1, c2⟩, .inr ⟨rfl, h⟩⟩
      · have hcl : l.length ≤ cells.length := by
          have := congrArg List.length ht
          simp [encE] at this; omega
        have hee : encE l ++ [.int .i64 ((f : Int) + j)] = encE (l ++ [(f : Int) + j]) := by simp [encE]
        repeat' (first
          | ((fail_if_success (first | refine is_ucall ?_ | refine is_umcall ?_)); first | refine W1 ?_ | refine Wc ?_ | refine W2c ?_ ?_ | refine Wg ?_ | refine W2 ?_ ?_ | exact Wdead | refine Wlive (fun hb => ?_) | intro _ _ _ _ _ _ _ _ | refine We ?_ | refine Wx ?_ | refine Wt ?_ | refine Wm ?_ | refine W2m ?_ ?_ | refine Wl ?_)
          | fail)
        refine st_appendOwn (by rfl) rfl rfl (cells0 := cells) getA (by simpa using hcl) getA (by simp) (by rfl) (by simp [cellOk]) ⟨by simp [maxLen]; omega, by omega⟩ ?_
        refine OpsJ.normA ?_
        repeat' (first
          | ((fail_if_success (first | refine is_ucall ?_ | refine is_umcall ?_)); first | refine W1 ?_ | refine Wc ?_ | refine W2c ?_ ?_ | refine Wg ?_ | refine W2 ?_ ?_ | exact Wdead | refine Wlive (fun hb => ?_) | intro _ _ _ _ _ _ _ _ | refine We ?_ | refine Wx ?_ | refine Wt ?_ | refine Wm ?_ | refine W2m ?_ ?_ | refine Wl ?_)
          | fail)
        refine st_callV rfl rfl (CallV.of_func EntC.ent (hrec _ _ ⟨(by ((repeat' (first | assumption | exact ExtOwn.refl _ | refine ExtOwn.set ?_ (by first | omega | (simp; omega)) (by first | exact .inl rfl | exact .inr rfl) | refine ExtOwn.app ?_ (by intro o ho; simp at ho; first | (subst ho; first | exact .inl rfl | exact .inr rfl) | (rcases ho with rfl | rfl <;> first | exact .inl rfl | exact .inr rfl) | (rcases ho with rfl | rfl | rfl <;> first | exact .inl rfl | exact .inr rfl)))); done)), getA, getA, getA⟩ (.inr ⟨H2.length + 1, l.length + 1, cells.take (l.length * 1) ++ [.int .i64 (f + j)], ⟨by simp, by rw [List.getElem?_set_ne (by omega), List.getElem?_append_right (by simp)]; simp, by rw [Nat.mul_one, ht, hee]; exact List.take_of_length_le (by simp [encE]), by rw [Nat.mul_one, ht, hee]; exact encE_flat _, by omega⟩⟩) (fun h => by omega) hyr (fun h => by omega) hJ1)) ?_
        rintro v H' g' ⟨cv', ⟨hx3, c0, c1, c2⟩, ⟨rfl, hcur', h⟩ | ⟨rfl, h⟩⟩
        · rcases hcur' with ⟨_, h0⟩ | ⟨i', cap', cells', rfl, hi', ht', hfl', hnew'⟩
          · simp at h0
          · skip
            refine OpsJ.normA ?_
            repeat' (first
              | ((fail_if_success (first | refine is_ucall ?_ | refine is_umcall ?_)); first | refine W1 ?_ | refine Wc ?_ | refine W2c ?_ ?_ | refine Wg ?_ | refine W2 ?_ ?_ | exact Wdead | refine Wlive (fun hb => ?_) | intro _ _ _ _ _ _ _ _ | refine We ?_ | refine Wx ?_ | refine Wt ?_ | refine Wm ?_ | refine W2m ?_ ?_ | refine Wl ?_)
              | fail)
            have ht2 : cells'.take l.length = encE l := by
              have := congrArg (List.take l.length) ht'
              rw [List.take_take, Nat.min_eq_left (by simp)] at this
              rw [this]; simp [encE]
            refine ⟨(), hlt, (by repeat' (first | exact Weak.nil | refine Weak.wild ?_ | refine Weak.same ?_ | refine Weak.intEq (by first | omega | (simp; done) | (push_cast; omega)) ?_)), _, ⟨(by ((repeat' (first | assumption | exact ExtOwn.refl _ | refine ExtOwn.set ?_ (by first | omega | (simp; omega)) (by first | exact .inl rfl | exact .inr rfl) | refine ExtOwn.app ?_ (by intro o ho; simp at ho; first | (subst ho; first | exact .inl rfl | exact .inr rfl) | (rcases ho with rfl | rfl <;> first | exact .inl rfl | exact .inr rfl) | (rcases ho with rfl | rfl | rfl <;> first | exact .inl rfl | exact .inr rfl)))); done)), getA, getA, getA⟩, .inr ⟨i', l.length, cells', ⟨by simp, getA, ht2, hfl', hnew'⟩⟩, ?_⟩
            rw [subsN_step, ← Nat.add_assoc]
            exact h
        · skip
          refine OpsJ.normA ?_
          repeat' (first
            | ((fail_if_success (first | refine is_ucall ?_ | refine is_umcall ?_)); first | refine W1 ?_ | refine Wc ?_ | refine W2c ?_ ?_ | refine Wg ?_ | refine W2 ?_ ?_ | exact Wdead | refine Wlive (fun hb => ?_) | intro _ _ _ _ _ _ _ _ | refine We ?_ | refine Wx ?_ | refine Wt ?_ | refine Wm ?_ | refine W2m ?_ ?_ | refine Wl ?_)
            | fail)
          exact ⟨_, ⟨hx3, c0, c1, c2⟩, .inr ⟨rfl, h⟩⟩
    · have hj' : j = lim - f := by omega
      rw [hj', subsN_all] at hJ1
      repeat' (first
        | ((fail_if_success (first | refine is_ucall ?_ | refine is_umcall ?_)); first | refine W1 ?_ | refine Wc ?_ | refine W2c ?_ ?_ | refine Wg ?_ | refine W2 ?_ ?_ | exact Wdead | refine Wlive (fun hb => ?_) | intro _ _ _ _ _ _ _ _ | refine We ?_ | refine Wx ?_ | refine Wt ?_ | refine Wm ?_ | refine W2m ?_ ?_ | refine Wl ?_)
        | fail)
      exact ⟨cv2, ⟨hx2, b02, b12, b22⟩, .inl ⟨rfl, hcur2, hJ1⟩⟩
end
structure OkL (aM aL many lim : Nat) (Hi : AHeap) : Prop where
  m : Hi[aM]? = some (.row [.int .i64 many] 1 false)
  l : Hi[aL]? = some (.row [.int .i64 lim] 1 false)
theorem lists_hits (aM aL many lim : Nat) (hm : many ≤ 1000) (hl : lim ≤ 1000) : HitsS Try.prog 134 [] [.pointer (some ⟨aM, 0, none⟩), .pointer (some ⟨aL, 0, none⟩)] (OkL aM aL many lim) ((subs many 0 lim).map encE) := by
  intro γ' E' J Jx yn Hi g0 ⟨hM, hL⟩ hy1 hy2 hJ0
  have hlen : ((subs many 0 lim).map encE).length = (subs many 0 lim).length := by simp
  have hsp := fun H1 cv => lists_spec E' Hi aM aL (.func (.yield yn) #[] #[]) many lim hM hL hm hl J Jx many 0 [] 0 g0 H1 cv (by simp) (by omega)
  have hA : ∀ j s, (subs many 0 lim)[j]? = some s → ∀ H1 g1 i cap cs, ExtOwn Hi H1 → H1[i]? = some (.row cs 1 true) → cs.all flat1 = true → cs.take ([] ++ s).length = encE ([] ++ s) → J (0 + j) g1 → CallV Try.prog E' (.func (.yield yn) #[] #[]) [.slice (some ⟨i, 0, none⟩) ([] ++ s).length cap] (fun v H2 g2 => H2 = H1.set i .dead ∧ (v = .bool true ∧ J (0 + j + 1) g2 ∨ v = .bool false ∧ Jx g2)) H1 g1 := by
    intro j s hs H1 g1 i cap cs a1 a2 a3 a4 a5
    rw [Nat.zero_add] at a5 ⊢
    rw [List.nil_append] at a4 ⊢
    have e : (encE s).length = s.length := by simp [encE]
    have := hy1 j (encE s) (by simp [hs]) H1 g1 i cap cs a1 a2 a3 (by rw [e]; exact a4) a5
    rw [e] at this
    exact this
  have hB : many = 0 → ∀ H1 g1, ExtOwn Hi H1 → J 0 g1 → CallV Try.prog E' (.func (.yield yn) #[] #[]) [.slice none 0 0] (fun v H2 g2 => H2 = H1 ∧ (v = .bool true ∧ J (0 + 1) g2 ∨ v = .bool false ∧ Jx g2)) H1 g1 := by
    intro h0 H1 g1 a1 a2
    exact hy2 0 (by rw [h0]; rfl) H1 g1 a1 a2
  refine CallJ.tidy ?_
  refine CallJ.enter Try.func134 rfl (by simp only [Try.ntmps134, List.length_cons, List.length_nil, Nat.zero_add, Nat.reduceAdd, Nat.reduceSub, List.replicate_succ, List.replicate_zero, List.cons_append, List.nil_append]; rfl) ?_
  repeat' (first
    | ((fail_if_success (first | refine is_ucall ?_ | refine is_umcall ?_)); first | refine W1 ?_ | refine Wc ?_ | refine W2c ?_ ?_ | refine Wg ?_ | refine W2 ?_ ?_ | exact Wdead | refine Wlive (fun hb => ?_) | intro _ _ _ _ _ _ _ _ | refine We ?_ | refine Wx ?_ | refine Wt ?_ | refine Wm ?_ | refine W2m ?_ ?_ | refine Wl ?_)
    | fail)
  refine st_callV rfl rfl (CallV.of_func EntC.ent (hsp _ _ ⟨(by ((repeat' (first | assumption | exact ExtOwn.refl _ | refine ExtOwn.set ?_ (by first | omega | (simp; omega)) (by first | exact .inl rfl | exact .inr rfl) | refine ExtOwn.app ?_ (by intro o ho; simp at ho; first | (subst ho; first | exact .inl rfl | exact .inr rfl) | (rcases ho with rfl | rfl <;> first | exact .inl rfl | exact .inr rfl) | (rcases ho with rfl | rfl | rfl <;> first | exact .inl rfl | exact .inr rfl)))); done)), getA, getA, getA⟩ (.inl ⟨rfl, rfl⟩) (fun _ => rfl) hA hB hJ0)) ?_
  rintro v H' g' ⟨cv', ⟨hx3, c0, c1, c2⟩, h⟩
  rw [Nat.zero_add, ← hlen] at h
  have he := hx3.ext
  refine OpsJ.normA ?_
  repeat' (first
    | ((fail_if_success (first | refine is_ucall ?_ | refine is_umcall ?_)); first | refine W1 ?_ | refine Wc ?_ | refine W2c ?_ ?_ | refine Wg ?_ | refine W2 ?_ ?_ | exact Wdead | refine Wlive (fun hb => ?_) | intro _ _ _ _ _ _ _ _ | refine We ?_ | refine Wx ?_ | refine Wt ?_ | refine Wm ?_ | refine W2m ?_ ?_ | refine Wl ?_)
    | fail)
  refine ⟨rfl, ?_⟩
  exact h.imp (fun h => h.2.2) (fun h => h.2)
section
variable {γ : Type} (E : Env γ) (g : γ) (H : AHeap)
theorem listsOf_spec (a b : Int) : CallJ Try.prog E 128 [.int .i64 a, .int .i64 b] (fun v H' g' => v = .func (.func 134) ⟨[]⟩ ⟨[.pointer (some ⟨H.length, 0, none⟩), .pointer (some ⟨H.length + 1, 0, none⟩)]⟩ ∧ H' = H ++ [.row [.int .i64 a] 1 true, .row [.int .i64 b] 1 true] ∧ g' = g) H g := by
  refine CallJ.enter Try.func128 rfl (by simp only [Try.ntmps128, List.length_cons, List.length_nil, Nat.zero_add, Nat.reduceAdd, Nat.reduceSub, List.replicate_succ, List.replicate_zero, List.cons_append, List.nil_append]; rfl) ?_
  repeat' (first
    | ((fail_if_success (first | refine is_ucall ?_ | refine is_umcall ?_)); first | refine W1 ?_ | refine Wc ?_ | refine W2c ?_ ?_ | refine Wg ?_ | refine W2 ?_ ?_ | exact Wdead | refine Wlive (fun hb => ?_) | intro _ _ _ _ _ _ _ _ | refine We ?_ | refine Wx ?_ | refine Wt ?_ | refine Wm ?_ | refine W2m ?_ ?_ | refine Wl ?_)
    | fail)
  exact ⟨rfl, rfl, rfl⟩
end
end Go.Proofs.Ytjbiidlmpaibkaa
