import Derived.Test.YtehobnpoeodhkaaV5
namespace Go.Proofs.Ytehobnpoeodhkaa
open Go Go.Abs Go.Proofs
set_option maxHeartbeats 800000
attribute [local irreducible] CallJ OpsJ WPJ CallV MonoJ SpecJ

/-- a row of ours, not before n, long enough; or nothing -/
def RowAt (H : AHeap) (n w : Nat) (a : Option Addr) (len : Nat) : Prop := (a = none ∧ len = 0) ∨ ∃ i cs, a = some ⟨i, 0, none⟩ ∧ H[i]? = some (.row cs w true) ∧ n ≤ i ∧ len * w ≤ cs.length ∧ cs.all flat1 = true
theorem RowAt.ext {H H' : AHeap} {n w len : Nat} {a : Option Addr} (h : RowAt H n w a len) (he : Ext H H') : RowAt H' n w a len := by
  rcases h with h | ⟨i, cs, h1, h2, h3⟩
  · exact .inl h
  · exact .inr ⟨i, cs, h1, he.get h2, h3⟩
def idA : Option Addr → List Nat
  | some a => [a.block]
  | none => []
def OverP (a1 a2 : Option Addr) (H H' : AHeap) : Prop := H'.length = H.length ∧ ∀ k, k ∉ idA a1 → k ∉ idA a2 → H'[k]? = H[k]?
theorem OverP.refl (a1 a2 : Option Addr) (H : AHeap) : OverP a1 a2 H H := ⟨rfl, fun _ _ _ => rfl⟩
theorem OverP.set {a1 a2 : Option Addr} {H H' : AHeap} (h : OverP a1 a2 H H') {i : Nat} (hi : i ∈ idA a1 ∨ i ∈ idA a2) (o : AObj) : OverP a1 a2 H (H'.set i o) := by
  refine ⟨by rw [List.length_set]; exact h.1, fun k h1 h2 => ?_⟩
  rw [List.getElem?_set_ne]
  · exact h.2 k h1 h2
  · rintro rfl; exact hi.elim h1 h2
theorem OverP.ext {a1 a2 : Option Addr} {B H H' : AHeap} (h : OverP a1 a2 H H') (he : Ext B H) (h1 : ∀ i ∈ idA a1, B.length ≤ i) (h2 : ∀ i ∈ idA a2, B.length ≤ i) : Ext B H' := by
  refine ⟨H'.drop B.length, ?_⟩
  have hl := he.len
  have hl2 := h.1
  refine List.ext_getElem? fun k => ?_
  by_cases hk : k < B.length
  · rw [List.getElem?_append_left hk, h.2 k (fun hm => by have := h1 k hm; omega) (fun hm => by have := h2 k hm; omega)]
    obtain ⟨L, rfl⟩ := he
    exact List.getElem?_append_left hk
  · rw [List.getElem?_append_right (by omega), List.getElem?_drop]
    congr 1; omega
theorem OverP.row {a1 a2 : Option Addr} {H H' : AHeap} (h : OverP a1 a2 H H') {n w len : Nat} {a : Option Addr} (hr : RowAt H n w a len) (h1 : ∀ i ∈ idA a, i ∉ idA a1) (h2 : ∀ i ∈ idA a, i ∉ idA a2) : RowAt H' n w a len := by
  rcases hr with hr | ⟨i, cs, rfl, hr, hr2⟩
  · exact .inl hr
  · exact .inr ⟨i, cs, rfl, by rw [h.2 i (h1 i (by simp [idA])) (h2 i (by simp [idA]))]; exact hr, hr2⟩
theorem RowAt.ge {H : AHeap} {n w len : Nat} {a : Option Addr} (h : RowAt H n w a len) : ∀ i ∈ idA a, n ≤ i ∧ i < H.length := by
  rcases h with ⟨rfl, _⟩ | ⟨i, cs, rfl, h1, h2, _⟩
  · intro i hi; cases hi
  · intro k hk
    simp [idA] at hk
    subst hk
    exact ⟨h2, (List.getElem?_eq_some_iff.1 h1).1⟩
theorem two_flat {cs : List Value} {o p : Nat} {x y : Value} (h : cs.all flat1 = true) (hx : flat1 x = true) (hy : flat1 y = true) : (cs.take o ++ x :: y :: cs.drop p).all flat1 = true := by
  rw [List.all_eq_true] at *
  intro z hz
  simp only [List.mem_append, List.mem_cons] at hz
  rcases hz with hz | rfl | rfl | hz
  · exact h z (List.mem_of_mem_take hz)
  · exact hx
  · exact hy
  · exact h z (List.mem_of_mem_drop hz)
theorem set_flat1 {cs : List Value} {o : Nat} {v : Value} (h : cs.all flat1 = true) (hv : flat1 v = true) : (cs.set o v).all flat1 = true := by
  rw [List.all_eq_true] at *
  intro x hx
  rcases List.mem_or_eq_of_mem_set hx with h1 | rfl
  · exact h x h1
  · exact hv
section
variable {γ : Type} (E : Env γ) (g : γ) (H : AHeap)
theorem over_spec (a1 a2 : Option Addr) (l1 c1 l2 c2 n1 n2 : Nat) (h1 : RowAt H n1 2 a1 l1) (h2 : RowAt H n2 1 a2 l2) (hb1 : l1 ≤ 1000000) (hb2 : l2 ≤ 1000000) (hd : ∀ i ∈ idA a2, i ∉ idA a1) :
    CallJ Try.prog E 78 [.slice a1 l1 c1, .slice a2 l2 c2] (fun _ H' g' => OverP a1 a2 H H' ∧ g' = g) H g := by
  refine CallJ.enter Try.func78 rfl (by simp only [Try.ntmps78, List.length_cons, List.length_nil, Nat.zero_add, Nat.reduceAdd, Nat.reduceSub, List.replicate_succ, List.replicate_zero, List.cons_append, List.nil_append]; rfl) ?_
  repeat' (first
    | ((fail_if_success (first | refine is_ucall ?_ | refine is_umcall ?_)); first | refine W1 ?_ | refine Wc ?_ | refine W2c ?_ ?_ | refine Wg ?_ | refine W2 ?_ ?_ | exact Wdead | refine Wlive (fun hb => ?_) | intro _ _ _ _ _ _ _ _ | refine We ?_ | refine Wx ?_ | refine Wt ?_ | refine Wm ?_ | refine W2m ?_ ?_ | refine Wl ?_)
    | fail)
  refine WPJ.loopT l1 [6, 7, 8, 9, 12, 13, 14, 15, 10, 11] (fun j (_ : Unit) => [(4, .int .i64 j)])
    (fun j _ H1 g1 => g1 = g ∧ OverP a1 none H H1 ∧ RowAt H1 n1 2 a1 l1) 0 () (Nat.zero_le _) (by intro p hp; simp at hp; rcases hp with rfl; rfl) ⟨rfl, .refl _ _ _, h1⟩ ?_
  rintro j _ H1 g1 hj ⟨rfl, ho, hr⟩ hl0
  simp only [updT, maskT, List.set_cons_zero, List.set_cons_succ]
  rcases Nat.lt_or_ge j l1 with hlt | hge
  · rcases hr with ⟨_, h0⟩ | ⟨i, cs, rfl, hr, hni, hcl, hcf⟩
    · omega
    repeat' (first
      | ((fail_if_success (first | refine is_ucall ?_ | refine is_umcall ?_)); first | refine W1 ?_ | refine Wc ?_ | refine W2c ?_ ?_ | refine Wg ?_ | refine W2 ?_ ?_ | exact Wdead | refine Wlive (fun hb => ?_) | intro _ _ _ _ _ _ _ _ | refine We ?_ | refine Wx ?_ | refine Wt ?_ | refine Wm ?_ | refine W2m ?_ ?_ | refine Wl ?_)
      | fail)
    refine ⟨(), hlt, (by repeat' (first | exact Weak.nil | refine Weak.wild ?_ | refine Weak.same ?_ | refine Weak.intEq (by first | omega | (simp; done) | (push_cast; omega)) ?_)), rfl, ho.set (.inl (by simp [idA])) _, .inr ⟨i, _, rfl, List.getElem?_set_self (List.getElem?_eq_some_iff.1 hr).1, hni, ?_, ?_⟩⟩
    · simp; omega
    · exact two_flat hcf rfl rfl
  obtain rfl : j = l1 := by omega
  have ho1 : OverP a1 a2 H H1 := ⟨ho.1, fun k hk _ => ho.2 k hk (by simp [idA])⟩
  have h2' : RowAt H1 n2 1 a2 l2 := ho.row h2 hd (fun _ _ h => by cases h)
  clear ho hr h2 h1
  repeat' (first
    | ((fail_if_success (first | refine is_ucall ?_ | refine is_umcall ?_)); first | refine W1 ?_ | refine Wc ?_ | refine W2c ?_ ?_ | refine Wg ?_ | refine W2 ?_ ?_ | exact Wdead | refine Wlive (fun hb => ?_) | intro _ _ _ _ _ _ _ _ | refine We ?_ | refine Wx ?_ | refine Wt ?_ | refine Wm ?_ | refine W2m ?_ ?_ | refine Wl ?_)
    | fail)
  refine WPJ.loopT l2 [16, 17, 18, 19, 22, 23, 24, 20, 21] (fun j (_ : Unit) => [(5, .int .i64 j)])
    (fun j _ H2 g2 => g2 = g1 ∧ OverP a1 a2 H H2 ∧ RowAt H2 n2 1 a2 l2) 0 () (Nat.zero_le _) (by intro p hp; simp at hp; rcases hp with rfl; rfl) ⟨rfl, ho1, h2'⟩ ?_
  rintro j _ H2 g2 hj2 ⟨rfl, ho2, hr⟩ hl1
  simp only [updT, maskT, List.set_cons_zero, List.set_cons_succ]
  rcases Nat.lt_or_ge j l2 with hlt | hge2
  · rcases hr with ⟨_, h0⟩ | ⟨i, cs, rfl, hr, hni, hcl, hcf⟩
    · omega
    repeat' (first
      | ((fail_if_success (first | refine is_ucall ?_ | refine is_umcall ?_)); first | refine W1 ?_ | refine Wc ?_ | refine W2c ?_ ?_ | refine Wg ?_ | refine W2 ?_ ?_ | exact Wdead | refine Wlive (fun hb => ?_) | intro _ _ _ _ _ _ _ _ | refine We ?_ | refine Wx ?_ | refine Wt ?_ | refine Wm ?_ | refine W2m ?_ ?_ | refine Wl ?_)
      | fail)
    refine ⟨(), hlt, (by repeat' (first | exact Weak.nil | refine Weak.wild ?_ | refine Weak.same ?_ | refine Weak.intEq (by first | omega | (simp; done) | (push_cast; omega)) ?_)), rfl, ho2.set (.inr (by simp [idA])) _, .inr ⟨i, _, rfl, List.getElem?_set_self (List.getElem?_eq_some_iff.1 hr).1, hni, ?_, ?_⟩⟩
    · rw [List.length_set]; exact hcl
    · exact set_flat1 hcf rfl
  · obtain rfl : j = l2 := by omega
    repeat' (first
      | ((fail_if_success (first | refine is_ucall ?_ | refine is_umcall ?_)); first | refine W1 ?_ | refine Wc ?_ | refine W2c ?_ ?_ | refine Wg ?_ | refine W2 ?_ ?_ | exact Wdead | refine Wlive (fun hb => ?_) | intro _ _ _ _ _ _ _ _ | refine We ?_ | refine Wx ?_ | refine Wt ?_ | refine Wm ?_ | refine W2m ?_ ?_ | refine Wl ?_)
      | fail)
    exact ⟨ho2, rfl⟩
end
end Go.Proofs.Ytehobnpoeodhkaa
