import Derived.Test.YtjbiidlmpaibkaaIsp
namespace Go.Proofs.Ytjbiidlmpaibkaa
open Go Go.Abs Go.Proofs
set_option maxHeartbeats 4000000
set_option maxRecDepth 20000
attribute [local irreducible] CallJ OpsJ WPJ CallV MonoJ SpecJ
theorem lefts_mono (q : CopM) (w : List Int) (hc : Int) (ls : List Int) (hw : ∀ j, w.getD j 0 ≤ q.want.getD j 0) (hp : 1 ≤ q.per) : ∀ k, (∀ j < k, keepQ q j (hc, ls) = true) → leftsS q hc ls k ≤ leftsS { q with want := w } hc ls k
  | 0, _ => Int.le_refl _
  | k + 1, hk => by
    have ih := lefts_mono q w hc ls hw hp k fun j hj => hk j (by omega)
    have h1 := hk k (by omega)
    have h2 := hw k
    unfold keepQ hotS heatS at h1
    rw [decide_eq_true_eq] at h1
    have hh : heatF q hc ls k (leftsS q hc ls k) ≤ heatF { q with want := w } hc ls k (leftsS { q with want := w } hc ls k) := by
      show max (min (leftsS q hc ls k + hc * q.coal.getD k 0) q.most - ls.getD k 0) 0 ≤ max (min (leftsS { q with want := w } hc ls k + hc * q.coal.getD k 0) q.most - ls.getD k 0) 0
      omega
    show leftF q k (heatF q hc ls k (leftsS q hc ls k)) ≤ leftF { q with want := w } k (heatF { q with want := w } hc ls k (leftsS { q with want := w } hc ls k))
    generalize heatF q hc ls k (leftsS q hc ls k) = x at *
    generalize heatF { q with want := w } hc ls k (leftsS { q with want := w } hc ls k) = y at *
    have h3 : x / q.per ≤ y / q.per := Int.ediv_le_ediv (by omega) hh
    unfold leftF
    show (if q.want.getD k 0 ≤ x / q.per then x - q.per * q.want.getD k 0 else 0) ≤ if w.getD k 0 ≤ y / q.per then y - q.per * w.getD k 0 else 0
    rw [if_pos h1, if_pos (by omega)]
    have h4 : q.per * w.getD k 0 ≤ q.per * q.want.getD k 0 := Int.mul_le_mul_of_nonneg_left h2 (by omega)
    omega
theorem less_kept (q : CopM) (w : List Int) (t : Int × List Int) (hw : ∀ j, w.getD j 0 ≤ q.want.getD j 0) (hp : 1 ≤ q.per) (hk : ∀ j < hrs q, keepQ q j t = true) : ∀ j < hrs q, keepQ { q with want := w } j t = true := by
  intro j hj
  have h1 := lefts_mono q w t.1 t.2 hw hp j fun i hi => hk i (by omega)
  have h2 := hk j hj
  have h3 := hw j
  unfold keepQ hotS heatS at h2 ⊢
  rw [decide_eq_true_eq] at h2 ⊢
  have hh : heatF q t.1 t.2 j (leftsS q t.1 t.2 j) ≤ heatF { q with want := w } t.1 t.2 j (leftsS { q with want := w } t.1 t.2 j) := by
    show max (min (leftsS q t.1 t.2 j + t.1 * q.coal.getD j 0) q.most - t.2.getD j 0) 0 ≤ max (min (leftsS { q with want := w } t.1 t.2 j + t.1 * q.coal.getD j 0) q.most - t.2.getD j 0) 0
    omega
  have h4 : heatF q t.1 t.2 j (leftsS q t.1 t.2 j) / q.per ≤ heatF { q with want := w } t.1 t.2 j (leftsS { q with want := w } t.1 t.2 j) / q.per := Int.ediv_le_ediv (by omega) hh
  show w.getD j 0 ≤ heatF { q with want := w } t.1 t.2 j (leftsS { q with want := w } t.1 t.2 j) / q.per
  omega
theorem spareB_zero {m : CopM} (hG : Good m) (h : Nat) : spareB m h 0 = allKept m := by
  unfold spareB allKept
  have e : moreM m (oneL (hrs m) h 0) = m := by
    have hwl := hG.w.wl
    have : addL (hrs m) m.want (oneL (hrs m) h 0) = m.want := by
      apply List.ext_getElem?
      intro i
      unfold addL
      by_cases hi : i < hrs m
      · have e2 : (oneL (hrs m) h 0).getD i 0 = 0 := by
          unfold oneL
          simp only [List.getD_eq_getElem?_getD, List.getElem?_set, List.getElem?_replicate]
          split <;> simp_all
        rw [List.getElem?_map, List.getElem?_range hi, Option.map_some, e2]
        simp [List.getD, show i < m.want.length by omega]
      · rw [List.getElem?_eq_none (by simp; omega), List.getElem?_eq_none (by omega)]
    unfold moreM
    rw [this]
  rw [e]
def bestS (m : CopM) (h : Nat) : Nat → Int
  | 0 => -1
  | k + 1 => if spareB m h (k : Nat) then (k : Nat) else bestS m h k
section
variable {γ : Type} (E : Env γ) (g : γ) (H : AHeap)
theorem verdict_one (l : List (Int × List Int)) (p : Int × List Int → Bool) : verdictS l p = 1 ↔ l.all p = true := by
  unfold verdictS
  cases l.all p <;> simp
  split <;> simp
end
end Go.Proofs.Ytjbiidlmpaibkaa
