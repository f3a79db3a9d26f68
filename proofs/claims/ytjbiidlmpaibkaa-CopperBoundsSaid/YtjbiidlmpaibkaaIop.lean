import Derived.Test.YtjbiidlmpaibkaaInp
namespace Go.Proofs.Ytjbiidlmpaibkaa
open Go Go.Abs Go.Proofs
set_option maxHeartbeats 1600000
attribute [local irreducible] CallJ OpsJ WPJ CallV MonoJ SpecJ
abbrev padT (t : Int × List Int) : Int × List Int := (t.1, pad5 t.2)
theorem truR_mem {m : CopM} (hG : Good m) {k : Nat} {t : Int × List Int} (h : t ∈ truR m k) : padT t ∈ truthsL m ∧ t.2.length = hrs m ∧ TOk t.1 (pad5 t.2) := by
  obtain ⟨n, hn, rfl⟩ := List.mem_map.1 h
  obtain ⟨_, hT⟩ := List.mem_filter.1 hn
  have hm := nth_mem hG n
  obtain ⟨hn5, hnl⟩ := hrs_le hG.w
  have hll := hG.ll
  have h4 : (nthL m n).length = m.loss.length := digits_len _ _
  exact ⟨List.mem_filter.2 ⟨hm, hT⟩, by show (nthL m n).length = _; omega, hG.valid.tok _ hm⟩
theorem truR_sur {m : CopM} (hG : Good m) {t : Int × List Int} (h : t ∈ truthsL m) : ∃ s ∈ truR m (manyS m).toNat, padT s = t := by
  obtain ⟨h1, h2⟩ := List.mem_filter.1 h
  obtain ⟨n, hn, rfl⟩ := nth_sur hG h1
  exact ⟨_, List.mem_map.2 ⟨n, List.mem_filter.2 ⟨List.mem_range.2 hn, h2⟩, rfl⟩, rfl⟩
theorem truR_nil {m : CopM} (hG : Good m) : hasS m = decide (0 < (truR m (manyS m).toNat).length) := by
  rw [Bool.eq_iff_iff, decide_eq_true_eq]
  unfold hasS
  constructor
  · intro h
    cases hl : truthsL m with
    | nil => rw [hl] at h; cases h
    | cons t l =>
      obtain ⟨s, hs, _⟩ := truR_sur hG (t := t) (by rw [hl]; simp)
      exact List.length_pos_of_mem hs
  · intro h
    obtain ⟨s, hs⟩ := List.exists_mem_of_length_pos h
    have := (truR_mem hG hs).1
    cases hl : truthsL m with
    | nil => rw [hl] at this; cases this
    | cons t l => rfl
section
variable {γ : Type} (E : Env γ) (g : γ) (H : AHeap)
end
end Go.Proofs.Ytjbiidlmpaibkaa
