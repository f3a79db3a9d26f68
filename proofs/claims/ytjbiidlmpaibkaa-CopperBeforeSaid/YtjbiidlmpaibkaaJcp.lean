import Derived.Test.YtjbiidlmpaibkaaJbp
namespace Go.Proofs.Ytjbiidlmpaibkaa
open Go Go.Abs Go.Proofs
set_option maxHeartbeats 1600000
attribute [local irreducible] CallJ OpsJ WPJ CallV MonoJ SpecJ
def CoalOk (m : CopM) (l : List Int) : Prop := l.length = hrs m ∧ ∀ x ∈ l, 0 ≤ x ∧ x ≤ m.shovels
def coalD (s k n i : Nat) : Int := ((n / (s + 1) ^ (k - 1 - i) % (s + 1) : Nat) : Int)
def coalN (m : CopM) (n : Nat) : List Int := (List.range (hrs m)).map (coalD m.shovels.toNat (hrs m) n)
def coalJ (s k n j : Nat) : List Int := (List.range k).map fun i => if k - j ≤ i then coalD s k n i else 0
theorem coalJ_zero (s k n : Nat) : coalJ s k n 0 = List.replicate k 0 := by
  unfold coalJ
  refine List.ext_getElem (by simp) fun i h1 h2 => ?_
  have : i < k := by simpa using h1
  simp only [List.getElem_map, List.getElem_range, List.getElem_replicate]
  rw [if_neg (by omega)]
theorem coalJ_all (s k n : Nat) : coalJ s k n k = (List.range k).map (coalD s k n) := by
  unfold coalJ
  refine List.map_congr_left fun i _ => ?_
  rw [if_pos (by omega)]
theorem coalJ_step (s k n : Nat) {j : Nat} (hj : j < k) : (coalJ s k n j).set (k - 1 - j) ((n / (s + 1) ^ j % (s + 1) : Nat) : Int) = coalJ s k n (j + 1) := by
  unfold coalJ
  refine List.ext_getElem (by simp) fun i h1 h2 => ?_
  have hi : i < k := by simpa using h2
  rw [List.getElem_set]
  simp only [List.getElem_map, List.getElem_range]
  by_cases h : k - 1 - j = i
  · rw [if_pos h, if_pos (by omega)]
    unfold coalD
    rw [show k - 1 - i = j by omega]
  · rw [if_neg h]
    by_cases h3 : k - j ≤ i
    · rw [if_pos h3, if_pos (by omega)]
    · rw [if_neg h3, if_neg (by omega)]
theorem coalJ_len (s k n j : Nat) : (coalJ s k n j).length = k := by simp [coalJ]
theorem coalN_ok {m : CopM} (h0 : 0 ≤ m.shovels) (n : Nat) : CoalOk m (coalN m n) := by
  refine ⟨by simp [coalN], fun x hx => ?_⟩
  obtain ⟨i, _, rfl⟩ := List.mem_map.1 hx
  unfold coalD
  have := Nat.mod_lt (n / (m.shovels.toNat + 1) ^ (hrs m - 1 - i)) (show 0 < m.shovels.toNat + 1 by omega)
  generalize n / (m.shovels.toNat + 1) ^ (hrs m - 1 - i) % (m.shovels.toNat + 1) = r at *
  omega
end Go.Proofs.Ytjbiidlmpaibkaa
