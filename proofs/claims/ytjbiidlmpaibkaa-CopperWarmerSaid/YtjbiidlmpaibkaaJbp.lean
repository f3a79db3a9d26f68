import Derived.Test.YtjbiidlmpaibkaaU6
namespace Go.Proofs.Ytjbiidlmpaibkaa
open Go Go.Abs Go.Proofs
set_option maxHeartbeats 1600000
attribute [local irreducible] CallJ OpsJ WPJ CallV MonoJ SpecJ
theorem div_mono {x y p : Int} (hp : 1 ≤ p) (h : x ≤ y) : x / p ≤ y / p := Int.ediv_le_ediv (by omega) h
theorem leftF_mono {m m' : CopM} (hp : m'.per = m.per) (hw : ∀ j, m'.want.getD j 0 = m.want.getD j 0) (h1 : 1 ≤ m.per) (j : Nat) {x y : Int} (h : x ≤ y) : leftF m j x ≤ leftF m' j y := by
  unfold leftF
  rw [hp, hw]
  have hd := div_mono h1 h
  by_cases hx : m.want.getD j 0 ≤ x / m.per
  · rw [if_pos hx, if_pos (by omega)]; omega
  · rw [if_neg hx]
    by_cases hy : m.want.getD j 0 ≤ y / m.per
    · rw [if_pos hy]
      have h2 : m.want.getD j 0 * m.per ≤ y := (Int.le_ediv_iff_mul_le (by omega)).1 hy
      rw [Int.mul_comm]; omega
    · rw [if_neg hy]; omega
theorem heatF_mono {m m' : CopM} (hm : m'.most = m.most) (j : Nat) {hc hc' h h' : Int} {ls ls' : List Int} (hh : h ≤ h') (h0 : 0 ≤ hc) (hhc : hc ≤ hc') (hc0 : 0 ≤ m.coal.getD j 0) (hcl : m.coal.getD j 0 ≤ m'.coal.getD j 0) (hl : ls'.getD j 0 ≤ ls.getD j 0) :
    heatF m hc ls j h ≤ heatF m' hc' ls' j h' := by
  unfold heatF
  rw [hm]
  have h2 : hc * m.coal.getD j 0 ≤ hc' * m'.coal.getD j 0 := Int.mul_le_mul hhc hcl hc0 (by omega)
  omega
theorem lefts_warm {m m' : CopM} (hs : m'.start = m.start) (hp : m'.per = m.per) (hm : m'.most = m.most) (hw : ∀ j, m'.want.getD j 0 = m.want.getD j 0) (h1 : 1 ≤ m.per) {hc hc' : Int} {ls ls' : List Int} (h0 : 0 ≤ hc) (hhc : hc ≤ hc')
    (hc0 : ∀ j, 0 ≤ m.coal.getD j 0) (hcl : ∀ j, m.coal.getD j 0 ≤ m'.coal.getD j 0) (hl : ∀ j, ls'.getD j 0 ≤ ls.getD j 0) : ∀ j, leftsS m hc ls j ≤ leftsS m' hc' ls' j
  | 0 => by show m.start ≤ m'.start; omega
  | j + 1 => leftF_mono hp hw h1 j (heatF_mono hm j (lefts_warm hs hp hm hw h1 h0 hhc hc0 hcl hl j) h0 hhc (hc0 j) (hcl j) (hl j))
theorem hot_warm {m m' : CopM} (hs : m'.start = m.start) (hp : m'.per = m.per) (hm : m'.most = m.most) (hw : ∀ j, m'.want.getD j 0 = m.want.getD j 0) (h1 : 1 ≤ m.per) {hc hc' : Int} {ls ls' : List Int} (h0 : 0 ≤ hc) (hhc : hc ≤ hc')
    (hc0 : ∀ j, 0 ≤ m.coal.getD j 0) (hcl : ∀ j, m.coal.getD j 0 ≤ m'.coal.getD j 0) (hl : ∀ j, ls'.getD j 0 ≤ ls.getD j 0) (j : Nat) : hotS m hc ls j ≤ hotS m' hc' ls' j := by
  unfold hotS heatS
  rw [hp]
  exact div_mono h1 (heatF_mono hm j (lefts_warm hs hp hm hw h1 h0 hhc hc0 hcl hl j) h0 hhc (hc0 j) (hcl j) (hl j))
end Go.Proofs.Ytjbiidlmpaibkaa
