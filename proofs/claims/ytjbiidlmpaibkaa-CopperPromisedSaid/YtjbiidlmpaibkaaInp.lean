import Derived.Test.YtjbiidlmpaibkaaIkp
namespace Go.Proofs.Ytjbiidlmpaibkaa
open Go Go.Abs Go.Proofs
set_option maxHeartbeats 1600000
attribute [local irreducible] CallJ OpsJ WPJ CallV MonoJ SpecJ
def encV (t : Int × Value) : List Value := [.int .i64 t.1, t.2]
def TrL (H : AHeap) (v : Value) (ts : List (Int × List Int)) : Prop :=
  ∃ tv : List (Int × Value), RdS H v 2 (tv.map encV) ∧ tv.length = ts.length ∧ ∀ k (h1 : k < tv.length) (h2 : k < ts.length), tv[k].1 = ts[k].1 ∧ RdS H tv[k].2 1 (encI ts[k].2)
theorem TrL.ext {H H' : AHeap} {v : Value} {ts : List (Int × List Int)} (h : TrL H v ts) (he : Ext H H') : TrL H' v ts := by
  obtain ⟨tv, h1, h2, h3⟩ := h
  exact ⟨tv, h1.ext he, h2, fun k a b => ⟨(h3 k a b).1, (h3 k a b).2.ext he⟩⟩
def truR (m : CopM) (k : Nat) : List (Int × List Int) := ((List.range k).filter fun n => isT m (nthT m n)).map fun n => (nthH m n, nthL m n)
def TrG (H : AHeap) (n : Nat) (v : Value) (ts : List (Int × List Int)) : Prop :=
  ∃ tv : List (Int × Value), AppG encV 2 H n v tv ∧ tv.length = ts.length ∧ ∀ k (h1 : k < tv.length) (h2 : k < ts.length), tv[k].1 = ts[k].1 ∧
    ∃ r, tv[k].2 = .slice (some ⟨r, 0, none⟩) ts[k].2.length ts[k].2.length ∧ H[r]? = some (.row (encE ts[k].2) 1 true) ∧ ∀ i l c, v = .slice (some ⟨i, 0, none⟩) l c → r ≠ i
theorem TrG.app {H : AHeap} {n : Nat} {v : Value} {ts : List (Int × List Int)} (h : TrG H n v ts) (L : AHeap) : TrG (H ++ L) n v ts := by
  obtain ⟨tv, hA, h1, h2⟩ := h
  refine ⟨tv, hA.app _, h1, fun k a b => ?_⟩
  obtain ⟨q1, r, q2, q3, q4⟩ := h2 k a b
  exact ⟨q1, r, q2, get_old q3, q4⟩
section
variable {γ : Type} (E : Env γ) (g : γ) (H : AHeap)
end
end Go.Proofs.Ytjbiidlmpaibkaa
