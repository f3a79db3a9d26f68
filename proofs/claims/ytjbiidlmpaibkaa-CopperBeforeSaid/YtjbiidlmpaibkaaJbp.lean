import Derived.Test.YtjbiidlmpaibkaaU6
namespace Go.Proofs.Ytjbiidlmpaibkaa
open Go Go.Abs Go.Proofs
set_option maxHeartbeats 1600000
attribute [local irreducible] CallJ OpsJ WPJ CallV MonoJ SpecJ
theorem lefts_before {m m' : CopM} (hs : m'.start = m.start) (hp : m'.per = m.per) (hm : m'.most = m.most) {hc : Int} {ls : List Int} : ∀ k, (∀ j < k, m'.coal.getD j 0 = m.coal.getD j 0) → (∀ j < k, m'.want.getD j 0 = m.want.getD j 0) → leftsS m' hc ls k = leftsS m hc ls k
  | 0, _, _ => hs
  | k + 1, hc', hw => by
    have ih := lefts_before hs hp hm (hc := hc) (ls := ls) k (fun j hj => hc' j (by omega)) (fun j hj => hw j (by omega))
    show leftF m' k (heatF m' hc ls k (leftsS m' hc ls k)) = leftF m k (heatF m hc ls k (leftsS m hc ls k))
    rw [ih]
    unfold leftF heatF
    rw [hp, hm, hw k (by omega), hc' k (by omega)]
theorem hot_before {m m' : CopM} (hs : m'.start = m.start) (hp : m'.per = m.per) (hm : m'.most = m.most) {hc : Int} {ls : List Int} (k : Nat) (hc' : ∀ j ≤ k, m'.coal.getD j 0 = m.coal.getD j 0) (hw : ∀ j < k, m'.want.getD j 0 = m.want.getD j 0) : hotS m' hc ls k = hotS m hc ls k := by
  unfold hotS heatS
  rw [lefts_before hs hp hm k (fun j hj => hc' j (by omega)) hw]
  unfold heatF
  rw [hp, hm, hc' k (by omega)]
end Go.Proofs.Ytjbiidlmpaibkaa
