import Derived.Test.YtjbiidlmpaibkaaIdp
namespace Go.Proofs.Ytjbiidlmpaibkaa
open Go Go.Abs Go.Proofs
set_option maxHeartbeats 1600000
attribute [local irreducible] CallJ OpsJ WPJ CallV MonoJ SpecJ
theorem st_appX {γ : Type} {P : Program} {E : Env γ} {T : List Value} {H : AHeap} {g : γ} {R : List Value → AHeap → γ → Prop} {ops : Array Oper} {dst : Option Tmp} {ty : TypeId} {ps : String} {af : Array Edge} {rest : List Oper} {α : Type} {enc : α → List Value} {w n : Nat} {v : Value} {l : List α} {s x : Operand} {t e : TypeId} {nn : Nat} {z : Value} {b : Nat} {d' : TypeDesc} {z' : Value} {b' : Nat} {i o cap : Nat} {cells : List Value} {es : Nat} {own : Bool} {a : α}
    [ht : TyC P t (.slice e) nn z b] [he : TyC P e d' w z' b'] (hA : AppG enc w H n v l) (hz' : (cellsL z').length = w) (hw : ∀ a, (enc a).length = w) (hs : evalT T s = v) (hx : evalT T x = .slice (some ⟨i, o, none⟩) 1 cap) (hi : H[i]? = some (.row cells es own))
    (hfit : o + w ≤ cells.length) (hc : (cells.drop o).take w = enc a) (hok : (enc a).all cellOk = true) (hnH : n ≤ H.length) (hn : l.length ≤ 1000000) (hb : b' ≤ 1000)
    (k : ∀ H2, AppG enc w H2 n (.slice (some ⟨H.length, 0, none⟩) (l.length + 1) (l.length + 1)) (l ++ [a]) → (∀ H0, Ext H0 H → H0.length ≤ n → Ext H0 H2) → (∀ j o, (∀ i l c, v = .slice (some ⟨i, 0, none⟩) l c → j ≠ i) → H[j]? = some o → H2[j]? = some o) → H.length < H2.length →
      OpsJ P E ops R rest (putT T dst (.slice (some ⟨H.length, 0, none⟩) (l.length + 1) (l.length + 1))) H2 g) :
    OpsJ P E ops R (⟨dst, .call { callee := .builtin .append, args := #[s, x], argTypes := #[t, t] }, ty, ps, af, none⟩ :: rest) T H g := by
  have hm : maxLen = 9223372036854775807 := by decide
  have hlb : (l.length + 1) * b' ≤ 140737488355328 := by
    have := Nat.mul_le_mul (show l.length + 1 ≤ 1000001 by omega) hb
    omega
  rcases hA with ⟨rfl, rfl⟩ | ⟨j, rfl, hj, hnj, hne⟩
  · refine st_appendNil hz' hs hx hi (news := enc a) (by omega) (by rw [Nat.one_mul]; exact hc) ⟨by decide, by rw [hm]; decide, by simpa using hlb⟩ (k _ ?_ ?_ ?_ (by simp))
    · exact .inr ⟨H.length, by simp, by simp, hnH, by simp⟩
    · exact fun H0 h0 _ => Ext.app h0 _
    · exact fun j o _ h => get_old h
  · have hlen := flatten_lenG hw l
    refine st_appendOwn hz' hs hx hj (by omega) hi (by omega) (by rw [Nat.one_mul]; exact hc) hok ⟨by rw [hm]; omega, hlb⟩ (k _ ?_ ?_ ?_ (by simp))
    · refine .inr ⟨H.length, by simp, ?_, hnH, by simp⟩
      rw [List.take_of_length_le (by omega)]
      have : (H.set j AObj.dead).length = H.length := by simp
      rw [List.getElem?_append_right (by omega)]
      simp
    · exact fun H0 h0 hl0 => Ext.app (Ext.set h0 (by omega) _) _
    · exact fun j2 o hj2 h => get_old (get_setne (Ne.symm (hj2 _ _ _ rfl)) h)
def szN (r : Int × Int) : Nat := (r.2 - r.1 + 1).toNat
def digits : List (Int × Int) → Nat → List Int
  | [], _ => []
  | r :: rs, n => (r.1 + (n % szN r : Nat)) :: digits rs (n / szN r)
def restN : List (Int × Int) → Nat → Nat
  | [], n => n
  | r :: rs, n => restN rs (n / szN r)
def nthH (m : CopM) (n : Nat) : Int := m.hlo + (n % szN (m.hlo, m.hhi) : Nat)
def nthL (m : CopM) (n : Nat) : List Int := digits m.loss (n / szN (m.hlo, m.hhi))
section
variable {γ : Type} (E : Env γ) (g : γ) (H : AHeap)
end
end Go.Proofs.Ytjbiidlmpaibkaa
