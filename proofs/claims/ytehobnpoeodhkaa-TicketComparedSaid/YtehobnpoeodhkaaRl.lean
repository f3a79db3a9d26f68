import Derived.Test.YtehobnpoeodhkaaRd
import Derived.Test.YtehobnpoeodhkaaRv
namespace Go.Abs
open Go
section
variable {γ : Type} {P : Program} {E : Env γ} {T : List Value} {H : AHeap} {g : γ} {R : List Value → AHeap → γ → Prop} {ops : Array Oper} {dst : Option Tmp} {ty : TypeId} {ps : String} {af : Array Edge} {rest : List Oper}
/-- a copy: append([]T{}, l...), of something -/
theorem st_appendCopyE {α : Type} {enc : α → List Value} {w : Nat} {l : List α} {Hx : AHeap} {s x : Operand} {t e : TypeId} {n : Nat} {z : Value} {b : Nat} {d' : TypeDesc} {z' : Value} {b' : Nat} {v : Value} {i0 cp : Nat} {cells0 : List Value} [ht : TyC P t (.slice e) n z b] [he : TyC P e d' w z' b']
    (hr : RdS Hx v w (l.map enc)) (hne : l ≠ []) (hext : Ext Hx H) (hz' : (cellsL z').length = w) (hok : ∀ a, (enc a).all cellOk = true) (hs_ : evalT T s = .slice (some ⟨i0, 0, none⟩) 0 cp) (hi0 : H[i0]? = some (.row cells0 w true)) (hx : evalT T x = v) (hn : l.length ≤ 1000000) (hb : b' ≤ 1000)
    (k : OpsJ P E ops R rest (putT T dst (.slice (some ⟨H.length, 0, none⟩) l.length l.length)) (H.set i0 .dead ++ [.row (l.map enc).flatten w true]) g) : OpsJ P E ops R (⟨dst, .call { callee := .builtin .append, args := #[s, x], argTypes := #[t, t] }, ty, ps, af, none⟩ :: rest) T H g := by
  obtain ⟨_, h⟩ := hr
  have hm : maxLen = 9223372036854775807 := by decide
  rcases h with ⟨i, o, c, row, es', own, a, b1, b2, b3⟩ | ⟨h, _⟩
  · rw [List.length_map] at a b2 b3
    have hlb : (0 + l.length) * b' ≤ 140737488355328 := by
      have := Nat.mul_le_mul hn hb
      rw [Nat.zero_add]
      omega
    refine st_appendOwn hz' hs_ (hx.trans a) hi0 (by omega) (hext.get b1) b2 b3 ?_ ⟨by rw [hm]; omega, hlb⟩ ?_
    · rw [List.all_eq_true]
      intro y hy
      obtain ⟨q, hq, hyq⟩ := List.mem_flatten.1 hy
      obtain ⟨p, _, rfl⟩ := List.mem_map.1 hq
      exact List.all_eq_true.1 (hok p) y hyq
    · simpa using k
  · exact absurd (List.map_eq_nil_iff.1 h) hne
end
theorem flat_set {α : Type} {enc : α → List Value} {w : Nat} (hw : ∀ a, (enc a).length = w) : ∀ (l : List α) (k : Nat) (a : α), k < l.length → splice (l.map enc).flatten (k * w) (enc a) = ((l.set k a).map enc).flatten
  | [], k, a, h => by simp at h
  | x :: l, 0, a, _ => by
    have := hw x
    have := hw a
    simp [splice, *]
  | x :: l, k + 1, a, h => by
    have h1 := hw x
    have h2 := hw a
    have ih := flat_set hw l k a (by simpa using h)
    unfold splice at ih ⊢
    simp only [List.map_cons, List.flatten_cons, List.set_cons_succ]
    have e1 : (k + 1) * w = (enc x).length + k * w := by rw [h1, Nat.add_mul, Nat.one_mul, Nat.add_comm]
    rw [← ih, e1, List.take_length_add_append, Nat.add_assoc, List.drop_length_add_append]
    simp [List.append_assoc]
end Go.Abs
namespace Go.Proofs.Ytehobnpoeodhkaa
open Go Go.Abs Go.Proofs
set_option maxHeartbeats 800000
attribute [local irreducible] CallJ OpsJ WPJ CallV MonoJ SpecJ

/-- a house one of whose clocks' errors is known -/
def cmpM (m : HouseM) (k : Nat) (n : Int) : HouseM := { m with clocks := m.clocks.set k (n, n) }
theorem prod_pos : ∀ (cs : List (Int × Int)), (∀ r ∈ cs, r.1 ≤ r.2) → 1 ≤ prodS cs
  | [], _ => by simp [prodS]
  | r :: cs, h => by
    have ih := prod_pos cs fun x hx => h x (by simp [hx])
    have hr := h r (by simp)
    simp only [prodS]
    have := Int.mul_le_mul (show (1 : Int) ≤ r.2 - r.1 + 1 by omega) ih (by omega) (by omega)
    omega
theorem prod_set : ∀ (cs : List (Int × Int)) (k : Nat) (n : Int), (∀ r ∈ cs, r.1 ≤ r.2) → prodS (cs.set k (n, n)) ≤ prodS cs
  | [], _, _, _ => by simp [prodS]
  | r :: cs, 0, n, h => by
    have hp := prod_pos cs fun x hx => h x (by simp [hx])
    have hr := h r (by simp)
    simp only [List.set_cons_zero, prodS]
    exact Int.mul_le_mul_of_nonneg_right (by omega) (by omega)
  | r :: cs, k + 1, n, h => by
    have ih := prod_set cs k n fun x hx => h x (by simp [hx])
    have hr := h r (by simp)
    simp only [List.set_cons_succ, prodS]
    exact Int.mul_le_mul_of_nonneg_left ih (by omega)
theorem cmp_good {m : HouseM} (hG : Good m) {k : Nat} {n : Int} (hn : -30 ≤ n ∧ n ≤ 30) : Good (cmpM m k n) := by
  have h1 : (m.clocks.set k (n, n)).length = m.clocks.length := by simp
  refine ⟨hG.hour, hG.grace, by show (m.clocks.set k (n, n)).length ≤ 4; rw [h1]; exact hG.n1, hG.n2, hG.n3, fun r hr => ?_, hG.ticket, fun c hc => ?_, ?_⟩
  · rcases List.mem_or_eq_of_mem_set hr with h | rfl
    · exact hG.clock r h
    · exact ⟨hn.1, Int.le_refl _, hn.2⟩
  · have := hG.clip c hc
    show _ ∧ (0 ≤ c.clock ∧ c.clock < ((m.clocks.set k (n, n)).length : Nat)) ∧ _
    rw [h1]; exact this
  · have := prod_set m.clocks k n fun r hr => (hG.clock r hr).2.1
    have h2 := hG.few
    show prodS (m.clocks.set k (n, n)) ≤ 2000
    omega
theorem cmp_isE {m : HouseM} {k : Nat} {n : Int} (hk : k < m.clocks.length) (hn : inR m.clocks[k] n = true) (l : List Int) : isE (cmpM m k n) l = true ↔ isE m l = true ∧ l.getD k 0 = n := by
  simp only [isE, Bool.and_eq_true, decide_eq_true_eq, List.all_eq_true]
  have h1 : (cmpM m k n).clocks.length = m.clocks.length := by simp [cmpM]
  rw [h1]
  have hz : ∀ j r x, ((cmpM m k n).clocks.zip l)[j]? = some (r, x) ↔ ((m.clocks.set k (n, n))[j]? = some r ∧ l[j]? = some x) := fun j r x => List.getElem?_zip_eq_some
  constructor
  · rintro ⟨hl, h⟩
    have hkl : k < l.length := by omega
    have hat := h ((n, n), l[k]) (List.mem_of_getElem? (i := k) ((hz k (n, n) l[k]).2 ⟨by simp [hk], by simp [hkl]⟩))
    simp only [inR, Bool.and_eq_true, decide_eq_true_eq] at hat
    have hkn : l[k] = n := by omega
    refine ⟨⟨hl, fun x hx => ?_⟩, by simp [List.getD, hkl, hkn]⟩
    obtain ⟨j, hj, rfl⟩ := List.getElem_of_mem hx
    simp only [List.getElem_zip]
    have hj1 : j < m.clocks.length := by simp at hj; omega
    have hj2 : j < l.length := by omega
    by_cases e : k = j
    · subst e
      rw [hkn]; exact hn
    · exact h (m.clocks[j], l[j]) (List.mem_of_getElem? (i := j) ((hz j _ _).2 ⟨by rw [List.getElem?_set_ne e]; simp [hj1], by simp [hj2]⟩))
  · rintro ⟨⟨hl, h⟩, hkn⟩
    have hkl : k < l.length := by omega
    have hkn2 : l[k] = n := by simpa [List.getD, hkl] using hkn
    refine ⟨hl, fun x hx => ?_⟩
    obtain ⟨j, hj, rfl⟩ := List.getElem_of_mem hx
    have hj1 : j < m.clocks.length := by simp [cmpM] at hj; omega
    have hj2 : j < l.length := by omega
    simp only [List.getElem_zip, cmpM]
    by_cases e : k = j
    · subst e
      simp [inR, hkn2]
    · rw [List.getElem_set_ne e]
      exact h (m.clocks[j], l[j]) (List.mem_of_getElem? (i := j) (by simp [List.getElem?_zip_eq_some, hj1, hj2]))
theorem cmp_len {m : HouseM} (hG : Good m) {k : Nat} {n : Int} (hk : k < m.clocks.length) (hn : inR m.clocks[k] n = true) : ((refL (cmpM m k n)).length : Int) = cntR (refL m) k n := by
  have hn2 := hn
  simp only [inR, Bool.and_eq_true, decide_eq_true_eq] at hn2
  have hb := hG.clock _ (List.getElem_mem hk)
  have hG2 : Good (cmpM m k n) := cmp_good hG (by omega)
  have hp : (refL (cmpM m k n)).Perm ((refL m).filter fun y => decide (y.getD k 0 = n)) := by
    refine (List.perm_ext_iff_of_nodup (ref_nodup hG2) (List.Pairwise.filter _ (ref_nodup hG))).2 fun l => ?_
    rw [mem_ref hG2, List.mem_filter, mem_ref hG, cmp_isE hk hn, decide_eq_true_eq]
    show (isE m l = true ∧ l.getD k 0 = n) ∧ riseS m l = true ↔ _
    exact ⟨fun ⟨⟨a, b⟩, c⟩ => ⟨⟨a, c⟩, b⟩, fun ⟨⟨a, c⟩, b⟩ => ⟨⟨a, b⟩, c⟩⟩
  unfold cntR
  rw [hp.length_eq, List.countP_eq_length_filter]
def mostF (m : HouseM) (k : Nat) (lo : Int) (j : Nat) : Int := ((List.range j).map fun (i : Nat) => cntR (refL m) k (lo + i)).foldl max 0
theorem mostF_step (m : HouseM) (k : Nat) (lo : Int) (j : Nat) : mostF m k lo (j + 1) = max (mostF m k lo j) (cntR (refL m) k (lo + j)) := by
  unfold mostF
  rw [List.range_succ, List.map_append, List.foldl_append]
  rfl
theorem most_eq {m : HouseM} (hG : Good m) {k N : Nat} (hk : k < m.clocks.length) (hN : (N : Int) = m.clocks[k].2 - m.clocks[k].1 + 1) : mostF m k m.clocks[k].1 N = leftR (refL m) k := by
  unfold mostF leftR
  have a1 := fmax_le ((List.range N).map fun (i : Nat) => cntR (refL m) k (m.clocks[k].1 + i)) 0
  have b1 := fmax_le ((refL m).map fun l => cntR (refL m) k (l.getD k 0)) 0
  refine Int.le_antisymm ?_ ?_
  · rcases fmax_mem ((List.range N).map fun (i : Nat) => cntR (refL m) k (m.clocks[k].1 + i)) 0 with h | h
    · rw [h]; exact b1.1
    · obtain ⟨i, hi, e⟩ := List.mem_map.1 h
      rw [← e]
      by_cases hc : ∃ l ∈ refL m, l.getD k 0 = m.clocks[k].1 + i
      · obtain ⟨l, hl, e2⟩ := hc
        rw [← e2]
        exact b1.2 _ (List.mem_map.2 ⟨l, hl, rfl⟩)
      · have : cntR (refL m) k (m.clocks[k].1 + i) = 0 := by
          unfold cntR
          rw [List.countP_eq_zero.2 fun l hl h2 => hc ⟨l, hl, by simpa using h2⟩]
          rfl
        rw [this]; exact b1.1
  · rcases fmax_mem ((refL m).map fun l => cntR (refL m) k (l.getD k 0)) 0 with h | h
    · rw [h]; exact a1.1
    · obtain ⟨l, hl, e⟩ := List.mem_map.1 h
      rw [← e]
      have hE := ((mem_ref hG l).1 hl).1
      simp only [isE, Bool.and_eq_true, decide_eq_true_eq, List.all_eq_true] at hE
      have hkl : k < l.length := by omega
      have hi := hE.2 (m.clocks[k], l[k]) (List.mem_of_getElem? (i := k) (by simp [List.getElem?_zip_eq_some, hk, hkl]))
      simp only [inR, Bool.and_eq_true, decide_eq_true_eq] at hi
      have hg : l.getD k 0 = l[k] := by simp [List.getD, hkl]
      rw [hg]
      refine a1.2 _ (List.mem_map.2 ⟨(l[k] - m.clocks[k].1).toNat, List.mem_range.2 (by omega), ?_⟩)
      rw [show m.clocks[k].1 + ((l[k] - m.clocks[k].1).toNat : Int) = l[k] by omega]
end Go.Proofs.Ytehobnpoeodhkaa
