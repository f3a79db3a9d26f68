import Derived.Test.YtjbiidlmpaibkaaU6
namespace Go.Abs
open Go
theorem chgD_v (D : List (Value × AHeap)) (H : AHeap) (i : Nat) (o1 : AObj) (j : Nat) : vD (chgD D H i o1) j = vD D j := by
  simp only [vD, chgD, List.getElem?_mapIdx, Option.map_map]
  cases D[j]? <;> rfl
theorem chgD_l (D : List (Value × AHeap)) (H : AHeap) (i : Nat) (o1 : AObj) (j : Nat) : lD (chgD D H i o1) j = if (HK D H j).length ≤ i then (lD D j).set (i - (HK D H j).length) o1 else lD D j := by
  simp only [lD, chgD, List.getElem?_mapIdx, Option.map_map]
  cases D[j]? with
  | none => simp
  | some x => simp
theorem chgD_HK (D : List (Value × AHeap)) (H : AHeap) (i : Nat) (o1 : AObj) : ∀ k, HK (chgD D H i o1) (H.set i o1) k = (HK D H k).set i o1
  | 0 => rfl
  | k + 1 => by
    simp only [HK, chgD_HK D H i o1 k, chgD_l]
    by_cases h : (HK D H k).length ≤ i
    · rw [if_pos h, List.set_append_right _ _ h, List.set_eq_of_length_le h]
    · rw [if_neg h, List.set_append_left _ _ (by omega)]
theorem chgD_TK (ops : Array Oper) (D : List (Value × AHeap)) (T : List Value) (H : AHeap) (i : Nat) (o1 : AObj) : ∀ k, TK ops (chgD D H i o1) T k = TK ops D T k
  | 0 => rfl
  | k + 1 => by simp only [TK, chgD_TK ops D T H i o1 k, chgD_v]
theorem chgD_TS (ops : Array Oper) (D : List (Value × AHeap)) (T : List Value) (H : AHeap) (i : Nat) (o1 : AObj) (listed : Array Bool) : ∀ k, TS ops (chgD D H i o1) T listed k = TS ops D T listed k
  | 0 => rfl
  | k + 1 => by simp only [TS, chgD_TS ops D T H i o1 listed k, chgD_v]
theorem chgD_len (D : List (Value × AHeap)) (H : AHeap) (i : Nat) (o1 : AObj) (k : Nat) : (HK (chgD D H i o1) (H.set i o1) k).length = (HK D H k).length := by rw [chgD_HK]; simp
theorem chgD_get (D : List (Value × AHeap)) (H : AHeap) (i : Nat) (o1 : AObj) (k : Nat) {j : Nat} (hj : j ≠ i) : (HK (chgD D H i o1) (H.set i o1) k)[j]? = (HK D H k)[j]? := by rw [chgD_HK, List.getElem?_set_ne (Ne.symm hj)]
theorem chgD_at (D : List (Value × AHeap)) (H : AHeap) (i : Nat) (o1 : AObj) (k : Nat) (h : i < (HK D H k).length) : (HK (chgD D H i o1) (H.set i o1) k)[i]? = some o1 := by rw [chgD_HK, List.getElem?_set_self h]
theorem ownRow_live {o : AObj} (h : ownRow o = true) : o.dead? = false := by cases o <;> simp_all [ownRow, AObj.dead?]
section
variable {γ : Type} {P : Program} {E : Env γ} {ops : Array Oper} {D : List (Value × AHeap)} {T : List Value} {H : AHeap} {m : Nat} {LV : Nat → Prop}
  {g : γ} {S : Nat → Prop} {ρ : Ren} {w0 : World} {ro : Option Nat} {Ds : List Nat} {ds : List Deferred} {listed : Array Bool} {a : Act} {w : World} {ρ' : Ren}
theorem InvA.opRel (hi : InvA ops D T H m LV E g S ρ w0 ro Ds ds listed a w ρ') (hp : pairsB ops = true) (hmn : m ≤ ops.size) (hdom : ∀ i x, ρ i = some x → i < H.length) (htd : ∀ t, Def ρ (getT T t)) {k : Nat} {o : Oper} (h2 : ops[k]? = some o) (hkm : k < m)
    (hunk : listed.getD k false = false) (h3 : ∀ e ∈ o.after, Region.binds .any e = true → listed.getD e.on false = true) : OpRel (cutR ρ' (HK D H k).length) (TK ops D T k) a o.op := by
  have hlook := fun t ht => look_same (D := D) (T := T) hp hi.closed h2 hkm hmn hunk h3 (t := t) ht
  have lek : (cutR ρ' (HK D H k).length).le ρ' := cutR_le _ _
  have hdef : ∀ t, t ∈ o.looksAt ops → Def (cutR ρ' (HK D H k).length) (getT (TK ops D T k) t) := by
    intro t ht
    have hw := (hlook t ht).1
    have : ∀ i, i ≤ k → Def (cutR ρ' (HK D H k).length) (getT (TK ops D T i) t) := by
      intro i
      induction i with
      | zero =>
        intro _
        refine (htd t).mono fun i x hx => ?_
        have hlt := hdom i x hx
        have := HK_len D H (Nat.zero_le k)
        have h0 : HK D H 0 = H := rfl
        rw [h0] at this
        rw [cutR_lt (by omega), hi.base i hlt]; exact hx
      | succ i ih2 =>
        intro hik
        simp only [TK]
        by_cases hd : dstA ops i = some t
        · have hdv := hi.vals i (by omega) (hw i (by omega) hd)
          have hdv' : Def (cutR ρ' (HK D H k).length) (vD D i) := hdv.mono (cutR_mono ρ' (HK_len D H hik))
          rw [hd]
          rw [getT_get?]
          simp only [putT]
          rw [List.getElem?_set_self']
          cases (TK ops D T i)[t]? with
          | none => exact ⟨undef, undef_rel _⟩
          | some _ => exact hdv'
        · rw [getT_put hd]; exact ih2 (by omega)
    exact this k (Nat.le_refl _)
  exact ⟨fun x hx => by
    cases x with
    | tmp t =>
      have ht : t ∈ o.looksAt ops := List.mem_append_left _ (List.mem_filterMap.2 ⟨.tmp t, hx, rfl⟩)
      have h5 := hi.trel.getD t
      rw [(hlook t ht).2] at h5
      obtain ⟨v1, hv1⟩ := hdef t ht
      exact hv1.restrict lek h5
    | const v => exact constT_rel _ v
    | global i => exact .wild _
    | func f => exact .func rfl (fun _ h => absurd h (Nat.not_lt_zero _)) rfl (fun _ h => absurd h (Nat.not_lt_zero _))⟩
end
theorem anc_lt {ops : Array Oper} (hb : backB ops = true) : ∀ (n j k : Nat), ancB ops n j k = true → k < j
  | 0, _, _, h => by simp [ancB] at h
  | n + 1, j, k, h => by
    simp only [ancB, Bool.or_eq_true] at h
    rcases h with h | h
    · unfold edgeB at h
      cases hj : ops[j]? with
      | none => rw [hj] at h; simp at h
      | some oj =>
        obtain ⟨e, he, hbn, rfl⟩ := edge_spec hj (by unfold edgeB; exact h)
        exact backB_spec hb hj e he hbn
    · cases hj : ops[j]? with
      | none => rw [hj] at h; simp at h
      | some oj =>
        rw [hj] at h
        simp only [Option.map_some, Option.getD_some] at h
        obtain ⟨e, he, hbn⟩ := Array.any_eq_true'.1 h
        simp only [Bool.and_eq_true] at hbn
        have h1 := backB_spec hb hj e he hbn.1
        have h2 := anc_lt hb n e.on k hbn.2
        omega
end Go.Abs
