import Derived.Test.YtehobnpoeodhkaaV3
import Derived.Test.YtehobnpoeodhkaaProg
import Derived.KernelRfl
namespace Go.Abs
open Go

/-- The data with one row of them turned. -/
def chgD (D : List (Value × AHeap)) (H : AHeap) (i : Nat) (o1 : AObj) : List (Value × AHeap) :=
  D.mapIdx fun j x => (x.1, if (HK D H j).length ≤ i then x.2.set (i - (HK D H j).length) o1 else x.2)

theorem chgD_v (D : List (Value × AHeap)) (H : AHeap) (i : Nat) (o1 : AObj) (j : Nat) : vD (chgD D H i o1) j = vD D j := by
  simp only [vD, chgD, List.getElem?_mapIdx, Option.map_map]
  cases D[j]? <;> rfl
theorem chgD_l (D : List (Value × AHeap)) (H : AHeap) (i : Nat) (o1 : AObj) (j : Nat) : lD (chgD D H i o1) j = if (HK D H j).length ≤ i then (lD D j).set (i - (HK D H j).length) o1 else lD D j := by
  simp only [lD, chgD, List.getElem?_mapIdx, Option.map_map]
  cases D[j]? with
  | none => simp
  | some x => simp
theorem chgD_HK (D : List (Value × AHeap)) (H : AHeap) (i : Nat) (o1 : AObj) : ∀ k, HK (chgD D H i o1) (H.set i o1) k = (HK D H k).set i o1
  | 0 => rfl
  | k + 1 => by
    simp only [HK, chgD_HK D H i o1 k, chgD_l]
    by_cases h : (HK D H k).length ≤ i
    · rw [if_pos h, List.set_append_right _ _ h, List.set_eq_of_length_le h]
    · rw [if_neg h, List.set_append_left _ _ (by omega)]
theorem chgD_TK (ops : Array Oper) (D : List (Value × AHeap)) (T : List Value) (H : AHeap) (i : Nat) (o1 : AObj) : ∀ k, TK ops (chgD D H i o1) T k = TK ops D T k
  | 0 => rfl
  | k + 1 => by simp only [TK, chgD_TK ops D T H i o1 k, chgD_v]
theorem chgD_TS (ops : Array Oper) (D : List (Value × AHeap)) (T : List Value) (H : AHeap) (i : Nat) (o1 : AObj) (listed : Array Bool) : ∀ k, TS ops (chgD D H i o1) T listed k = TS ops D T listed k
  | 0 => rfl
  | k + 1 => by simp only [TS, chgD_TS ops D T H i o1 listed k, chgD_v]
theorem chgD_len (D : List (Value × AHeap)) (H : AHeap) (i : Nat) (o1 : AObj) (k : Nat) : (HK (chgD D H i o1) (H.set i o1) k).length = (HK D H k).length := by rw [chgD_HK]; simp
theorem chgD_get (D : List (Value × AHeap)) (H : AHeap) (i : Nat) (o1 : AObj) (k : Nat) {j : Nat} (hj : j ≠ i) : (HK (chgD D H i o1) (H.set i o1) k)[j]? = (HK D H k)[j]? := by rw [chgD_HK, List.getElem?_set_ne (Ne.symm hj)]
theorem chgD_at (D : List (Value × AHeap)) (H : AHeap) (i : Nat) (o1 : AObj) (k : Nat) (h : i < (HK D H k).length) : (HK (chgD D H i o1) (H.set i o1) k)[i]? = some o1 := by rw [chgD_HK, List.getElem?_set_self h]

section
variable {γ : Type} {P : Program} {E : Env γ} {ops : Array Oper} {D : List (Value × AHeap)} {T : List Value} {H : AHeap} {m : Nat} {LV : Nat → Prop}
  {g : γ} {S : Nat → Prop} {ρ : Ren} {w0 : World} {ro : Option Nat} {Ds : List Nat} {ds : List Deferred} {listed : Array Bool} {a : Act} {w : World} {ρ' : Ren}

/-- what lies beyond the beginning is ours, and alive -/
theorem HK_own (hrows : ∀ k, k < m → (lD D k).all ownRow = true) : ∀ k, k ≤ m → ∀ i ob, H.length ≤ i → (HK D H k)[i]? = some ob → ownRow ob = true := by
  intro k
  induction k with
  | zero => intro _ i ob h1 h2; simp only [HK] at h2; rw [List.getElem?_eq_none h1] at h2; cases h2
  | succ k ih =>
    intro hk i ob h1 h2
    simp only [HK] at h2
    by_cases h3 : i < (HK D H k).length
    · rw [List.getElem?_append_left h3] at h2; exact ih (by omega) i ob h1 h2
    · rw [List.getElem?_append_right (by omega)] at h2
      exact List.all_eq_true.1 (hrows k (by omega)) ob (List.mem_of_getElem? h2)
theorem ownRow_live {o : AObj} (h : ownRow o = true) : o.dead? = false := by cases o <;> simp_all [ownRow, AObj.dead?]

theorem InvA.special (hi : InvA ops D T H m LV E g S ρ w0 ro Ds ds listed a w ρ') (hp : pairsB ops = true) (hrows : ∀ k, k < m → (lD D k).all ownRow = true) {j : Nat} {o : Oper} (hj : ops[j]? = some o) (hjm : j < m) (hun : listed.getD j false = false)
    (hdeps : ∀ e ∈ o.after, Region.binds .any e = true → listed.getD e.on false = true) {i : Nat} {o0 o1 : AObj} (hio : (HK D H j)[i]? = some o0) (ho0 : ownedO o0 = true) (hfl : flatRow o1 = true) (hlv : ∀ b, LiveOwn ρ (H.set i o1) b → LV b)
    (hlvi : ∀ x, ρ i = some x → i < H.length → LV x.blk)
    {ρ2 : Ren} {w' : World} {v' : Value} {S' : Nat → Prop} (hs2 : SRel ρ2 (HK (chgD D H i o1) (H.set i o1) (j + 1)) w') (tr : Trans (cutR ρ' (HK D H j).length) (HK D H j) (fun _ => False) w ρ2 (HK (chgD D H i o1) (H.set i o1) (j + 1)) S' w') (hv : VRel ρ2 (vD D j) v') :
    ∃ ρ3, InvA ops (chgD D H i o1) T (H.set i o1) m LV E g S ρ w0 ro Ds ds (listed.setIfInBounds j true) (a.put o.dst v') w' ρ3 := by
  have hjl : j < listed.size := hi.size ▸ (Array.getElem?_eq_some_iff.1 hj).1
  have hset := getD_set hjl
  have hil : i < (HK D H j).length := (List.getElem?_eq_some_iff.1 hio).1
  have hl : ∀ k, (HK (chgD D H i o1) (H.set i o1) k).length = (HK D H k).length := chgD_len D H i o1
  let ρ3 : Ren := fun i => if (HK D H j).length ≤ i ∧ i < (HK D H (j + 1)).length then ρ2 i else ρ' i
  have hlow : ∀ i, i < (HK D H j).length → ρ3 i = ρ' i := fun i h => by simp only [ρ3]; rw [if_neg (by omega)]
  have hmid : ∀ i, (HK D H j).length ≤ i → i < (HK D H (j + 1)).length → ρ3 i = ρ2 i := fun i h1 h2 => by simp only [ρ3]; rw [if_pos ⟨h1, h2⟩]
  have hhigh : ∀ i, (HK D H (j + 1)).length ≤ i → ρ3 i = ρ' i := fun i h => by simp only [ρ3]; rw [if_neg (by omega)]
  have hlen1 : (HK D H j).length ≤ (HK D H (j + 1)).length := HK_len D H (by omega)
  have h2low : ∀ i, i < (HK D H j).length → ρ2 i = ρ' i := fun i h => (tr.ext i h).trans (cutR_lt h)
  have h2dom : ∀ i x, ρ2 i = some x → i < (HK D H (j + 1)).length := fun i x h => by have := (hs2.dom i x h).1; rwa [hl] at this
  have le3 : ρ'.le ρ3 := fun i x hx => by
    by_cases h1 : (HK D H j).length ≤ i ∧ i < (HK D H (j + 1)).length
    · have := hi.made j hjm hun i h1.1 h1.2; rw [this] at hx; cases hx
    · simp only [ρ3]; rw [if_neg h1]; exact hx
  have le23 : ρ2.le ρ3 := fun i x hx => by
    have h1 := h2dom i x hx
    by_cases h2 : i < (HK D H j).length
    · rw [hlow i h2, ← h2low i h2]; exact hx
    · rw [hmid i (by omega) h1]; exact hx
  have oldblk : ∀ i x, ρ' i = some x → x.blk < w.heap.size := fun i x hx => ((hi.fam m (Nat.le_refl _)).dom i x (by rw [cutR_lt (hi.top i x hx)]; exact hx)).2
  have hs1 := hi.fam j (by omega)
  have ownO : ∀ {ρx : Ren} {o : AObj} {x : Img} {b : Option Obj}, ownedO o = true → ORel ρx o x b → x.own = true := by
    intro ρx o x b h1 h2
    cases o with
    | row c es own => simp only [ownedO] at h1; exact h2.2.1.trans h1
    | map _ _ => exact h2.1
    | iter _ _ _ => exact h2.1
    | tok _ => cases h1
    | dead => cases h1
  have liveO : ∀ {o : AObj}, ownedO o = true → o.dead? = false := fun {o} h => by cases o <;> simp_all [ownedO, AObj.dead?]
  have rowOwn : ∀ {o : AObj}, ownRow o = true → ownedO o = true := fun {o} h => by cases o <;> simp_all [ownedO, ownRow]
  -- new names lie in new blocks, or in the one that was turned
  have hnew : ∀ i' x, (HK D H j).length ≤ i' → ρ2 i' = some x → w.heap.size ≤ x.blk ∨ (o1.dead? = true ∧ ∃ xi, ρ' i = some xi ∧ xi.own = true ∧ x.blk = xi.blk) := by
    intro i' x h1 hx
    have hlt := h2dom i' x hx
    obtain ⟨o', ho'⟩ : ∃ o', (HK (chgD D H i o1) (H.set i o1) (j + 1))[i']? = some o' := ⟨_, List.getElem?_eq_getElem (by rw [hl]; exact hlt)⟩
    have ho2 : (HK D H (j + 1))[i']? = some o' := by rw [← chgD_get D H i o1 (j + 1) (show i' ≠ i by omega)]; exact ho'
    have h0 : H.length ≤ (HK D H j).length := HK_len D H (Nat.zero_le j)
    have hown := HK_own hrows (j + 1) (by omega) i' o' (by omega) ho2
    have hxo := ownO (rowOwn hown) (hs2.obj i' x o' hx ho')
    rcases tr.fresh x.blk ⟨i', x, o', hx, ho', ownRow_live hown, hxo, rfl⟩ with h2 | ⟨k, xk, ok, e1, e2, e3, e4, e5⟩
    · exact .inl h2
    · obtain ⟨f1, f2⟩ := cutR_some e1
      have f3 : ρ2 k = some xk := (h2low k f1).trans f2
      by_cases hk : k = i
      · subst hk
        refine .inr ⟨?_, xk, f2, e4, e5.symm⟩
        cases hd : o1.dead? with
        | true => rfl
        | false =>
          have h3 : (HK (chgD D H k o1) (H.set k o1) (j + 1))[k]? = some o1 := chgD_at D H k o1 (j + 1) (by omega)
          have := hs2.inj k i' xk x o1 o' f3 hx h3 ho' hd (ownRow_live hown) e4 e5
          omega
      · have h3 : (HK (chgD D H i o1) (H.set i o1) (j + 1))[k]? = some ok := by rw [chgD_get D H i o1 (j + 1) hk, HK_get D H (j := j) (by omega) f1]; exact e2
        have := hs2.inj k i' xk x ok o' f3 hx h3 ho' e3 (ownRow_live hown) e4 e5
        omega
  have fam3 : ∀ k, k ≤ m → SRel (cutR ρ3 (HK D H k).length) (HK (chgD D H i o1) (H.set i o1) k) w' := by
    intro k hk
    have old := hi.fam k hk
    refine ⟨fun i' x hx => ?_, fun i' x ob hx hob => ?_, fun i1 i2 x x2 ob ob2 hx hx2 hob hob2 hd hd2 hown hbb => ?_⟩
    · obtain ⟨h1, h2⟩ := cutR_some hx
      refine ⟨by rw [hl]; exact h1, ?_⟩
      by_cases hmidi : (HK D H j).length ≤ i' ∧ i' < (HK D H (j + 1)).length
      · rw [hmid i' hmidi.1 hmidi.2] at h2; exact (hs2.dom i' x h2).2
      · have h3 : ρ' i' = some x := by simp only [ρ3] at h2; rwa [if_neg hmidi] at h2
        have := oldblk i' x h3; have := tr.size; omega
    · obtain ⟨h1, h2⟩ := cutR_some hx
      by_cases ei : i' = i
      · subst ei
        rw [chgD_at D H i' o1 k h1] at hob
        cases hob
        have h3 : ρ' i' = some x := by rw [← hlow i' hil]; exact h2
        have h4 : ρ2 i' = some x := (h2low i' hil).trans h3
        exact flatRow_rel hfl (hs2.obj i' x o1 h4 (chgD_at D H i' o1 (j + 1) (by omega)))
      · rw [chgD_get D H i o1 k ei] at hob
        by_cases c1 : i' < (HK D H j).length
        · have h3 : ρ' i' = some x := by rw [← hlow i' c1]; exact h2
          have h4 : ρ2 i' = some x := (h2low i' c1).trans h3
          have hob1 : (HK (chgD D H i o1) (H.set i o1) (j + 1))[i']? = some ob := by rw [chgD_get D H i o1 (j + 1) ei, HK_get D H (j := k) (by omega) h1]; exact hob
          have hor := hs2.obj i' x ob h4 hob1
          have hkk : ∃ k', k' ≤ j ∧ k' ≤ k ∧ i' < (HK D H k').length := by
            rcases Nat.le_total j k with h | h
            · exact ⟨j, Nat.le_refl _, h, c1⟩
            · exact ⟨k, h, Nat.le_refl _, h1⟩
          obtain ⟨k', hk'j, hk'k, hik'⟩ := hkk
          have old' := hi.fam k' (by omega)
          have hob' : (HK D H k')[i']? = some ob := by rw [HK_get D H (j := k) hik' h1]; exact hob
          have hox := old'.obj i' x ob (by rw [cutR_lt hik']; exact h3) hob'
          have lek2 : (cutR ρ' (HK D H k').length).le ρ2 := fun i'' x' h' => by
            obtain ⟨a1, a2⟩ := cutR_some h'
            have := HK_len D H hk'j
            rw [h2low i'' (by omega)]; exact a2
          have lek3 : (cutR ρ' (HK D H k').length).le (cutR ρ3 (HK D H k).length) := fun i'' x' h' => by
            obtain ⟨a1, a2⟩ := cutR_some h'
            have := HK_len D H hk'k
            rw [cutR_lt (by omega)]; exact le3 i'' x' a2
          exact (ORel.restrict lek2 hox hor).mono lek3
        · by_cases c2 : i' < (HK D H (j + 1)).length
          · have hjk : j + 1 ≤ k := by
              rcases Nat.lt_or_ge j k with h | h
              · exact h
              · have := HK_len D H h; omega
            have h4 : ρ2 i' = some x := by rw [← hmid i' (by omega) c2]; exact h2
            have hob1 : (HK (chgD D H i o1) (H.set i o1) (j + 1))[i']? = some ob := by rw [chgD_get D H i o1 (j + 1) ei, HK_get D H (j := k) c2 h1]; exact hob
            refine (hs2.obj i' x ob h4 hob1).mono fun i'' x' h' => ?_
            have := HK_len D H hjk
            have := h2dom i'' x' h'
            rw [cutR_lt (by omega)]; exact le23 i'' x' h'
          · have h3 : ρ' i' = some x := by rw [← hhigh i' (by omega)]; exact h2
            have hc : cutR ρ' (HK D H k).length i' = some x := by rw [cutR_lt h1]; exact h3
            have hor := old.obj i' x ob hc hob
            have h0 : H.length ≤ (HK D H j).length := HK_len D H (Nat.zero_le j)
            have hno : ¬ LiveOwn (cutR ρ' (HK D H j).length) (HK D H j) x.blk := by
              rintro ⟨i2, x', o', e1, e2, e3, e4, e5⟩
              obtain ⟨f1, f2⟩ := cutR_some e1
              have hjk : j ≤ k := by
                rcases Nat.le_total j k with h | h
                · exact h
                · have := HK_len D H h; omega
              have hjk' := HK_len D H hjk
              have e2' : (HK D H k)[i2]? = some o' := by rw [← HK_get D H (i := j) f1 (by omega)]; exact e2
              have hdob := ownRow_live (HK_own hrows k hk i' ob (by omega) hob)
              have := old.inj i2 i' x' x o' ob (by rw [cutR_lt (by omega)]; exact f2) hc e2' hob e3 hdob e4 e5
              omega
            rw [tr.keep x.blk (oldblk i' x h3) (fun h => h) hno]
            exact hor.mono fun i'' x' h' => by
              obtain ⟨a1, a2⟩ := cutR_some h'
              rw [cutR_lt a1]; exact le3 i'' x' a2
    · obtain ⟨h1, h2⟩ := cutR_some hx
      obtain ⟨k1, k2⟩ := cutR_some hx2
      have cls : ∀ i x, ρ3 i = some x → ((HK D H j).length ≤ i ∧ i < (HK D H (j + 1)).length ∧ ρ2 i = some x) ∨ (ρ' i = some x ∧ x.blk < w.heap.size) := by
        intro i x h
        by_cases c : (HK D H j).length ≤ i ∧ i < (HK D H (j + 1)).length
        · rw [hmid i c.1 c.2] at h
          exact .inl ⟨c.1, c.2, h⟩
        · simp only [ρ3] at h; rw [if_neg c] at h; exact .inr ⟨h, oldblk i x h⟩
      -- a live row of the turned data was live before
      have was : ∀ {i' : Nat} {ob : AObj}, (HK (chgD D H i o1) (H.set i o1) k)[i']? = some ob → ob.dead? = false → i' < (HK D H k).length → ∃ ob', (HK D H k)[i']? = some ob' ∧ ob'.dead? = false := by
        intro i' ob q1 q2 q3
        by_cases ei : i' = i
        · subst ei
          exact ⟨o0, by rw [HK_get D H (j := j) q3 hil]; exact hio, liveO ho0⟩
        · exact ⟨ob, by rw [← chgD_get D H i o1 k ei]; exact q1, q2⟩
      have mixed : ∀ {i1 i2 : Nat} {x x2 : Img} {ob2 : AObj}, ρ2 i1 = some x → (HK D H j).length ≤ i1 → ρ' i2 = some x2 → x2.blk < w.heap.size → (HK (chgD D H i o1) (H.set i o1) k)[i2]? = some ob2 → ob2.dead? = false → i2 < (HK D H k).length → x.blk = x2.blk → False := by
        intro i1 i2 x x2 ob2 q1 q2 q3 q4 q5 q6 q7 q8
        rcases hnew i1 x q2 q1 with h | ⟨hdead, xi, hxi, hxio, hb⟩
        · omega
        · by_cases e2 : i2 = i
          · subst e2
            rw [chgD_at D H i2 o1 k q7] at q5; cases q5
            rw [hdead] at q6; cases q6
          · have oldm := hi.fam m (Nat.le_refl _)
            have hilm : i < (HK D H m).length := by have := HK_len D H (i := j) (j := m) (by omega); omega
            have hi2m : i2 < (HK D H m).length := hi.top i2 x2 q3
            have r1 : (HK D H m)[i]? = some o0 := by rw [HK_get D H (j := j) hilm hil]; exact hio
            have r2 : (HK D H m)[i2]? = some ob2 := by rw [HK_get D H (j := k) hi2m q7, ← chgD_get D H i o1 k e2]; exact q5
            exact e2 (oldm.inj i i2 xi x2 o0 ob2 (by rw [cutR_lt hilm]; exact hxi) (by rw [cutR_lt hi2m]; exact q3) r1 r2 (liveO ho0) q6 hxio (hb.symm.trans q8)).symm
      rcases cls i1 x h2 with ⟨a1, a2, a3⟩ | ⟨a3, a4⟩
      · rcases cls i2 x2 k2 with ⟨b1, b2, b3⟩ | ⟨b3, b4⟩
        · have e1 : (HK (chgD D H i o1) (H.set i o1) (j + 1))[i1]? = some ob := by rw [chgD_get D H i o1 _ (by omega), HK_get D H (j := k) a2 h1, ← chgD_get D H i o1 k (by omega)]; exact hob
          have e2 : (HK (chgD D H i o1) (H.set i o1) (j + 1))[i2]? = some ob2 := by rw [chgD_get D H i o1 _ (by omega), HK_get D H (j := k) b2 k1, ← chgD_get D H i o1 k (by omega)]; exact hob2
          exact hs2.inj i1 i2 x x2 ob ob2 a3 b3 e1 e2 hd hd2 hown hbb
        · exact (mixed a3 a1 b3 b4 hob2 hd2 k1 hbb).elim
      · rcases cls i2 x2 k2 with ⟨b1, b2, b3⟩ | ⟨b3, b4⟩
        · exact (mixed b3 b1 a3 a4 hob hd h1 hbb.symm).elim
        · obtain ⟨c1, c2, c3⟩ := was hob hd h1
          obtain ⟨d1, d2, d3⟩ := was hob2 hd2 k1
          exact old.inj i1 i2 x x2 c1 d1 (by rw [cutR_lt h1]; exact a3) (by rw [cutR_lt k1]; exact b3) c2 d2 c3 d3 hown hbb
  have hno : ∀ b, b < w0.heap.size → ¬ LV b → ¬ LiveOwn (cutR ρ' (HK D H j).length) (HK D H j) b := by
    rintro b hb hno ⟨i', x, o', e1, e2, e3, e4, e5⟩
    obtain ⟨f1, f2⟩ := cutR_some e1
    by_cases c : i' < H.length
    · have h0 : HK D H 0 = H := rfl
      exact hno (hi.live _ ⟨i', x, o', (hi.base i' c) ▸ f2, by have := HK_get D H (i := 0) (j := j) (k := i') (by rw [h0]; exact c) f1; rw [h0] at this; rw [this]; exact e2, e3, e4, e5⟩)
    · rcases hi.fresh i' x (by omega) f2 with h9 | h9
      · omega
      · exact hno (e5 ▸ h9)
  have hk : ∀ b, b < w0.heap.size → ¬ LV b → w'.heap[b]? = w.heap[b]? := fun b hb hl' => tr.keep b (by have := hi.wsize; omega) (fun h => h) (hno b hb hl')
  have hkS : ∀ b, S b → w'.heap[b]? = w.heap[b]? := fun b hb => hk b (hi.bnd b hb) (hi.disj b hb)
  have hd : dstA ops j = o.dst := by simp [dstA, hj]
  have hloop : ∀ (l : Nat) (ob : Obj), w.heap[l]? = some ob → (∀ c e fr, ob ≠ .cells c e fr) → (∀ es ck, ob ≠ .map es ck) → (∀ a b c d, ob ≠ .mapIter a b c d) → w'.heap[l]? = some ob := fun l ob h1 h2 h3 h4 =>
    (tr.keep l (Array.getElem?_eq_some_iff.1 h1).1 (fun h => h) (not_liveOwn_of_loop hs1 h1 h2 h3 h4)).trans h1
  refine ⟨ρ3, ?_⟩
  exact {
    size := by rw [Array.size_setIfInBounds]; exact hi.size
    closed := fun j' o' hj' hl' e he hb => by
      rw [hset] at hl' ⊢
      by_cases ej : j' = j
      · subst ej
        rw [hj] at hj'; cases hj'
        split
        · rfl
        · exact hdeps e he hb
      · rw [if_neg ej] at hl'
        split
        · rfl
        · exact hi.closed j' o' hj' hl' e he hb
    pre := fun j' hj' => by rw [hset, if_neg (by omega)]; exact hi.pre j' hj'
    fam := fun k hk => by rw [hl]; exact fam3 k hk
    top := fun i' x hx => by
      rw [hl]
      by_cases c : (HK D H j).length ≤ i' ∧ i' < (HK D H (j + 1)).length
      · have := HK_len D H (i := j + 1) (j := m) (by omega); omega
      · simp only [ρ3] at hx; rw [if_neg c] at hx; exact hi.top i' x hx
    base := fun i' hi' => by
      simp only [List.length_set] at hi'
      have h0 : H.length ≤ (HK D H j).length := HK_len D H (Nat.zero_le j)
      rw [hlow i' (by omega)]; exact hi.base i' hi'
    made := fun j' hj' hl' i' h1 h2 => by
      rw [hl] at h1 h2
      rw [hset] at hl'
      by_cases ej : j' = j
      · subst ej; rw [if_pos rfl] at hl'; cases hl'
      · rw [if_neg ej] at hl'
        have := hi.made j' hj' hl' i' h1 h2
        have c : ¬ ((HK D H j).length ≤ i' ∧ i' < (HK D H (j + 1)).length) := by
          rintro ⟨c1, c2⟩
          rcases Nat.lt_or_gt_of_ne ej with h | h
          · have := HK_len D H (i := j' + 1) (j := j) (by omega); omega
          · have := HK_len D H (i := j + 1) (j := j') (by omega); omega
        simp only [ρ3]; rw [if_neg c]; exact this
    vals := fun j' hj' hl' => by
      rw [hset] at hl'
      rw [hl, chgD_v]
      by_cases ej : j' = j
      · subst ej
        exact ⟨v', hv.mono fun i' x hx => by have := h2dom i' x hx; rw [cutR_lt (by omega)]; exact le23 i' x hx⟩
      · rw [if_neg ej] at hl'
        exact (hi.vals j' hj' hl').mono fun i' x hx => by
          obtain ⟨a1, a2⟩ := cutR_some hx
          rw [cutR_lt a1]; exact le3 i' x a2
    trel := by
      rw [chgD_TS, TS_set hp hi.closed hj hi.size hun m, if_pos hjm, hd]
      exact TRel.put (ac := a) (hi.trel.mono le3) o.dst (hv.mono le23)
    j := E.stable g S w w' hi.j hkS tr.size tr.os tr.tape tr.out
    bnd := hi.bnd
    disj := hi.disj
    live := hlv
    os := tr.os.trans hi.os
    tape := tr.tape.trans hi.tape
    out := tr.out.trans hi.out
    wsize := Nat.le_trans hi.wsize tr.size
    keep := fun b hb hl' => (hk b hb hl').trans (hi.keep b hb hl')
    fresh := fun i' x h1 hx => by
      simp only [List.length_set] at h1
      by_cases c : (HK D H j).length ≤ i' ∧ i' < (HK D H (j + 1)).length
      · rw [hmid i' c.1 c.2] at hx
        have := hi.wsize
        rcases hnew i' x c.1 hx with h | ⟨_, xi, hxi, _, hb⟩
        · exact .inl (by omega)
        · rw [hb]
          by_cases c2 : i < H.length
          · exact .inr (hlvi xi ((hi.base i c2) ▸ hxi) c2)
          · exact hi.fresh i xi (by omega) hxi
      · simp only [ρ3] at hx; rw [if_neg c] at hx; exact hi.fresh i' x h1 hx
    ro := fun l hl' => by
      obtain ⟨h1, r, h2⟩ := hi.ro l hl'
      exact ⟨h1, r, hloop l _ h2 (fun _ _ _ e => by cases e) (fun _ _ e => by cases e) (fun _ _ _ _ e => by cases e)⟩
    marks := by
      rw [put_defers]
      exact ⟨hi.marks.eq, hi.marks.nodup, fun D' hD' => ⟨(hi.marks.at_ D' hD').1, hloop D' _ (hi.marks.at_ D' hD').2 (fun _ _ _ e => by cases e) (fun _ _ e => by cases e) (fun _ _ _ _ e => by cases e)⟩⟩
    defers := by rw [put_defers]; exact hi.defers }
end

/-! ### The walk of such a region -/
/-- Is k bound to come ahead of b, or behind it? -/
def looseB (ops : Array Oper) (b k : Nat) : Bool := !ancB ops ops.size b k && !ancB ops ops.size k b

/-- The step that turns the row i. -/
def SpecM (P : Program) (i : Nat) (o1 : AObj) (o : Oper) (v : Value) (L : AHeap) (T : List Value) (H : AHeap) : Prop :=
  o.guard = none ∧ L.all ownRow = true ∧ OpJ P trivE o (fun v' H' _ => v' = v ∧ H' = H.set i o1 ++ L) T H ()

/-- The beginning of a region, in the text's order; its b-th operation turns the row i from o0 to o1; what isn't bound to come ahead of it or behind it must do the same either way. -/
def SpecJ (P : Program) (ops : Array Oper) (b i : Nat) (o0 o1 : AObj) (R : List Value → AHeap → Prop) : Nat → Nat → List Oper → List Value → AHeap → Prop
  | 0, _, _, T, H => R T H
  | _ + 1, _, [], T, H => R T H
  | n + 1, k, o :: rest, T, H =>
    ∃ v L, (k ≠ b → StepM P ops o v L T H) ∧ (k = b → H[i]? = some o0 ∧ SpecM P i o1 o v L T H) ∧ (k ≠ b → looseB ops b k = true → ¬ (H.length ≤ i ∧ i < H.length + L.length) ∧ StepM P ops o v L T (if k < b then H.set i o1 else H.set i o0)) ∧
      SpecJ P ops b i o0 o1 R n (k + 1) rest (putT T o.dst v) (if k = b then H.set i o1 ++ L else H ++ L)

theorem SpecJ.seg {P : Program} {ops : Array Oper} {b i : Nat} {o0 o1 : AObj} {R : List Value → AHeap → Prop} : ∀ (j : Nat) {n k : Nat} {l : List Oper} {T : List Value} {H : AHeap}, ((List.range j).all fun x => (k + x != b) && !looseB ops b (k + x)) = true → j ≤ l.length →
    MonoJ P ops (fun T H => SpecJ P ops b i o0 o1 R n (k + j) (l.drop j) T H) j l T H → SpecJ P ops b i o0 o1 R (n + j) k l T H
  | 0, n, k, l, T, H, _, _, h => by cases l <;> exact h
  | j + 1, n, k, [], T, H, _, hl, _ => by simp at hl
  | j + 1, n, k, o :: l, T, H, hc, hl, h => by
    obtain ⟨v, L, hs, hrest⟩ := h
    have h0 := List.all_eq_true.1 hc 0 (by simp)
    simp only [Nat.add_zero, Bool.and_eq_true, bne_iff_ne, ne_eq, Bool.not_eq_true'] at h0
    refine ⟨v, L, fun _ => hs, fun e => absurd e h0.1, fun _ (h9 : looseB ops b k = true) => absurd h9 (by rw [h0.2]; simp), ?_⟩
    rw [if_neg h0.1]
    have := SpecJ.seg (n := n) (k := k + 1) j (l := l) (T := putT T o.dst v) (H := H ++ L) (by
      refine List.all_eq_true.2 fun x hx => ?_
      have := List.all_eq_true.1 hc (x + 1) (by simpa using hx)
      rwa [show k + 1 + x = k + (x + 1) by omega]) (by simpa using hl) (by rw [show k + 1 + j = k + (j + 1) by omega]; exact hrest)
    exact this

/-- an operation that may come on either side -/
theorem SpecJ.loose {P : Program} {ops : Array Oper} {b i : Nat} {o0 o1 : AObj} {R : List Value → AHeap → Prop} {n k : Nat} {dst : Option Tmp} {op : Op} {ty : TypeId} {ps : String} {af : Array Edge} {rest : List Oper} {T : List Value} {H : AHeap} (v : Value) (hk : (k != b) = true) (hd : isDefer op = false)
    (h1 : Runs P ⟨dst, op, ty, ps, af, none⟩ v H T H) (h2 : Runs P ⟨dst, op, ty, ps, af, none⟩ v (if k < b then H.set i o1 else H.set i o0) T (if k < b then H.set i o1 else H.set i o0))
    (h : SpecJ P ops b i o0 o1 R n (k + 1) rest (putT T dst v) H) : SpecJ P ops b i o0 o1 R (n + 1) k (⟨dst, op, ty, ps, af, none⟩ :: rest) T H := by
  have hk' : k ≠ b := by simpa using hk
  refine ⟨v, [], fun _ => Mono.of_runs (by simpa using h1) hd rfl, fun e => absurd e hk', fun _ _ => ⟨by simp, Mono.of_runs (by simpa using h2) hd rfl⟩, ?_⟩
  rw [if_neg hk']
  simpa using h
theorem SpecJ.spec {P : Program} {ops : Array Oper} {b i : Nat} {o0 o1 : AObj} {R : List Value → AHeap → Prop} {n : Nat} {dst : Option Tmp} {op : Op} {ty : TypeId} {ps : String} {af : Array Edge} {rest : List Oper} {T : List Value} {H : AHeap} (v : Value) (L : AHeap) (hi : H[i]? = some o0) (hd : isDefer op = false) (hL : L.all ownRow = true)
    (h1 : Runs P ⟨dst, op, ty, ps, af, none⟩ v (H.set i o1 ++ L) T H) (h : SpecJ P ops b i o0 o1 R n (b + 1) rest (putT T dst v) (H.set i o1 ++ L)) : SpecJ P ops b i o0 o1 R (n + 1) b (⟨dst, op, ty, ps, af, none⟩ :: rest) T H := by
  refine ⟨v, L, fun h => absurd rfl h, fun _ => ⟨hi, rfl, hL, OpJ.of_runs h1 (fun c e => by simp only at e; rw [e] at hd; cases hd) ⟨rfl, rfl⟩⟩, fun h => absurd rfl h, ?_⟩
  rw [if_pos rfl]
  exact h
theorem SpecJ.done {P : Program} {ops : Array Oper} {b i : Nat} {o0 o1 : AObj} {R : List Value → AHeap → Prop} {k : Nat} {l : List Oper} {T : List Value} {H : AHeap} (h : R T H) : SpecJ P ops b i o0 o1 R 0 k l T H := h

theorem SpecJ.data {P : Program} {ops : Array Oper} {b i : Nat} {o0 o1 : AObj} {R : List Value → AHeap → Prop} : ∀ (n k : Nat) (l : List Oper) (T : List Value) (H : AHeap), (∀ j, l[j]? = ops[k + j]?) → n ≤ l.length → SpecJ P ops b i o0 o1 R n k l T H →
    ∃ D : List (Value × AHeap), D.length = n ∧ ∀ (D0 : List (Value × AHeap)) (T0 : List Value) (Hx : AHeap), D0.length = k → TK ops (D0 ++ D) T0 k = T → (if k ≤ b then HK (D0 ++ D) Hx k else (HK (D0 ++ D) Hx k).set i o1) = H → (b < k → i < (HK (D0 ++ D) Hx k).length) →
      (∀ j o, k ≤ j → j < k + n → ops[j]? = some o →
        (j ≠ b → StepM P ops o (vD (D0 ++ D) j) (lD (D0 ++ D) j) (TK ops (D0 ++ D) T0 j) (if j ≤ b then HK (D0 ++ D) Hx j else (HK (D0 ++ D) Hx j).set i o1)) ∧
        (j = b → (HK (D0 ++ D) Hx j)[i]? = some o0 ∧ SpecM P i o1 o (vD (D0 ++ D) j) (lD (D0 ++ D) j) (TK ops (D0 ++ D) T0 j) (HK (D0 ++ D) Hx j)) ∧
        (j ≠ b → looseB ops b j = true → (j < b → ¬ ((HK (D0 ++ D) Hx j).length ≤ i ∧ i < (HK (D0 ++ D) Hx j).length + (lD (D0 ++ D) j).length)) ∧ StepM P ops o (vD (D0 ++ D) j) (lD (D0 ++ D) j) (TK ops (D0 ++ D) T0 j) (if j < b then (HK (D0 ++ D) Hx j).set i o1 else ((HK (D0 ++ D) Hx j).set i o1).set i o0))) ∧
      R (TK ops (D0 ++ D) T0 (k + n)) (if k + n ≤ b then HK (D0 ++ D) Hx (k + n) else (HK (D0 ++ D) Hx (k + n)).set i o1)
  | 0, k, l, T, H, _, _, h => ⟨[], rfl, fun D0 T0 Hx hD hT hH _ => ⟨fun j o h1 h2 => by omega, by
      have h2 : R T H := h
      simp only [Nat.add_zero]
      rw [hT, hH]; exact h2⟩⟩
  | n + 1, k, [], T, H, _, hn, h => by simp at hn
  | n + 1, k, o :: l, T, H, hl, hn, h => by
    obtain ⟨v, L, hs1, hs2, hs3, hrest⟩ := h
    have h0 : ops[k]? = some o := by simpa using (hl 0).symm
    obtain ⟨D, hDn, hD⟩ := SpecJ.data n (k + 1) l _ _ (fun j => by have := hl (j + 1); simpa [Nat.add_assoc, Nat.add_comm 1 j] using this) (by simpa using hn) hrest
    refine ⟨(v, L) :: D, by simp [hDn], fun D0 T0 Hx hk hT hH hil => ?_⟩
    have e : D0 ++ (v, L) :: D = (D0 ++ [(v, L)]) ++ D := by simp
    have hv : vD (D0 ++ (v, L) :: D) k = v := by simp [vD, ← hk]
    have hL : lD (D0 ++ (v, L) :: D) k = L := by simp [lD, ← hk]
    have hd : dstA ops k = o.dst := by simp [dstA, h0]
    have hT1 : TK ops (D0 ++ (v, L) :: D) T0 (k + 1) = putT T o.dst v := by rw [TK, hT, hv, hd]
    have hHk : HK (D0 ++ (v, L) :: D) Hx (k + 1) = HK (D0 ++ (v, L) :: D) Hx k ++ L := by rw [HK, hL]
    have hil1 : b < k + 1 → i < (HK (D0 ++ (v, L) :: D) Hx k).length := fun hb => by
      by_cases ek : k = b
      · have := (hs2 ek).1
        rw [← hH, if_pos (by omega)] at this
        exact (List.getElem?_eq_some_iff.1 this).1
      · exact hil (by omega)
    have hH1 : (if k + 1 ≤ b then HK (D0 ++ (v, L) :: D) Hx (k + 1) else (HK (D0 ++ (v, L) :: D) Hx (k + 1)).set i o1) = (if k = b then H.set i o1 ++ L else H ++ L) := by
      by_cases ek : k = b
      · rw [if_neg (by omega), if_pos ek, hHk, List.set_append_left _ _ (hil1 (by omega)), ← hH, if_pos (by omega)]
      · rw [if_neg ek]
        by_cases hkb : k + 1 ≤ b
        · rw [if_pos hkb, hHk, ← hH, if_pos (by omega)]
        · rw [if_neg hkb, hHk, List.set_append_left _ _ (hil1 (by omega)), ← hH, if_neg (by omega)]
    rw [e] at hT1 hH1
    obtain ⟨k1, k2⟩ := hD (D0 ++ [(v, L)]) T0 Hx (by simp [hk]) hT1 hH1 (fun hb => by
      rw [← e, hHk]; have := hil1 hb; simp; omega)
    refine ⟨fun j o' h1 h2 ho => ?_, ?_⟩
    · by_cases ej : j = k
      · subst ej
        rw [h0] at ho; cases ho
        refine ⟨fun hb => ?_, fun hb => ?_, fun hb hlo => ?_⟩
        · rw [hv, hL, hT, hH]; exact hs1 hb
        · obtain ⟨a1, a2⟩ := hs2 hb
          rw [← hH, if_pos (by omega)] at a1 a2
          rw [hv, hL, hT]; exact ⟨a1, a2⟩
        · have := hs3 hb hlo
          rw [hv, hL, hT]
          by_cases hjb : j < b
          · rw [if_pos hjb] at this ⊢
            rw [← hH, if_pos (by omega)] at this
            exact ⟨fun _ => this.1, this.2⟩
          · rw [if_neg hjb] at this ⊢
            rw [← hH, if_neg (by omega)] at this
            exact ⟨fun h => absurd h hjb, this.2⟩
      · rw [e]; exact k1 j o' (by omega) (by omega) ho
    · rw [e]; have := k2; rwa [show k + 1 + n = k + (n + 1) by omega] at this

section
variable {γ : Type} {P : Program} {E : Env γ} {ops : Array Oper} {D : List (Value × AHeap)} {T : List Value} {H : AHeap} {m : Nat} {LV : Nat → Prop}
  {g : γ} {S : Nat → Prop} {ρ : Ren} {w0 : World} {ro : Option Nat} {Ds : List Nat} {ds : List Deferred} {listed : Array Bool} {a : Act} {w : World} {ρ' : Ren}
/-- an operation whose turn it is finds its operands -/
theorem InvA.opRel (hi : InvA ops D T H m LV E g S ρ w0 ro Ds ds listed a w ρ') (hp : pairsB ops = true) (hmn : m ≤ ops.size) (hdom : ∀ i x, ρ i = some x → i < H.length) (htd : ∀ t, Def ρ (getT T t)) {k : Nat} {o : Oper} (h2 : ops[k]? = some o) (hkm : k < m)
    (hunk : listed.getD k false = false) (h3 : ∀ e ∈ o.after, Region.binds .any e = true → listed.getD e.on false = true) : OpRel (cutR ρ' (HK D H k).length) (TK ops D T k) a o.op := by
  have hlook := fun t ht => look_same (D := D) (T := T) hp hi.closed h2 hkm hmn hunk h3 (t := t) ht
  have lek : (cutR ρ' (HK D H k).length).le ρ' := cutR_le _ _
  have hdef : ∀ t, t ∈ o.looksAt ops → Def (cutR ρ' (HK D H k).length) (getT (TK ops D T k) t) := by
    intro t ht
    have hw := (hlook t ht).1
    have : ∀ i, i ≤ k → Def (cutR ρ' (HK D H k).length) (getT (TK ops D T i) t) := by
      intro i
      induction i with
      | zero =>
        intro _
        refine (htd t).mono fun i x hx => ?_
        have hlt := hdom i x hx
        have := HK_len D H (Nat.zero_le k)
        have h0 : HK D H 0 = H := rfl
        rw [h0] at this
        rw [cutR_lt (by omega), hi.base i hlt]; exact hx
      | succ i ih2 =>
        intro hik
        simp only [TK]
        by_cases hd : dstA ops i = some t
        · have hdv := hi.vals i (by omega) (hw i (by omega) hd)
          have hdv' : Def (cutR ρ' (HK D H k).length) (vD D i) := hdv.mono (cutR_mono ρ' (HK_len D H hik))
          rw [hd]
          rw [getT_get?]
          simp only [putT]
          rw [List.getElem?_set_self']
          cases (TK ops D T i)[t]? with
          | none => exact ⟨undef, undef_rel _⟩
          | some _ => exact hdv'
        · rw [getT_put hd]; exact ih2 (by omega)
    exact this k (Nat.le_refl _)
  exact ⟨fun x hx => by
    cases x with
    | tmp t =>
      have ht : t ∈ o.looksAt ops := List.mem_append_left _ (List.mem_filterMap.2 ⟨.tmp t, hx, rfl⟩)
      have h5 := hi.trel.getD t
      rw [(hlook t ht).2] at h5
      obtain ⟨v1, hv1⟩ := hdef t ht
      exact hv1.restrict lek h5
    | const v => exact constT_rel _ v
    | global i => exact .wild _
    | func f => exact .func rfl (fun _ h => absurd h (Nat.not_lt_zero _)) rfl (fun _ h => absurd h (Nat.not_lt_zero _))⟩

theorem anc_lt (hb : backB ops = true) : ∀ (n j k : Nat), ancB ops n j k = true → k < j
  | 0, _, _, h => by simp [ancB] at h
  | n + 1, j, k, h => by
    simp only [ancB, Bool.or_eq_true] at h
    rcases h with h | h
    · unfold edgeB at h
      cases hj : ops[j]? with
      | none => rw [hj] at h; simp at h
      | some oj =>
        obtain ⟨e, he, hbn, rfl⟩ := edge_spec hj (by unfold edgeB; exact h)
        exact backB_spec hb hj e he hbn
    · cases hj : ops[j]? with
      | none => rw [hj] at h; simp at h
      | some oj =>
        rw [hj] at h
        simp only [Option.map_some, Option.getD_some] at h
        obtain ⟨e, he, hbn⟩ := Array.any_eq_true'.1 h
        simp only [Bool.and_eq_true] at hbn
        have h1 := backB_spec hb hj e he hbn.1
        have h2 := anc_lt hb n e.on k hbn.2
        omega

theorem LiveOwn.sub {ρ : Ren} {H : AHeap} {i : Nat} {o0 o1 : AObj} {b : Nat} (hi : i < H.length → H[i]? = some o0 ∧ ownedO o0 = true) (h : LiveOwn ρ (H.set i o1) b) : LiveOwn ρ H b := by
  obtain ⟨j, x, o, e1, e2, e3, e4, e5⟩ := h
  by_cases ej : j = i
  · subst ej
    have hlt : j < H.length := by have := (List.getElem?_eq_some_iff.1 e2).1; simpa using this
    obtain ⟨q1, q2⟩ := hi hlt
    exact ⟨j, x, o0, e1, q1, by cases o0 <;> simp_all [ownedO, AObj.dead?], e4, e5⟩
  · rw [List.getElem?_set_ne (Ne.symm ej)] at e2
    exact ⟨j, x, o, e1, e2, e3, e4, e5⟩
end

/-- **A region whose order Go leaves open, one of whose operations turns a row.** -/
theorem WPJ.drawS {γ : Type} {P : Program} {E : Env γ} {T : List Value} {H : AHeap} {g : γ} {id : Nat} {ops : Array Oper} {Q : Exit → List Value → AHeap → γ → Prop} (m b i : Nat) (o0 o1 : AObj) (hm : P.follows .mixedOrders = true)
    (hb : backB ops = true) (hp : pairsB ops = true) (hsuf : sufB ops m = true) (hmn : m ≤ ops.size) (hbm : b < m) (ho0 : ownedO o0 = true) (hfl : flatRow o1 = true) (hor : ownRow o1 = true ∨ i < H.length)
    (h : SpecJ P ops b i o0 o1 (fun T1 H1 => OpsJ P E ops (Q .normal) (ops.toList.drop m) T1 H1 g) m 0 ops.toList T H) : WPJ P E (.region id ops true) Q T H g := by
  intro ρ w S ro Ds ac hi ht hr hmk
  refine wpIn_region_any hm ?_
  obtain ⟨D, hDm, hD⟩ := SpecJ.data m 0 ops.toList T H (fun j => by simp) (by simpa using hmn) h
  obtain ⟨hdat, hR⟩ := hD [] T H rfl rfl (by simp [HK]) (fun h => by omega)
  simp only [List.nil_append, Nat.zero_add] at hdat hR
  rw [if_neg (by omega)] at hR
  obtain ⟨ob, hob⟩ : ∃ o, ops[b]? = some o := ⟨_, Array.getElem?_eq_getElem (by omega)⟩
  obtain ⟨hio, hgb, hLb, hopb⟩ := (hdat b ob (Nat.zero_le _) hbm hob).2.1 rfl
  have hilb : i < (HK D H b).length := (List.getElem?_eq_some_iff.1 hio).1
  have hH0 : HK D H 0 = H := rfl
  have hrows : ∀ k, k < m → (lD D k).all ownRow = true := by
    intro k hk
    obtain ⟨o, ho⟩ : ∃ o, ops[k]? = some o := ⟨_, Array.getElem?_eq_getElem (by omega)⟩
    by_cases ekb : k = b
    · subst ekb; exact hLb
    · have hs := (hdat k o (Nat.zero_le _) hk ho).1 ekb
      unfold StepM at hs
      cases hg : o.guard with
      | none => simp only [hg] at hs; exact hs.1
      | some jb =>
        obtain ⟨j, bb⟩ := jb
        simp only [hg] at hs
        obtain ⟨x, _, k1, k2⟩ := hs
        by_cases hxb : x = some bb
        · exact (k1 hxb).1
        · rw [(k2 hxb).2]; rfl
  have hiH : i < H.length → H[i]? = some o0 ∧ ownedO o0 = true := fun hlt => ⟨by have := HK_get D H (i := 0) (j := b) (k := i) (by rw [hH0]; exact hlt) hilb; rw [hH0] at this; rw [this]; exact hio, ho0⟩
  have hs1 : SRel ρ H w.drew := hi.srel.drew
  have hgetF : ∀ k, (Array.replicate ops.size false).getD k false = false := fun k => by simp [Array.getD]
  have hTS : ∀ i, TS ops D T (Array.replicate ops.size false) i = T := by
    intro i
    induction i with
    | zero => rfl
    | succ i ih => simp only [TS, hgetF]; exact ih
  have hdomH : ∀ i x, ρ i = some x → i < H.length := fun i x hx => (hs1.dom i x hx).1
  have htd : ∀ t, Def ρ (getT T t) := fun t => ⟨_, ht.getD t⟩
  have hQ : ∀ e a w1, Post E Q ρ H S w.drew Ds e a w1 → Post E Q ρ H S w Ds e a w1 := fun e a w1 hp1 => hp1.from ((Step.drew ρ H w).trans' S) (fun _ h => .inl h)
  -- behind the step
  have behind : ∀ (fuel : Nat) (listed : Array Bool) (a : Act) (w1 : World) (ρ' : Ren), unl ops listed ≤ fuel → InvA ops (chgD D H i o1) T (H.set i o1) m (LiveOwn ρ H) E g S ρ w.drew ro Ds ac.defers listed a w1 ρ' → listed.getD b false = true → wpAnyIn (Wr ro) 0 P .any ops (Post E Q ρ H S w Ds) fuel listed a w1 := by
    refine head_any (D := chgD D H i o1) (T := T) (H := H.set i o1) (m := m) hb hp hsuf hmn ?_ (H0 := H) (by simp) (fun i x hx => by rw [List.length_set]; exact hdomH i x hx) htd (fun listed => listed.getD b false = true) ?_ (R := Q .normal) (fun _ _ _ h => h) (fun _ _ _ => ?_) hQ
    · intro k hk
      rw [chgD_l]
      split
      · refine List.all_eq_true.2 fun o ho => ?_
        rcases List.mem_or_eq_of_mem_set ho with h1 | rfl
        · exact List.all_eq_true.1 (hrows k hk) o h1
        · rcases hor with h9 | h9
          · exact h9
          · have := HK_len D H (Nat.zero_le k); rw [hH0] at this; omega
      · exact hrows k hk
    · intro j o listed hjm ho hz hcl hun hdeps hbl
      refine .inl ⟨?_, ?_⟩
      · have ejb : j ≠ b := fun e => by rw [e, hbl] at hun; cases hun
        have nanc : ancB ops ops.size b j = false := by
          cases h9 : ancB ops ops.size b j with
          | false => rfl
          | true =>
            have := anc_listed hcl ops.size b j ob hob (hcl b ob hob hbl) h9
            rw [hun] at this; cases this
        obtain ⟨d1, _, d3⟩ := hdat j o (Nat.zero_le _) hjm ho
        rw [chgD_v, chgD_TK, chgD_HK]
        by_cases hjb : j < b
        · have nbeh : ancB ops ops.size j b = false := by
            cases h9 : ancB ops ops.size j b with
            | false => rfl
            | true => have := anc_lt hb _ _ _ h9; omega
          have hlo : looseB ops b j = true := by simp [looseB, nanc, nbeh]
          obtain ⟨e1, e2⟩ := d3 ejb hlo
          rw [if_pos hjb] at e2
          have e3 : lD (chgD D H i o1) j = lD D j := by
            rw [chgD_l]
            split
            · rename_i h9
              have := e1 hjb
              rw [List.set_eq_of_length_le]; omega
            · rfl
          rw [e3]; exact e2
        · have := d1 ejb
          rw [if_neg (by omega)] at this
          have e3 : lD (chgD D H i o1) j = lD D j := by
            rw [chgD_l, if_neg]
            have := HK_len D H (i := b) (j := j) (by omega)
            omega
          rw [e3]; exact this
      · rw [getD_set (by rw [hz]; exact (Array.getElem?_eq_some_iff.1 ho).1)]
        split
        · rfl
        · exact hbl
    · rw [chgD_TK, chgD_HK]; exact hR
  refine head_any (g := g) (ρ := ρ) (w0 := w.drew) (ds := ac.defers) (Ds := Ds) hb hp hsuf hmn hrows (H0 := H) rfl hdomH htd (fun listed => listed.getD b false = false) ?_ (R := Q .normal) (fun _ _ _ h => h) (fun listed h1 h2 => by rw [h2 b hbm] at h1; cases h1)
    (QQ := Post E Q ρ H S w Ds) hQ ops.size _ ac w.drew ρ ?_ ?_ (hgetF b)
  · intro j o listed hjm ho hz hcl hun hdeps hbl
    by_cases ejb : j = b
    · refine .inr fun fuel a w1 ρ' hf hia => ?_
      subst ejb
      rw [hob] at ho; cases ho
      have hkl : j < ops.size := (Array.getElem?_eq_some_iff.1 hob).1
      have hop := hia.opRel hp hmn hdomH htd hob hjm hun hdeps
      have hinv : Inv trivE (cutR ρ' (HK D H j).length) (HK D H j) () (fun _ => False) w1 := ⟨hia.fam j (by omega), trivial, fun _ h => h.elim, fun _ h => h.elim⟩
      have hro : RoOk ro (fun _ => False) w1 := fun l hl => ⟨fun h => h, (hia.ro l hl).2⟩
      have hmk1 : Marks a.defers Ds (fun _ => False) w1 := ⟨hia.marks.eq, hia.marks.nodup, fun D' hD' => ⟨fun h => h, (hia.marks.at_ D' hD').2⟩⟩
      unfold wpOpIn
      simp only [hob]
      have hw : Region.wanted ob (yielded ops a.tmps) = true := by simp [Region.wanted, hgb]
      simp only [hw, if_true]
      refine Oper.wpIn_mono ?_ ⟨fun _ _ => trivial, hopb _ w1 (fun _ => False) ro Ds a (Post E Q ρ H S w Ds) hinv hop hro hmk1⟩
      rintro ac' w' ⟨ρ2, v, v', H', g', S', rfl, hv, hi', tr, hv1, hH1⟩
      subst hv1; subst hH1
      have hHb : HK (chgD D H i o1) (H.set i o1) (j + 1) = (HK D H j).set i o1 ++ lD D j := by
        rw [chgD_HK, HK, List.set_append_left _ _ hilb]
      obtain ⟨ρ3, hi3⟩ := hia.special hp hrows hob hjm hun hdeps hio ho0 hfl (fun b hl => hl.sub hiH) (fun x hx hlt => by
          obtain ⟨q1, q2⟩ := hiH hlt
          have hor := hi.srel.obj i x o0 hx q1
          refine ⟨i, x, o0, hx, q1, by cases o0 <;> simp_all [ownedO, AObj.dead?], ?_, rfl⟩
          cases o0 with
          | row c es own => simp only [ownedO] at ho0; exact hor.2.1.trans ho0
          | map _ _ => exact hor.1
          | iter _ _ _ => exact hor.1
          | tok _ => cases ho0
          | dead => cases ho0) (by rw [hHb]; exact hi'.srel) (by rw [hHb]; exact tr) hv
      exact behind fuel _ _ _ ρ3 (unl_set hz hkl hun hf) hi3 (by rw [getD_set (by rw [hz]; exact hkl)]; simp)
    · have nbeh : ancB ops ops.size j b = false := by
        cases h9 : ancB ops ops.size j b with
        | false => rfl
        | true =>
          have := anc_listed hcl ops.size j b o ho hdeps h9
          rw [hbl] at this; cases this
      obtain ⟨d1, _, d3⟩ := hdat j o (Nat.zero_le _) hjm ho
      refine .inl ⟨?_, ?_⟩
      · by_cases hjb : j ≤ b
        · have := d1 ejb
          rwa [if_pos hjb] at this
        · have nanc : ancB ops ops.size b j = false := by
            cases h9 : ancB ops ops.size b j with
            | false => rfl
            | true => have := anc_lt hb _ _ _ h9; omega
          have hlo : looseB ops b j = true := by simp [looseB, nanc, nbeh]
          have e2 := (d3 ejb hlo).2
          rw [if_neg (by omega), List.set_set] at e2
          have hij : (HK D H j)[i]? = some o0 := by
            have := HK_len D H (i := b) (j := j) (by omega)
            rw [HK_get D H (j := b) (by omega) hilb]; exact hio
          rw [set_same_obj hij] at e2
          exact e2
      · rw [getD_set (by rw [hz]; exact (Array.getElem?_eq_some_iff.1 ho).1), if_neg (Ne.symm ejb)]; exact hbl
  · unfold unl; exact Nat.le_trans (List.length_filter_le _ _) (by simp)
  · exact {
      size := by simp
      closed := fun j o _ hl => by rw [hgetF] at hl; cases hl
      pre := fun j _ => hgetF j
      fam := fun k _ => by
        have hl0 : H.length ≤ (HK D H k).length := HK_len D H (Nat.zero_le k)
        have hg0 : ∀ i, i < H.length → (HK D H k)[i]? = H[i]? := fun i hi => (HK_get D H (i := 0) (j := k) hi (by omega)).symm
        refine ⟨fun i x hx => ?_, fun i x o hx ho => ?_, fun i j x y o o' hx hy ho ho' hd hd' hown hbb => ?_⟩
        · obtain ⟨h1, h2⟩ := cutR_some hx
          exact ⟨h1, (hs1.dom i x h2).2⟩
        · obtain ⟨h1, h2⟩ := cutR_some hx
          have hlt := (hs1.dom i x h2).1
          rw [hg0 i hlt] at ho
          refine (hs1.obj i x o h2 ho).mono fun i' x' h' => ?_
          have := (hs1.dom i' x' h').1
          rw [cutR_lt (by omega)]; exact h'
        · obtain ⟨h1, h2⟩ := cutR_some hx
          obtain ⟨h3, h4⟩ := cutR_some hy
          rw [hg0 i (hs1.dom i x h2).1] at ho
          rw [hg0 j (hs1.dom j y h4).1] at ho'
          exact hs1.inj i j x y o o' h2 h4 ho ho' hd hd' hown hbb
      top := fun i x hx => by have := (hs1.dom i x hx).1; have := HK_len D H (Nat.zero_le m); rw [hH0] at this; omega
      base := fun _ _ => rfl
      made := fun j _ _ i h1 _ => by
        cases hx : ρ i with
        | none => rfl
        | some x => have := (hs1.dom i x hx).1; have := HK_len D H (Nat.zero_le j); rw [hH0] at this; omega
      vals := fun j _ hl => by rw [hgetF] at hl; cases hl
      trel := by rw [hTS]; exact ht
      j := E.stable g S w w.drew hi.j (fun _ _ => rfl) (Nat.le_refl _) rfl rfl rfl
      bnd := hi.bnd
      disj := hi.disj
      live := fun _ h => h
      os := rfl
      tape := rfl
      out := rfl
      wsize := Nat.le_refl _
      keep := fun _ _ _ => rfl
      fresh := fun i x h1 hx => by have := (hs1.dom i x hx).1; omega
      ro := hr
      marks := ⟨hmk.eq, hmk.nodup, hmk.at_⟩
      defers := rfl }

section
variable {P : Program} {ops : Array Oper} {b i : Nat} {o0 o1 : AObj} {R : List Value → AHeap → Prop} {n k : Nat} {dst : Option Tmp} {ty : TypeId} {ps : String} {af : Array Edge} {rest : List Oper} {T T' : List Value} {H H' : AHeap}
theorem SpecJ.norm {l : List Oper} (hT : T = T') (hH : H = H') (h : SpecJ P ops b i o0 o1 R n k l T' H') : SpecJ P ops b i o0 o1 R n k l T H := by subst hT; subst hH; exact h
/-- the other heap -/
abbrev altH (H : AHeap) (k b i : Nat) (o0 o1 : AObj) : AHeap := if k < b then H.set i o1 else H.set i o0
theorem altH_get {j : Nat} {o : AObj} (hne : i ≠ j) (h : H[j]? = some o) : (if k < b then H.set i o1 else H.set i o0)[j]? = some o := by
  split <;> exact get_setne hne h
theorem sj_move {x : Operand} (hk : (k != b) = true) (h : SpecJ P ops b i o0 o1 R n (k + 1) rest (putT T dst (evalT T x)) H) : SpecJ P ops b i o0 o1 R (n + 1) k (⟨dst, .move x, ty, ps, af, none⟩ :: rest) T H := SpecJ.loose _ hk rfl runs_move runs_move h
theorem sj_fieldAddr {s : TypeId} {x : Operand} {f j o off : Nat} [hf : FaC P s f off] (hk : (k != b) = true) (hx : evalT T x = .pointer (some ⟨j, o, none⟩)) (h : SpecJ P ops b i o0 o1 R n (k + 1) rest (putT T dst (.pointer (some ⟨j, o + off, none⟩))) H) :
    SpecJ P ops b i o0 o1 R (n + 1) k (⟨dst, .fieldAddr s x f, ty, ps, af, none⟩ :: rest) T H := by
  obtain ⟨fields, n, z, b, fd, d', n', z', b', h1, h2, h3, h4, rfl⟩ := hf.fa
  exact SpecJ.loose _ hk rfl (runs_fieldAddr h1 h2 h3 h4 hx) (runs_fieldAddr h1 h2 h3 h4 hx) h
theorem sj_indexA {t : TypeId} {x ix : Operand} {ir o len : Nat} {kd : IntKind} {j : Int} {e : TypeId} {nn : Nat} {z : Value} {bb : Nat} {d' : TypeDesc} {n' : Nat} {z' : Value} {b' : Nat} [ht : TyC P t (.array len e) nn z bb] [he : TyC P e d' n' z' b'] (hk : (k != b) = true)
    (hx : evalT T x = .pointer (some ⟨ir, o, none⟩)) (hix : evalT T ix = .int kd j) (h0 : 0 ≤ j ∧ j < len) (h : SpecJ P ops b i o0 o1 R n (k + 1) rest (putT T dst (.pointer (some ⟨ir, o + j.toNat * n', none⟩))) H) :
    SpecJ P ops b i o0 o1 R (n + 1) k (⟨dst, .indexAddr t x ix, ty, ps, af, none⟩ :: rest) T H := SpecJ.loose _ hk rfl (runs_indexAddrA ht.ty he.ty hx hix h0.1 h0.2) (runs_indexAddrA ht.ty he.ty hx hix h0.1 h0.2) h
theorem sj_load1 {t : TypeId} {x : Operand} {ir o : Nat} {d : TypeDesc} {nn : Nat} {z : Value} {bb : Nat} {cells : List Value} {es : Nat} {own : Bool} {v : Value} [ht : TyC P t d nn z bb] (hk : (k != b) = true) (hd : aggD d = false) (hx : evalT T x = .pointer (some ⟨ir, o, none⟩))
    (hi : H[ir]? = some (.row cells es own)) (hne : i ≠ ir) (hc : cells[o]? = some v) (h : SpecJ P ops b i o0 o1 R n (k + 1) rest (putT T dst v) H) : SpecJ P ops b i o0 o1 R (n + 1) k (⟨dst, .load t x, ty, ps, af, none⟩ :: rest) T H :=
  SpecJ.loose _ hk rfl (runs_load1 ht.ty hd hx hi hc) (runs_load1 ht.ty hd hx (altH_get hne hi) hc) h
theorem sj_loadN {t : TypeId} {x : Operand} {ir o : Nat} {d : TypeDesc} {nn : Nat} {z : Value} {bb : Nat} {cells cs : List Value} {es : Nat} {own : Bool} [ht : TyC P t d nn z bb] (hk : (k != b) = true) (hd : aggD d = true) (hx : evalT T x = .pointer (some ⟨ir, o, none⟩))
    (hi : H[ir]? = some (.row cells es own)) (hne : i ≠ ir) (hn : o + nn ≤ cells.length) (hcs : (cells.drop o).take nn = cs) (h : SpecJ P ops b i o0 o1 R n (k + 1) rest (putT T dst (.agg ⟨cs⟩)) H) : SpecJ P ops b i o0 o1 R (n + 1) k (⟨dst, .load t x, ty, ps, af, none⟩ :: rest) T H :=
  SpecJ.loose _ hk rfl (runs_loadN ht.ty hd hx hi hn hcs) (runs_loadN ht.ty hd hx (altH_get hne hi) hn hcs) h
theorem sj_add {xt yt : TypeId} {x y : Operand} {a c : Int} (hk : (k != b) = true) (hx : evalT T x = .int .i64 a) (hy : evalT T y = .int .i64 c) (hw : -9223372036854775808 ≤ a + c ∧ a + c ≤ 9223372036854775807)
    (h : SpecJ P ops b i o0 o1 R n (k + 1) rest (putT T dst (.int .i64 (a + c))) H) : SpecJ P ops b i o0 o1 R (n + 1) k (⟨dst, .binOp .add xt x y yt, ty, ps, af, none⟩ :: rest) T H :=
  SpecJ.loose _ hk rfl (runs_intBin hx hy (by simp only [intBin, wrap64_eq hw])) (runs_intBin hx hy (by simp only [intBin, wrap64_eq hw])) h
theorem sj_quo0 {xt yt : TypeId} {x y : Operand} {a c : Int} (hk : (k != b) = true) (hx : evalT T x = .int .i64 a) (hy : evalT T y = .int .i64 c) (hb : 0 < c ∧ 0 ≤ a ∧ a ≤ 9223372036854775807)
    (h : SpecJ P ops b i o0 o1 R n (k + 1) rest (putT T dst (.int .i64 (a / c))) H) : SpecJ P ops b i o0 o1 R (n + 1) k (⟨dst, .binOp .quo xt x y yt, ty, ps, af, none⟩ :: rest) T H := by
  have e : IntKind.i64.wrap (a.tdiv c) = a / c := by
    have e : a.tdiv c = a / c := Int.tdiv_eq_ediv_of_nonneg hb.2.1
    have h1 : 0 ≤ a / c := Int.ediv_nonneg hb.2.1 (by omega)
    have h2 : a / c ≤ a := Int.ediv_le_self _ hb.2.1
    rw [e, wrap64_eq ⟨by omega, by omega⟩]
  refine SpecJ.loose (.int .i64 (a / c)) hk rfl ?_ ?_ h
  · rw [← e]; exact runs_quo hx hy (by omega)
  · rw [← e]; exact runs_quo hx hy (by omega)
theorem sj_rem0 {xt yt : TypeId} {x y : Operand} {a c : Int} (hk : (k != b) = true) (hx : evalT T x = .int .i64 a) (hy : evalT T y = .int .i64 c) (hb : 0 < c ∧ 0 ≤ a)
    (h : SpecJ P ops b i o0 o1 R n (k + 1) rest (putT T dst (.int .i64 (a % c))) H) : SpecJ P ops b i o0 o1 R (n + 1) k (⟨dst, .binOp .rem xt x y yt, ty, ps, af, none⟩ :: rest) T H := by
  have e : a.tmod c = a % c := Int.tmod_eq_emod_of_nonneg hb.2
  refine SpecJ.loose (.int .i64 (a % c)) hk rfl ?_ ?_ h
  · rw [← e]; exact runs_rem hx hy (by omega)
  · rw [← e]; exact runs_rem hx hy (by omega)
theorem sj_conv {src dt : TypeId} {x : Operand} {kd k' : IntKind} {m : Int} {ds : TypeDesc} {n1 n2 : Nat} {z1 z2 : Value} {b1 b2 : Nat} [hs : TyC P src ds n1 z1 b1] [hd : TyC P dt (.int k') n2 z2 b2] (hk : (k != b) = true) (hx : evalT T x = .int kd m)
    (h : SpecJ P ops b i o0 o1 R n (k + 1) rest (putT T dst (.int k' (k'.wrap m))) H) : SpecJ P ops b i o0 o1 R (n + 1) k (⟨dst, .convert src dt x, ty, ps, af, none⟩ :: rest) T H := SpecJ.loose _ hk rfl (runs_convInt hs.ty hd.ty hx) (runs_convInt hs.ty hd.ty hx) h
theorem sj_min {x y : Operand} {at_ : Array TypeId} {kd : IntKind} {a c : Int} (hk : (k != b) = true) (hx : evalT T x = .int kd a) (hy : evalT T y = .int kd c) (h : SpecJ P ops b i o0 o1 R n (k + 1) rest (putT T dst (.int kd (if c < a then c else a))) H) :
    SpecJ P ops b i o0 o1 R (n + 1) k (⟨dst, .call { callee := .builtin .min, args := #[x, y], argTypes := at_ }, ty, ps, af, none⟩ :: rest) T H := SpecJ.loose _ hk rfl (runs_min2 hx hy) (runs_min2 hx hy) h
/-- a look into the map that is turned: the entry that is made holds what was found -/
theorem findK_add {l : List (List Int × Value)} {ky : List Int} {z : Value} : atK (addK l ky z) ky z = atK l ky z := by
  unfold addK
  cases h : findK l ky with
  | some j => rfl
  | none =>
    have : findK (l ++ [(ky, z)]) ky = some l.length := by
      unfold findK at h ⊢
      rw [List.findIdx?_append, h]
      simp [List.findIdx?_cons]
    unfold atK
    rw [h, this]
    simp
theorem sj_lookupE {t kt et : TypeId} {x y : Operand} {nk nn : Nat} {z : Value} {bb : Nat} {d : TypeDesc} {n2 : Nat} {z2 : Value} {b2 : Nat} {ky : List Int} {l : List (List Int × Value)} [ht : TyC P t (.map kt et) nn z bb] [hkk : IntsC P kt nk] [he : TyC P et d n2 z2 b2] (hk : (k != b) = true) (hkb : k < b)
    (hx : evalT T x = .map (some i)) (hy : evalT T y = .agg ⟨ky.map cellI⟩) (hkl : ky.length = nk) (hl : ∀ x ∈ l, x.1.length = nk) (ho : H[i]? = some (mapI l)) (ho1 : o1 = mapI (addK l ky (constT z2)))
    (h : SpecJ P ops b i o0 o1 R n (k + 1) rest (putT T dst (atK l ky (constT z2))) H) : SpecJ P ops b i o0 o1 R (n + 1) k (⟨dst, .lookup t x y false, ty, ps, af, none⟩ :: rest) T H := by
  subst ho1
  have hl' : ∀ x ∈ addK l ky (constT z2), x.1.length = nk := by
    intro x hx
    unfold addK at hx
    split at hx
    · exact hl x hx
    · simp at hx
      rcases hx with hx | rfl
      · exact hl _ hx
      · exact hkl
  have hset : (H.set i (mapI (addK l ky (constT z2))))[i]? = some (mapI (addK l ky (constT z2))) := List.getElem?_set_self (List.getElem?_eq_some_iff.1 ho).1
  have h2 := runs_lookup (dst := dst) (ty := ty) (ps := ps) (af := af) (gd := none) ht.ty hkk he.ty hx hy hkl hl' hset
  rw [findK_add] at h2
  refine SpecJ.loose _ hk rfl (runs_lookup ht.ty hkk he.ty hx hy hkl hl ho) ?_ h
  rw [if_pos hkb]
  exact h2
end
end Go.Abs

namespace Go.Proofs.Ytehobnpoeodhkaa
open Go Go.Abs Go.Proofs
set_option maxRecDepth 100000
instance ty0 : TyC Try.prog 0 (Go.TypeDesc.tuple (Array.mk [])) 1 (Go.Value.tuple (Array.mk [])) 0 := ⟨Ty.of (by kernel_rfl)⟩
instance ty1 : TyC Try.prog 1 (Go.TypeDesc.func (Array.mk []) (Array.mk []) Bool.false) 1 (Go.Value.nilFunc) 8 := ⟨Ty.of (by kernel_rfl)⟩
instance ty2 : TyC Try.prog 2 (Go.TypeDesc.int Go.IntKind.i64) 1 (Go.Value.int Go.IntKind.i64 (Int.ofNat 0)) 8 := ⟨Ty.of (by kernel_rfl)⟩
instance ty3 : TyC Try.prog 3 (Go.TypeDesc.int Go.IntKind.i64) 1 (Go.Value.int Go.IntKind.i64 (Int.ofNat 0)) 8 := ⟨Ty.of (by kernel_rfl)⟩
instance ty4 : TyC Try.prog 4 (Go.TypeDesc.bool) 1 (Go.Value.bool Bool.false) 1 := ⟨Ty.of (by kernel_rfl)⟩
instance ty5 : TyC Try.prog 5 (Go.TypeDesc.int Go.IntKind.u8) 1 (Go.Value.int Go.IntKind.u8 (Int.ofNat 0)) 1 := ⟨Ty.of (by kernel_rfl)⟩
instance ty6 : TyC Try.prog 6 (Go.TypeDesc.int Go.IntKind.u8) 1 (Go.Value.int Go.IntKind.u8 (Int.ofNat 0)) 1 := ⟨Ty.of (by kernel_rfl)⟩
instance ty7 : TyC Try.prog 7 (Go.TypeDesc.struct (Array.mk [Go.Field.mk "x" 2 0 Bool.false "" "runtime" 0, Go.Field.mk "y" 3 1 Bool.false "" "runtime" 8, Go.Field.mk "signed" 4 2 Bool.false "" "runtime" 16, Go.Field.mk "code" 6 3 Bool.false "" "runtime" 17])) 4 (Go.Value.agg (Array.mk [Go.Value.int Go.IntKind.i64 (Int.ofNat 0), Go.Value.int Go.IntKind.i64 (Int.ofNat 0), Go.Value.bool Bool.false, Go.Value.int Go.IntKind.u8 (Int.ofNat 0)])) 24 := ⟨Ty.of (by kernel_rfl)⟩
instance pl7 : PlC Try.prog 7 [(0, 1), (1, 1), (2, 1), (3, 1)] (Go.Value.agg (Array.mk [Go.Value.int Go.IntKind.i64 (Int.ofNat 0), Go.Value.int Go.IntKind.i64 (Int.ofNat 0), Go.Value.bool Bool.false, Go.Value.int Go.IntKind.u8 (Int.ofNat 0)])) := PlC.of ty7.ty (by kernel_rfl)
instance ty8 : TyC Try.prog 8 (Go.TypeDesc.struct (Array.mk [Go.Field.mk "x" 2 0 Bool.false "" "runtime" 0, Go.Field.mk "y" 3 1 Bool.false "" "runtime" 8, Go.Field.mk "signed" 4 2 Bool.false "" "runtime" 16, Go.Field.mk "code" 6 3 Bool.false "" "runtime" 17])) 4 (Go.Value.agg (Array.mk [Go.Value.int Go.IntKind.i64 (Int.ofNat 0), Go.Value.int Go.IntKind.i64 (Int.ofNat 0), Go.Value.bool Bool.false, Go.Value.int Go.IntKind.u8 (Int.ofNat 0)])) 24 := ⟨Ty.of (by kernel_rfl)⟩
instance pl8 : PlC Try.prog 8 [(0, 1), (1, 1), (2, 1), (3, 1)] (Go.Value.agg (Array.mk [Go.Value.int Go.IntKind.i64 (Int.ofNat 0), Go.Value.int Go.IntKind.i64 (Int.ofNat 0), Go.Value.bool Bool.false, Go.Value.int Go.IntKind.u8 (Int.ofNat 0)])) := PlC.of ty8.ty (by kernel_rfl)
instance ty9 : TyC Try.prog 9 (Go.TypeDesc.string) 1 (Go.Value.string (ByteArray.mk (Array.mk []))) 16 := ⟨Ty.of (by kernel_rfl)⟩
instance ty10 : TyC Try.prog 10 (Go.TypeDesc.string) 1 (Go.Value.string (ByteArray.mk (Array.mk []))) 16 := ⟨Ty.of (by kernel_rfl)⟩
instance ty11 : TyC Try.prog 11 (Go.TypeDesc.string) 1 (Go.Value.string (ByteArray.mk (Array.mk []))) 16 := ⟨Ty.of (by kernel_rfl)⟩
instance ty12 : TyC Try.prog 12 (Go.TypeDesc.int Go.IntKind.u64) 1 (Go.Value.int Go.IntKind.u64 (Int.ofNat 0)) 8 := ⟨Ty.of (by kernel_rfl)⟩
instance ty13 : TyC Try.prog 13 (Go.TypeDesc.struct (Array.mk [Go.Field.mk "msg" 9 0 Bool.false "" "runtime" 0, Go.Field.mk "addr" 12 1 Bool.false "" "runtime" 16])) 2 (Go.Value.agg (Array.mk [Go.Value.string (ByteArray.mk (Array.mk [])), Go.Value.int Go.IntKind.u64 (Int.ofNat 0)])) 24 := ⟨Ty.of (by kernel_rfl)⟩
instance pl13 : PlC Try.prog 13 [(0, 1), (1, 1)] (Go.Value.agg (Array.mk [Go.Value.string (ByteArray.mk (Array.mk [])), Go.Value.int Go.IntKind.u64 (Int.ofNat 0)])) := PlC.of ty13.ty (by kernel_rfl)
instance ty14 : TyC Try.prog 14 (Go.TypeDesc.struct (Array.mk [Go.Field.mk "msg" 9 0 Bool.false "" "runtime" 0, Go.Field.mk "addr" 12 1 Bool.false "" "runtime" 16])) 2 (Go.Value.agg (Array.mk [Go.Value.string (ByteArray.mk (Array.mk [])), Go.Value.int Go.IntKind.u64 (Int.ofNat 0)])) 24 := ⟨Ty.of (by kernel_rfl)⟩
instance pl14 : PlC Try.prog 14 [(0, 1), (1, 1)] (Go.Value.agg (Array.mk [Go.Value.string (ByteArray.mk (Array.mk [])), Go.Value.int Go.IntKind.u64 (Int.ofNat 0)])) := PlC.of ty14.ty (by kernel_rfl)
instance ty15 : TyC Try.prog 15 (Go.TypeDesc.pointer 164) 1 (Go.Value.pointer Option.none) 8 := ⟨Ty.of (by kernel_rfl)⟩
instance ty16 : TyC Try.prog 16 (Go.TypeDesc.pointer 167) 1 (Go.Value.pointer Option.none) 8 := ⟨Ty.of (by kernel_rfl)⟩
instance ty17 : TyC Try.prog 17 (Go.TypeDesc.pointer 176) 1 (Go.Value.pointer Option.none) 8 := ⟨Ty.of (by kernel_rfl)⟩
instance ty18 : TyC Try.prog 18 (Go.TypeDesc.struct (Array.mk [Go.Field.mk "typ" 17 0 Bool.false "" "internal/runtime/maps" 0])) 1 (Go.Value.agg (Array.mk [Go.Value.pointer Option.none])) 8 := ⟨Ty.of (by kernel_rfl)⟩
instance pl18 : PlC Try.prog 18 [(0, 1)] (Go.Value.agg (Array.mk [Go.Value.pointer Option.none])) := PlC.of ty18.ty (by kernel_rfl)
instance ty19 : TyC Try.prog 19 (Go.TypeDesc.struct (Array.mk [Go.Field.mk "typ" 17 0 Bool.false "" "internal/runtime/maps" 0])) 1 (Go.Value.agg (Array.mk [Go.Value.pointer Option.none])) 8 := ⟨Ty.of (by kernel_rfl)⟩
instance pl19 : PlC Try.prog 19 [(0, 1)] (Go.Value.agg (Array.mk [Go.Value.pointer Option.none])) := PlC.of ty19.ty (by kernel_rfl)
instance ty20 : TyC Try.prog 20 (Go.TypeDesc.interface (Array.mk [])) 1 (Go.Value.nilIface) 16 := ⟨Ty.of (by kernel_rfl)⟩
instance ty21 : TyC Try.prog 21 (Go.TypeDesc.int Go.IntKind.i32) 1 (Go.Value.int Go.IntKind.i32 (Int.ofNat 0)) 4 := ⟨Ty.of (by kernel_rfl)⟩
instance ty22 : TyC Try.prog 22 (Go.TypeDesc.slice 53) 1 (Go.Value.slice Option.none 0 0) 24 := ⟨Ty.of (by kernel_rfl)⟩
instance ty23 : TyC Try.prog 23 (Go.TypeDesc.slice 97) 1 (Go.Value.slice Option.none 0 0) 24 := ⟨Ty.of (by kernel_rfl)⟩
instance ty24 : TyC Try.prog 24 (Go.TypeDesc.slice 93) 1 (Go.Value.slice Option.none 0 0) 24 := ⟨Ty.of (by kernel_rfl)⟩
instance ty25 : TyC Try.prog 25 (Go.TypeDesc.struct (Array.mk [Go.Field.mk "Hour" 3 0 Bool.false "" "" 0, Go.Field.mk "Grace" 3 1 Bool.false "" "" 8, Go.Field.mk "Clocks" 22 2 Bool.false "" "" 16, Go.Field.mk "Tickets" 23 3 Bool.false "" "" 40, Go.Field.mk "Clips" 24 4 Bool.false "" "" 64])) 5 (Go.Value.agg (Array.mk [Go.Value.int Go.IntKind.i64 (Int.ofNat 0), Go.Value.int Go.IntKind.i64 (Int.ofNat 0), Go.Value.slice Option.none 0 0, Go.Value.slice Option.none 0 0, Go.Value.slice Option.none 0 0])) 88 := ⟨Ty.of (by kernel_rfl)⟩
instance pl25 : PlC Try.prog 25 [(0, 1), (1, 1), (2, 1), (3, 1), (4, 1)] (Go.Value.agg (Array.mk [Go.Value.int Go.IntKind.i64 (Int.ofNat 0), Go.Value.int Go.IntKind.i64 (Int.ofNat 0), Go.Value.slice Option.none 0 0, Go.Value.slice Option.none 0 0, Go.Value.slice Option.none 0 0])) := PlC.of ty25.ty (by kernel_rfl)
instance ty26 : TyC Try.prog 26 (Go.TypeDesc.struct (Array.mk [Go.Field.mk "Hour" 3 0 Bool.false "" "" 0, Go.Field.mk "Grace" 3 1 Bool.false "" "" 8, Go.Field.mk "Clocks" 22 2 Bool.false "" "" 16, Go.Field.mk "Tickets" 23 3 Bool.false "" "" 40, Go.Field.mk "Clips" 24 4 Bool.false "" "" 64])) 5 (Go.Value.agg (Array.mk [Go.Value.int Go.IntKind.i64 (Int.ofNat 0), Go.Value.int Go.IntKind.i64 (Int.ofNat 0), Go.Value.slice Option.none 0 0, Go.Value.slice Option.none 0 0, Go.Value.slice Option.none 0 0])) 88 := ⟨Ty.of (by kernel_rfl)⟩
instance pl26 : PlC Try.prog 26 [(0, 1), (1, 1), (2, 1), (3, 1), (4, 1)] (Go.Value.agg (Array.mk [Go.Value.int Go.IntKind.i64 (Int.ofNat 0), Go.Value.int Go.IntKind.i64 (Int.ofNat 0), Go.Value.slice Option.none 0 0, Go.Value.slice Option.none 0 0, Go.Value.slice Option.none 0 0])) := PlC.of ty26.ty (by kernel_rfl)
instance ty27 : TyC Try.prog 27 (Go.TypeDesc.slice 3) 1 (Go.Value.slice Option.none 0 0) 24 := ⟨Ty.of (by kernel_rfl)⟩
instance ty28 : TyC Try.prog 28 (Go.TypeDesc.func (Array.mk [26]) (Array.mk [4]) Bool.false) 1 (Go.Value.nilFunc) 8 := ⟨Ty.of (by kernel_rfl)⟩
instance ty29 : TyC Try.prog 29 (Go.TypeDesc.func (Array.mk []) (Array.mk [4]) Bool.false) 1 (Go.Value.nilFunc) 8 := ⟨Ty.of (by kernel_rfl)⟩
instance ty30 : TyC Try.prog 30 (Go.TypeDesc.int Go.IntKind.i64) 1 (Go.Value.int Go.IntKind.i64 (Int.ofNat 0)) 8 := ⟨Ty.of (by kernel_rfl)⟩
instance ty31 : TyC Try.prog 31 (Go.TypeDesc.tuple (Array.mk [27, 30])) 1 (Go.Value.tuple (Array.mk [Go.Value.slice Option.none 0 0, Go.Value.int Go.IntKind.i64 (Int.ofNat 0)])) 0 := ⟨Ty.of (by kernel_rfl)⟩
instance ty32 : TyC Try.prog 32 (Go.TypeDesc.func (Array.mk [37, 27]) (Array.mk [27, 30]) Bool.false) 1 (Go.Value.nilFunc) 8 := ⟨Ty.of (by kernel_rfl)⟩
instance ty33 : TyC Try.prog 33 (Go.TypeDesc.slice 51) 1 (Go.Value.slice Option.none 0 0) 24 := ⟨Ty.of (by kernel_rfl)⟩
instance ty34 : TyC Try.prog 34 (Go.TypeDesc.slice 82) 1 (Go.Value.slice Option.none 0 0) 24 := ⟨Ty.of (by kernel_rfl)⟩
instance ty35 : TyC Try.prog 35 (Go.TypeDesc.slice 79) 1 (Go.Value.slice Option.none 0 0) 24 := ⟨Ty.of (by kernel_rfl)⟩
instance ty36 : TyC Try.prog 36 (Go.TypeDesc.struct (Array.mk [Go.Field.mk "Hour" 3 0 Bool.false "" "" 0, Go.Field.mk "Grace" 3 1 Bool.false "" "" 8, Go.Field.mk "Clocks" 33 2 Bool.false "" "" 16, Go.Field.mk "Tickets" 34 3 Bool.false "" "" 40, Go.Field.mk "Clips" 35 4 Bool.false "" "" 64])) 5 (Go.Value.agg (Array.mk [Go.Value.int Go.IntKind.i64 (Int.ofNat 0), Go.Value.int Go.IntKind.i64 (Int.ofNat 0), Go.Value.slice Option.none 0 0, Go.Value.slice Option.none 0 0, Go.Value.slice Option.none 0 0])) 88 := ⟨Ty.of (by kernel_rfl)⟩
instance pl36 : PlC Try.prog 36 [(0, 1), (1, 1), (2, 1), (3, 1), (4, 1)] (Go.Value.agg (Array.mk [Go.Value.int Go.IntKind.i64 (Int.ofNat 0), Go.Value.int Go.IntKind.i64 (Int.ofNat 0), Go.Value.slice Option.none 0 0, Go.Value.slice Option.none 0 0, Go.Value.slice Option.none 0 0])) := PlC.of ty36.ty (by kernel_rfl)
instance ty37 : TyC Try.prog 37 (Go.TypeDesc.struct (Array.mk [Go.Field.mk "Hour" 3 0 Bool.false "" "" 0, Go.Field.mk "Grace" 3 1 Bool.false "" "" 8, Go.Field.mk "Clocks" 33 2 Bool.false "" "" 16, Go.Field.mk "Tickets" 34 3 Bool.false "" "" 40, Go.Field.mk "Clips" 35 4 Bool.false "" "" 64])) 5 (Go.Value.agg (Array.mk [Go.Value.int Go.IntKind.i64 (Int.ofNat 0), Go.Value.int Go.IntKind.i64 (Int.ofNat 0), Go.Value.slice Option.none 0 0, Go.Value.slice Option.none 0 0, Go.Value.slice Option.none 0 0])) 88 := ⟨Ty.of (by kernel_rfl)⟩
instance pl37 : PlC Try.prog 37 [(0, 1), (1, 1), (2, 1), (3, 1), (4, 1)] (Go.Value.agg (Array.mk [Go.Value.int Go.IntKind.i64 (Int.ofNat 0), Go.Value.int Go.IntKind.i64 (Int.ofNat 0), Go.Value.slice Option.none 0 0, Go.Value.slice Option.none 0 0, Go.Value.slice Option.none 0 0])) := PlC.of ty37.ty (by kernel_rfl)
instance ty38 : TyC Try.prog 38 (Go.TypeDesc.func (Array.mk [26]) (Array.mk [37]) Bool.false) 1 (Go.Value.nilFunc) 8 := ⟨Ty.of (by kernel_rfl)⟩
instance ty39 : TyC Try.prog 39 (Go.TypeDesc.func (Array.mk [27]) (Array.mk [27]) Bool.false) 1 (Go.Value.nilFunc) 8 := ⟨Ty.of (by kernel_rfl)⟩
instance ty40 : TyC Try.prog 40 (Go.TypeDesc.func (Array.mk [37, 27]) (Array.mk [4]) Bool.false) 1 (Go.Value.nilFunc) 8 := ⟨Ty.of (by kernel_rfl)⟩
instance ty41 : TyC Try.prog 41 (Go.TypeDesc.func (Array.mk [26]) (Array.mk [30]) Bool.false) 1 (Go.Value.nilFunc) 8 := ⟨Ty.of (by kernel_rfl)⟩
instance ty42 : TyC Try.prog 42 (Go.TypeDesc.func (Array.mk [37]) (Array.mk [30]) Bool.false) 1 (Go.Value.nilFunc) 8 := ⟨Ty.of (by kernel_rfl)⟩
instance ty43 : TyC Try.prog 43 (Go.TypeDesc.func (Array.mk [26, 27]) (Array.mk [4]) Bool.false) 1 (Go.Value.nilFunc) 8 := ⟨Ty.of (by kernel_rfl)⟩
instance ty44 : TyC Try.prog 44 (Go.TypeDesc.func (Array.mk [26, 27, 3]) (Array.mk [3]) Bool.false) 1 (Go.Value.nilFunc) 8 := ⟨Ty.of (by kernel_rfl)⟩
instance ty45 : TyC Try.prog 45 (Go.TypeDesc.tuple (Array.mk [33, 30])) 1 (Go.Value.tuple (Array.mk [Go.Value.slice Option.none 0 0, Go.Value.int Go.IntKind.i64 (Int.ofNat 0)])) 0 := ⟨Ty.of (by kernel_rfl)⟩
instance ty46 : TyC Try.prog 46 (Go.TypeDesc.func (Array.mk [37]) (Array.mk [33, 30]) Bool.false) 1 (Go.Value.nilFunc) 8 := ⟨Ty.of (by kernel_rfl)⟩
instance ty47 : TyC Try.prog 47 (Go.TypeDesc.slice 27) 1 (Go.Value.slice Option.none 0 0) 24 := ⟨Ty.of (by kernel_rfl)⟩
instance ty48 : TyC Try.prog 48 (Go.TypeDesc.tuple (Array.mk [47, 30])) 1 (Go.Value.tuple (Array.mk [Go.Value.slice Option.none 0 0, Go.Value.int Go.IntKind.i64 (Int.ofNat 0)])) 0 := ⟨Ty.of (by kernel_rfl)⟩
instance ty49 : TyC Try.prog 49 (Go.TypeDesc.func (Array.mk [26]) (Array.mk [47, 30]) Bool.false) 1 (Go.Value.nilFunc) 8 := ⟨Ty.of (by kernel_rfl)⟩
instance ty50 : TyC Try.prog 50 (Go.TypeDesc.struct (Array.mk [Go.Field.mk "Lo" 3 0 Bool.false "" "" 0, Go.Field.mk "Hi" 3 1 Bool.false "" "" 8])) 2 (Go.Value.agg (Array.mk [Go.Value.int Go.IntKind.i64 (Int.ofNat 0), Go.Value.int Go.IntKind.i64 (Int.ofNat 0)])) 16 := ⟨Ty.of (by kernel_rfl)⟩
instance pl50 : PlC Try.prog 50 [(0, 1), (1, 1)] (Go.Value.agg (Array.mk [Go.Value.int Go.IntKind.i64 (Int.ofNat 0), Go.Value.int Go.IntKind.i64 (Int.ofNat 0)])) := PlC.of ty50.ty (by kernel_rfl)
instance ty51 : TyC Try.prog 51 (Go.TypeDesc.struct (Array.mk [Go.Field.mk "Lo" 3 0 Bool.false "" "" 0, Go.Field.mk "Hi" 3 1 Bool.false "" "" 8])) 2 (Go.Value.agg (Array.mk [Go.Value.int Go.IntKind.i64 (Int.ofNat 0), Go.Value.int Go.IntKind.i64 (Int.ofNat 0)])) 16 := ⟨Ty.of (by kernel_rfl)⟩
instance pl51 : PlC Try.prog 51 [(0, 1), (1, 1)] (Go.Value.agg (Array.mk [Go.Value.int Go.IntKind.i64 (Int.ofNat 0), Go.Value.int Go.IntKind.i64 (Int.ofNat 0)])) := PlC.of ty51.ty (by kernel_rfl)
instance ty52 : TyC Try.prog 52 (Go.TypeDesc.func (Array.mk [53]) (Array.mk [51]) Bool.false) 1 (Go.Value.nilFunc) 8 := ⟨Ty.of (by kernel_rfl)⟩
instance ty53 : TyC Try.prog 53 (Go.TypeDesc.struct (Array.mk [Go.Field.mk "Lo" 3 0 Bool.false "" "" 0, Go.Field.mk "Hi" 3 1 Bool.false "" "" 8])) 2 (Go.Value.agg (Array.mk [Go.Value.int Go.IntKind.i64 (Int.ofNat 0), Go.Value.int Go.IntKind.i64 (Int.ofNat 0)])) 16 := ⟨Ty.of (by kernel_rfl)⟩
instance pl53 : PlC Try.prog 53 [(0, 1), (1, 1)] (Go.Value.agg (Array.mk [Go.Value.int Go.IntKind.i64 (Int.ofNat 0), Go.Value.int Go.IntKind.i64 (Int.ofNat 0)])) := PlC.of ty53.ty (by kernel_rfl)
instance ty54 : TyC Try.prog 54 (Go.TypeDesc.func (Array.mk [47, 3]) (Array.mk [53]) Bool.false) 1 (Go.Value.nilFunc) 8 := ⟨Ty.of (by kernel_rfl)⟩
instance ty55 : TyC Try.prog 55 (Go.TypeDesc.func (Array.mk [26, 47, 3]) (Array.mk [53]) Bool.false) 1 (Go.Value.nilFunc) 8 := ⟨Ty.of (by kernel_rfl)⟩
instance ty56 : TyC Try.prog 56 (Go.TypeDesc.func (Array.mk [37]) (Array.mk [27, 30]) Bool.false) 1 (Go.Value.nilFunc) 8 := ⟨Ty.of (by kernel_rfl)⟩
instance ty57 : TyC Try.prog 57 (Go.TypeDesc.tuple (Array.mk [3, 30])) 1 (Go.Value.tuple (Array.mk [Go.Value.int Go.IntKind.i64 (Int.ofNat 0), Go.Value.int Go.IntKind.i64 (Int.ofNat 0)])) 0 := ⟨Ty.of (by kernel_rfl)⟩
instance ty58 : TyC Try.prog 58 (Go.TypeDesc.func (Array.mk [37]) (Array.mk [3, 30]) Bool.false) 1 (Go.Value.nilFunc) 8 := ⟨Ty.of (by kernel_rfl)⟩
instance ty59 : TyC Try.prog 59 (Go.TypeDesc.func (Array.mk [26, 47]) (Array.mk [3]) Bool.false) 1 (Go.Value.nilFunc) 8 := ⟨Ty.of (by kernel_rfl)⟩
instance ty60 : TyC Try.prog 60 (Go.TypeDesc.func (Array.mk [26, 47, 3]) (Array.mk [3]) Bool.false) 1 (Go.Value.nilFunc) 8 := ⟨Ty.of (by kernel_rfl)⟩
instance ty61 : TyC Try.prog 61 (Go.TypeDesc.func (Array.mk [37, 3, 3]) (Array.mk [3, 30]) Bool.false) 1 (Go.Value.nilFunc) 8 := ⟨Ty.of (by kernel_rfl)⟩
instance ty62 : TyC Try.prog 62 (Go.TypeDesc.func (Array.mk [3, 3, 3]) (Array.mk [4]) Bool.false) 1 (Go.Value.nilFunc) 8 := ⟨Ty.of (by kernel_rfl)⟩
instance ty63 : TyC Try.prog 63 (Go.TypeDesc.func (Array.mk [26, 47, 3, 3]) (Array.mk [3]) Bool.false) 1 (Go.Value.nilFunc) 8 := ⟨Ty.of (by kernel_rfl)⟩
instance ty64 : TyC Try.prog 64 (Go.TypeDesc.func (Array.mk [26, 3, 3]) (Array.mk [4]) Bool.false) 1 (Go.Value.nilFunc) 8 := ⟨Ty.of (by kernel_rfl)⟩
instance ty65 : TyC Try.prog 65 (Go.TypeDesc.tuple (Array.mk [51, 30])) 1 (Go.Value.tuple (Array.mk [Go.Value.agg (Array.mk [Go.Value.int Go.IntKind.i64 (Int.ofNat 0), Go.Value.int Go.IntKind.i64 (Int.ofNat 0)]), Go.Value.int Go.IntKind.i64 (Int.ofNat 0)])) 0 := ⟨Ty.of (by kernel_rfl)⟩
instance ty66 : TyC Try.prog 66 (Go.TypeDesc.func (Array.mk [37, 3]) (Array.mk [51, 30]) Bool.false) 1 (Go.Value.nilFunc) 8 := ⟨Ty.of (by kernel_rfl)⟩
instance ty67 : TyC Try.prog 67 (Go.TypeDesc.func (Array.mk [26, 3]) (Array.mk [4]) Bool.false) 1 (Go.Value.nilFunc) 8 := ⟨Ty.of (by kernel_rfl)⟩
instance ty68 : TyC Try.prog 68 (Go.TypeDesc.tuple (Array.mk [3, 3, 30])) 1 (Go.Value.tuple (Array.mk [Go.Value.int Go.IntKind.i64 (Int.ofNat 0), Go.Value.int Go.IntKind.i64 (Int.ofNat 0), Go.Value.int Go.IntKind.i64 (Int.ofNat 0)])) 0 := ⟨Ty.of (by kernel_rfl)⟩
instance ty69 : TyC Try.prog 69 (Go.TypeDesc.func (Array.mk [37]) (Array.mk [3, 3, 30]) Bool.false) 1 (Go.Value.nilFunc) 8 := ⟨Ty.of (by kernel_rfl)⟩
instance ty70 : TyC Try.prog 70 (Go.TypeDesc.tuple (Array.mk [3, 3])) 1 (Go.Value.tuple (Array.mk [Go.Value.int Go.IntKind.i64 (Int.ofNat 0), Go.Value.int Go.IntKind.i64 (Int.ofNat 0)])) 0 := ⟨Ty.of (by kernel_rfl)⟩
instance ty71 : TyC Try.prog 71 (Go.TypeDesc.func (Array.mk [26, 47]) (Array.mk [3, 3]) Bool.false) 1 (Go.Value.nilFunc) 8 := ⟨Ty.of (by kernel_rfl)⟩
instance ty72 : TyC Try.prog 72 (Go.TypeDesc.func (Array.mk [27, 27]) (Array.mk [4]) Bool.false) 1 (Go.Value.nilFunc) 8 := ⟨Ty.of (by kernel_rfl)⟩
instance ty73 : TyC Try.prog 73 (Go.TypeDesc.func (Array.mk [26]) (Array.mk [27]) Bool.false) 1 (Go.Value.nilFunc) 8 := ⟨Ty.of (by kernel_rfl)⟩
instance ty74 : TyC Try.prog 74 (Go.TypeDesc.func (Array.mk [26]) (Array.mk [3]) Bool.false) 1 (Go.Value.nilFunc) 8 := ⟨Ty.of (by kernel_rfl)⟩
instance ty75 : TyC Try.prog 75 (Go.TypeDesc.func (Array.mk [3, 35]) (Array.mk [37]) Bool.true) 1 (Go.Value.nilFunc) 8 := ⟨Ty.of (by kernel_rfl)⟩
instance ty76 : TyC Try.prog 76 (Go.TypeDesc.func (Array.mk []) (Array.mk [37]) Bool.false) 1 (Go.Value.nilFunc) 8 := ⟨Ty.of (by kernel_rfl)⟩
instance ty77 : TyC Try.prog 77 (Go.TypeDesc.func (Array.mk [3, 3]) (Array.mk [51]) Bool.false) 1 (Go.Value.nilFunc) 8 := ⟨Ty.of (by kernel_rfl)⟩
instance ty78 : TyC Try.prog 78 (Go.TypeDesc.struct (Array.mk [Go.Field.mk "Ticket" 3 0 Bool.false "" "" 0, Go.Field.mk "Clock" 3 1 Bool.false "" "" 8, Go.Field.mk "Minute" 3 2 Bool.false "" "" 16])) 3 (Go.Value.agg (Array.mk [Go.Value.int Go.IntKind.i64 (Int.ofNat 0), Go.Value.int Go.IntKind.i64 (Int.ofNat 0), Go.Value.int Go.IntKind.i64 (Int.ofNat 0)])) 24 := ⟨Ty.of (by kernel_rfl)⟩
instance pl78 : PlC Try.prog 78 [(0, 1), (1, 1), (2, 1)] (Go.Value.agg (Array.mk [Go.Value.int Go.IntKind.i64 (Int.ofNat 0), Go.Value.int Go.IntKind.i64 (Int.ofNat 0), Go.Value.int Go.IntKind.i64 (Int.ofNat 0)])) := PlC.of ty78.ty (by kernel_rfl)
instance ty79 : TyC Try.prog 79 (Go.TypeDesc.struct (Array.mk [Go.Field.mk "Ticket" 3 0 Bool.false "" "" 0, Go.Field.mk "Clock" 3 1 Bool.false "" "" 8, Go.Field.mk "Minute" 3 2 Bool.false "" "" 16])) 3 (Go.Value.agg (Array.mk [Go.Value.int Go.IntKind.i64 (Int.ofNat 0), Go.Value.int Go.IntKind.i64 (Int.ofNat 0), Go.Value.int Go.IntKind.i64 (Int.ofNat 0)])) 24 := ⟨Ty.of (by kernel_rfl)⟩
instance pl79 : PlC Try.prog 79 [(0, 1), (1, 1), (2, 1)] (Go.Value.agg (Array.mk [Go.Value.int Go.IntKind.i64 (Int.ofNat 0), Go.Value.int Go.IntKind.i64 (Int.ofNat 0), Go.Value.int Go.IntKind.i64 (Int.ofNat 0)])) := PlC.of ty79.ty (by kernel_rfl)
instance ty80 : TyC Try.prog 80 (Go.TypeDesc.func (Array.mk []) (Array.mk [79]) Bool.false) 1 (Go.Value.nilFunc) 8 := ⟨Ty.of (by kernel_rfl)⟩
instance ty81 : TyC Try.prog 81 (Go.TypeDesc.struct (Array.mk [Go.Field.mk "Tub" 3 0 Bool.false "" "" 0, Go.Field.mk "Hours" 3 1 Bool.false "" "" 8])) 2 (Go.Value.agg (Array.mk [Go.Value.int Go.IntKind.i64 (Int.ofNat 0), Go.Value.int Go.IntKind.i64 (Int.ofNat 0)])) 16 := ⟨Ty.of (by kernel_rfl)⟩
instance pl81 : PlC Try.prog 81 [(0, 1), (1, 1)] (Go.Value.agg (Array.mk [Go.Value.int Go.IntKind.i64 (Int.ofNat 0), Go.Value.int Go.IntKind.i64 (Int.ofNat 0)])) := PlC.of ty81.ty (by kernel_rfl)
instance ty82 : TyC Try.prog 82 (Go.TypeDesc.struct (Array.mk [Go.Field.mk "Tub" 3 0 Bool.false "" "" 0, Go.Field.mk "Hours" 3 1 Bool.false "" "" 8])) 2 (Go.Value.agg (Array.mk [Go.Value.int Go.IntKind.i64 (Int.ofNat 0), Go.Value.int Go.IntKind.i64 (Int.ofNat 0)])) 16 := ⟨Ty.of (by kernel_rfl)⟩
instance pl82 : PlC Try.prog 82 [(0, 1), (1, 1)] (Go.Value.agg (Array.mk [Go.Value.int Go.IntKind.i64 (Int.ofNat 0), Go.Value.int Go.IntKind.i64 (Int.ofNat 0)])) := PlC.of ty82.ty (by kernel_rfl)
instance ty83 : TyC Try.prog 83 (Go.TypeDesc.int Go.IntKind.u16) 1 (Go.Value.int Go.IntKind.u16 (Int.ofNat 0)) 2 := ⟨Ty.of (by kernel_rfl)⟩
instance ty84 : TyC Try.prog 84 (Go.TypeDesc.tuple (Array.mk [27, 4])) 1 (Go.Value.tuple (Array.mk [Go.Value.slice Option.none 0 0, Go.Value.bool Bool.false])) 0 := ⟨Ty.of (by kernel_rfl)⟩
instance ty85 : TyC Try.prog 85 (Go.TypeDesc.func (Array.mk [26, 83]) (Array.mk [27, 4]) Bool.false) 1 (Go.Value.nilFunc) 8 := ⟨Ty.of (by kernel_rfl)⟩
instance ty86 : TyC Try.prog 86 (Go.TypeDesc.func (Array.mk [3, 4]) (Array.mk [4]) Bool.false) 1 (Go.Value.nilFunc) 8 := ⟨Ty.of (by kernel_rfl)⟩
instance ty87 : TyC Try.prog 87 (Go.TypeDesc.func (Array.mk [3, 51]) (Array.mk [4]) Bool.false) 1 (Go.Value.nilFunc) 8 := ⟨Ty.of (by kernel_rfl)⟩
instance ty88 : TyC Try.prog 88 (Go.TypeDesc.func (Array.mk [26, 27, 3]) (Array.mk [4]) Bool.false) 1 (Go.Value.nilFunc) 8 := ⟨Ty.of (by kernel_rfl)⟩
instance ty89 : TyC Try.prog 89 (Go.TypeDesc.func (Array.mk [26, 83]) (Array.mk [4]) Bool.false) 1 (Go.Value.nilFunc) 8 := ⟨Ty.of (by kernel_rfl)⟩
instance ty90 : TyC Try.prog 90 (Go.TypeDesc.array 4 4) 4 (Go.Value.agg (Array.mk [Go.Value.bool Bool.false, Go.Value.bool Bool.false, Go.Value.bool Bool.false, Go.Value.bool Bool.false])) 4 := ⟨Ty.of (by kernel_rfl)⟩
instance ty91 : TyC Try.prog 91 (Go.TypeDesc.int Go.IntKind.u64) 1 (Go.Value.int Go.IntKind.u64 (Int.ofNat 0)) 8 := ⟨Ty.of (by kernel_rfl)⟩
instance ty92 : TyC Try.prog 92 (Go.TypeDesc.func (Array.mk [26, 5, 5]) (Array.mk [4]) Bool.false) 1 (Go.Value.nilFunc) 8 := ⟨Ty.of (by kernel_rfl)⟩
instance ty93 : TyC Try.prog 93 (Go.TypeDesc.struct (Array.mk [Go.Field.mk "Ticket" 3 0 Bool.false "" "" 0, Go.Field.mk "Clock" 3 1 Bool.false "" "" 8, Go.Field.mk "Minute" 3 2 Bool.false "" "" 16])) 3 (Go.Value.agg (Array.mk [Go.Value.int Go.IntKind.i64 (Int.ofNat 0), Go.Value.int Go.IntKind.i64 (Int.ofNat 0), Go.Value.int Go.IntKind.i64 (Int.ofNat 0)])) 24 := ⟨Ty.of (by kernel_rfl)⟩
instance pl93 : PlC Try.prog 93 [(0, 1), (1, 1), (2, 1)] (Go.Value.agg (Array.mk [Go.Value.int Go.IntKind.i64 (Int.ofNat 0), Go.Value.int Go.IntKind.i64 (Int.ofNat 0), Go.Value.int Go.IntKind.i64 (Int.ofNat 0)])) := PlC.of ty93.ty (by kernel_rfl)
instance ty94 : TyC Try.prog 94 (Go.TypeDesc.func (Array.mk [33, 33]) (Array.mk [4]) Bool.false) 1 (Go.Value.nilFunc) 8 := ⟨Ty.of (by kernel_rfl)⟩
instance ty95 : TyC Try.prog 95 (Go.TypeDesc.func (Array.mk [26, 93]) (Array.mk [4]) Bool.false) 1 (Go.Value.nilFunc) 8 := ⟨Ty.of (by kernel_rfl)⟩
instance ty96 : TyC Try.prog 96 (Go.TypeDesc.pointer 53) 1 (Go.Value.pointer Option.none) 8 := ⟨Ty.of (by kernel_rfl)⟩
instance ty97 : TyC Try.prog 97 (Go.TypeDesc.struct (Array.mk [Go.Field.mk "Tub" 3 0 Bool.false "" "" 0, Go.Field.mk "Hours" 3 1 Bool.false "" "" 8])) 2 (Go.Value.agg (Array.mk [Go.Value.int Go.IntKind.i64 (Int.ofNat 0), Go.Value.int Go.IntKind.i64 (Int.ofNat 0)])) 16 := ⟨Ty.of (by kernel_rfl)⟩
instance pl97 : PlC Try.prog 97 [(0, 1), (1, 1)] (Go.Value.agg (Array.mk [Go.Value.int Go.IntKind.i64 (Int.ofNat 0), Go.Value.int Go.IntKind.i64 (Int.ofNat 0)])) := PlC.of ty97.ty (by kernel_rfl)
instance ty98 : TyC Try.prog 98 (Go.TypeDesc.func (Array.mk [26]) (Array.mk [47]) Bool.false) 1 (Go.Value.nilFunc) 8 := ⟨Ty.of (by kernel_rfl)⟩
instance ty99 : TyC Try.prog 99 (Go.TypeDesc.func (Array.mk [47, 3]) (Array.mk [3]) Bool.false) 1 (Go.Value.nilFunc) 8 := ⟨Ty.of (by kernel_rfl)⟩
instance ty100 : TyC Try.prog 100 (Go.TypeDesc.func (Array.mk [26, 5]) (Array.mk [4]) Bool.false) 1 (Go.Value.nilFunc) 8 := ⟨Ty.of (by kernel_rfl)⟩
instance ty101 : TyC Try.prog 101 (Go.TypeDesc.func (Array.mk [26, 27, 3, 3]) (Array.mk [4]) Bool.false) 1 (Go.Value.nilFunc) 8 := ⟨Ty.of (by kernel_rfl)⟩
instance ty102 : TyC Try.prog 102 (Go.TypeDesc.func (Array.mk [26, 5, 5, 83]) (Array.mk [4]) Bool.false) 1 (Go.Value.nilFunc) 8 := ⟨Ty.of (by kernel_rfl)⟩
instance ty103 : TyC Try.prog 103 (Go.TypeDesc.func (Array.mk [26, 3]) (Array.mk [26]) Bool.false) 1 (Go.Value.nilFunc) 8 := ⟨Ty.of (by kernel_rfl)⟩
instance ty104 : TyC Try.prog 104 (Go.TypeDesc.func (Array.mk [3]) (Array.mk [27]) Bool.false) 1 (Go.Value.nilFunc) 8 := ⟨Ty.of (by kernel_rfl)⟩
instance ty105 : TyC Try.prog 105 (Go.TypeDesc.func (Array.mk [33, 27]) (Array.mk []) Bool.false) 1 (Go.Value.nilFunc) 8 := ⟨Ty.of (by kernel_rfl)⟩
instance ty106 : TyC Try.prog 106 (Go.TypeDesc.func (Array.mk [37, 37]) (Array.mk [4]) Bool.false) 1 (Go.Value.nilFunc) 8 := ⟨Ty.of (by kernel_rfl)⟩
instance ty107 : TyC Try.prog 107 (Go.TypeDesc.array 4 3) 4 (Go.Value.agg (Array.mk [Go.Value.int Go.IntKind.i64 (Int.ofNat 0), Go.Value.int Go.IntKind.i64 (Int.ofNat 0), Go.Value.int Go.IntKind.i64 (Int.ofNat 0), Go.Value.int Go.IntKind.i64 (Int.ofNat 0)])) 32 := ⟨Ty.of (by kernel_rfl)⟩
instance ty108 : TyC Try.prog 108 (Go.TypeDesc.array 4 3) 4 (Go.Value.agg (Array.mk [Go.Value.int Go.IntKind.i64 (Int.ofNat 0), Go.Value.int Go.IntKind.i64 (Int.ofNat 0), Go.Value.int Go.IntKind.i64 (Int.ofNat 0), Go.Value.int Go.IntKind.i64 (Int.ofNat 0)])) 32 := ⟨Ty.of (by kernel_rfl)⟩
instance ty109 : TyC Try.prog 109 (Go.TypeDesc.tuple (Array.mk [108, 4])) 1 (Go.Value.tuple (Array.mk [Go.Value.agg (Array.mk [Go.Value.int Go.IntKind.i64 (Int.ofNat 0), Go.Value.int Go.IntKind.i64 (Int.ofNat 0), Go.Value.int Go.IntKind.i64 (Int.ofNat 0), Go.Value.int Go.IntKind.i64 (Int.ofNat 0)]), Go.Value.bool Bool.false])) 0 := ⟨Ty.of (by kernel_rfl)⟩
instance ty110 : TyC Try.prog 110 (Go.TypeDesc.func (Array.mk [27]) (Array.mk [108, 4]) Bool.false) 1 (Go.Value.nilFunc) 8 := ⟨Ty.of (by kernel_rfl)⟩
instance ty111 : TyC Try.prog 111 (Go.TypeDesc.func (Array.mk [79]) (Array.mk [3]) Bool.false) 1 (Go.Value.nilFunc) 8 := ⟨Ty.of (by kernel_rfl)⟩
instance ty112 : TyC Try.prog 112 (Go.TypeDesc.func (Array.mk [131]) (Array.mk []) Bool.false) 1 (Go.Value.nilFunc) 8 := ⟨Ty.of (by kernel_rfl)⟩
instance ty113 : TyC Try.prog 113 (Go.TypeDesc.func (Array.mk [131]) (Array.mk []) Bool.false) 1 (Go.Value.nilFunc) 8 := ⟨Ty.of (by kernel_rfl)⟩
instance ty114 : TyC Try.prog 114 (Go.TypeDesc.func (Array.mk []) (Array.mk [113]) Bool.false) 1 (Go.Value.nilFunc) 8 := ⟨Ty.of (by kernel_rfl)⟩
instance ty115 : TyC Try.prog 115 (Go.TypeDesc.struct (Array.mk [Go.Field.mk "clips" 3 0 Bool.false "" "posser/ticket" 0, Go.Field.mk "came" 3 1 Bool.false "" "posser/ticket" 8, Go.Field.mk "went" 3 2 Bool.false "" "posser/ticket" 16])) 3 (Go.Value.agg (Array.mk [Go.Value.int Go.IntKind.i64 (Int.ofNat 0), Go.Value.int Go.IntKind.i64 (Int.ofNat 0), Go.Value.int Go.IntKind.i64 (Int.ofNat 0)])) 24 := ⟨Ty.of (by kernel_rfl)⟩
instance pl115 : PlC Try.prog 115 [(0, 1), (1, 1), (2, 1)] (Go.Value.agg (Array.mk [Go.Value.int Go.IntKind.i64 (Int.ofNat 0), Go.Value.int Go.IntKind.i64 (Int.ofNat 0), Go.Value.int Go.IntKind.i64 (Int.ofNat 0)])) := PlC.of ty115.ty (by kernel_rfl)
instance ty116 : TyC Try.prog 116 (Go.TypeDesc.struct (Array.mk [Go.Field.mk "clips" 3 0 Bool.false "" "posser/ticket" 0, Go.Field.mk "came" 3 1 Bool.false "" "posser/ticket" 8, Go.Field.mk "went" 3 2 Bool.false "" "posser/ticket" 16])) 3 (Go.Value.agg (Array.mk [Go.Value.int Go.IntKind.i64 (Int.ofNat 0), Go.Value.int Go.IntKind.i64 (Int.ofNat 0), Go.Value.int Go.IntKind.i64 (Int.ofNat 0)])) 24 := ⟨Ty.of (by kernel_rfl)⟩
instance pl116 : PlC Try.prog 116 [(0, 1), (1, 1), (2, 1)] (Go.Value.agg (Array.mk [Go.Value.int Go.IntKind.i64 (Int.ofNat 0), Go.Value.int Go.IntKind.i64 (Int.ofNat 0), Go.Value.int Go.IntKind.i64 (Int.ofNat 0)])) := PlC.of ty116.ty (by kernel_rfl)
instance ty117 : TyC Try.prog 117 (Go.TypeDesc.array 6 116) 18 (Go.Value.agg (Array.mk [Go.Value.int Go.IntKind.i64 (Int.ofNat 0), Go.Value.int Go.IntKind.i64 (Int.ofNat 0), Go.Value.int Go.IntKind.i64 (Int.ofNat 0), Go.Value.int Go.IntKind.i64 (Int.ofNat 0), Go.Value.int Go.IntKind.i64 (Int.ofNat 0), Go.Value.int Go.IntKind.i64 (Int.ofNat 0), Go.Value.int Go.IntKind.i64 (Int.ofNat 0), Go.Value.int Go.IntKind.i64 (Int.ofNat 0), Go.Value.int Go.IntKind.i64 (Int.ofNat 0), Go.Value.int Go.IntKind.i64 (Int.ofNat 0), Go.Value.int Go.IntKind.i64 (Int.ofNat 0), Go.Value.int Go.IntKind.i64 (Int.ofNat 0), Go.Value.int Go.IntKind.i64 (Int.ofNat 0), Go.Value.int Go.IntKind.i64 (Int.ofNat 0), Go.Value.int Go.IntKind.i64 (Int.ofNat 0), Go.Value.int Go.IntKind.i64 (Int.ofNat 0), Go.Value.int Go.IntKind.i64 (Int.ofNat 0), Go.Value.int Go.IntKind.i64 (Int.ofNat 0)])) 144 := ⟨Ty.of (by kernel_rfl)⟩
instance ty118 : TyC Try.prog 118 (Go.TypeDesc.struct (Array.mk [Go.Field.mk "House" 37 0 Bool.true "" "" 0, Go.Field.mk "errors" 108 5 Bool.false "" "posser/ticket" 88, Go.Field.mk "stays" 117 9 Bool.false "" "posser/ticket" 120])) 27 (Go.Value.agg (Array.mk [Go.Value.int Go.IntKind.i64 (Int.ofNat 0), Go.Value.int Go.IntKind.i64 (Int.ofNat 0), Go.Value.slice Option.none 0 0, Go.Value.slice Option.none 0 0, Go.Value.slice Option.none 0 0, Go.Value.int Go.IntKind.i64 (Int.ofNat 0), Go.Value.int Go.IntKind.i64 (Int.ofNat 0), Go.Value.int Go.IntKind.i64 (Int.ofNat 0), Go.Value.int Go.IntKind.i64 (Int.ofNat 0), Go.Value.int Go.IntKind.i64 (Int.ofNat 0), Go.Value.int Go.IntKind.i64 (Int.ofNat 0), Go.Value.int Go.IntKind.i64 (Int.ofNat 0), Go.Value.int Go.IntKind.i64 (Int.ofNat 0), Go.Value.int Go.IntKind.i64 (Int.ofNat 0), Go.Value.int Go.IntKind.i64 (Int.ofNat 0), Go.Value.int Go.IntKind.i64 (Int.ofNat 0), Go.Value.int Go.IntKind.i64 (Int.ofNat 0), Go.Value.int Go.IntKind.i64 (Int.ofNat 0), Go.Value.int Go.IntKind.i64 (Int.ofNat 0), Go.Value.int Go.IntKind.i64 (Int.ofNat 0), Go.Value.int Go.IntKind.i64 (Int.ofNat 0), Go.Value.int Go.IntKind.i64 (Int.ofNat 0), Go.Value.int Go.IntKind.i64 (Int.ofNat 0), Go.Value.int Go.IntKind.i64 (Int.ofNat 0), Go.Value.int Go.IntKind.i64 (Int.ofNat 0), Go.Value.int Go.IntKind.i64 (Int.ofNat 0), Go.Value.int Go.IntKind.i64 (Int.ofNat 0)])) 264 := ⟨Ty.of (by kernel_rfl)⟩
instance pl118 : PlC Try.prog 118 [(0, 5), (5, 4), (9, 18)] (Go.Value.agg (Array.mk [Go.Value.int Go.IntKind.i64 (Int.ofNat 0), Go.Value.int Go.IntKind.i64 (Int.ofNat 0), Go.Value.slice Option.none 0 0, Go.Value.slice Option.none 0 0, Go.Value.slice Option.none 0 0, Go.Value.int Go.IntKind.i64 (Int.ofNat 0), Go.Value.int Go.IntKind.i64 (Int.ofNat 0), Go.Value.int Go.IntKind.i64 (Int.ofNat 0), Go.Value.int Go.IntKind.i64 (Int.ofNat 0), Go.Value.int Go.IntKind.i64 (Int.ofNat 0), Go.Value.int Go.IntKind.i64 (Int.ofNat 0), Go.Value.int Go.IntKind.i64 (Int.ofNat 0), Go.Value.int Go.IntKind.i64 (Int.ofNat 0), Go.Value.int Go.IntKind.i64 (Int.ofNat 0), Go.Value.int Go.IntKind.i64 (Int.ofNat 0), Go.Value.int Go.IntKind.i64 (Int.ofNat 0), Go.Value.int Go.IntKind.i64 (Int.ofNat 0), Go.Value.int Go.IntKind.i64 (Int.ofNat 0), Go.Value.int Go.IntKind.i64 (Int.ofNat 0), Go.Value.int Go.IntKind.i64 (Int.ofNat 0), Go.Value.int Go.IntKind.i64 (Int.ofNat 0), Go.Value.int Go.IntKind.i64 (Int.ofNat 0), Go.Value.int Go.IntKind.i64 (Int.ofNat 0), Go.Value.int Go.IntKind.i64 (Int.ofNat 0), Go.Value.int Go.IntKind.i64 (Int.ofNat 0), Go.Value.int Go.IntKind.i64 (Int.ofNat 0), Go.Value.int Go.IntKind.i64 (Int.ofNat 0)])) := PlC.of ty118.ty (by kernel_rfl)
instance ty119 : TyC Try.prog 119 (Go.TypeDesc.struct (Array.mk [Go.Field.mk "House" 37 0 Bool.true "" "" 0, Go.Field.mk "errors" 108 5 Bool.false "" "posser/ticket" 88, Go.Field.mk "stays" 117 9 Bool.false "" "posser/ticket" 120])) 27 (Go.Value.agg (Array.mk [Go.Value.int Go.IntKind.i64 (Int.ofNat 0), Go.Value.int Go.IntKind.i64 (Int.ofNat 0), Go.Value.slice Option.none 0 0, Go.Value.slice Option.none 0 0, Go.Value.slice Option.none 0 0, Go.Value.int Go.IntKind.i64 (Int.ofNat 0), Go.Value.int Go.IntKind.i64 (Int.ofNat 0), Go.Value.int Go.IntKind.i64 (Int.ofNat 0), Go.Value.int Go.IntKind.i64 (Int.ofNat 0), Go.Value.int Go.IntKind.i64 (Int.ofNat 0), Go.Value.int Go.IntKind.i64 (Int.ofNat 0), Go.Value.int Go.IntKind.i64 (Int.ofNat 0), Go.Value.int Go.IntKind.i64 (Int.ofNat 0), Go.Value.int Go.IntKind.i64 (Int.ofNat 0), Go.Value.int Go.IntKind.i64 (Int.ofNat 0), Go.Value.int Go.IntKind.i64 (Int.ofNat 0), Go.Value.int Go.IntKind.i64 (Int.ofNat 0), Go.Value.int Go.IntKind.i64 (Int.ofNat 0), Go.Value.int Go.IntKind.i64 (Int.ofNat 0), Go.Value.int Go.IntKind.i64 (Int.ofNat 0), Go.Value.int Go.IntKind.i64 (Int.ofNat 0), Go.Value.int Go.IntKind.i64 (Int.ofNat 0), Go.Value.int Go.IntKind.i64 (Int.ofNat 0), Go.Value.int Go.IntKind.i64 (Int.ofNat 0), Go.Value.int Go.IntKind.i64 (Int.ofNat 0), Go.Value.int Go.IntKind.i64 (Int.ofNat 0), Go.Value.int Go.IntKind.i64 (Int.ofNat 0)])) 264 := ⟨Ty.of (by kernel_rfl)⟩
instance pl119 : PlC Try.prog 119 [(0, 5), (5, 4), (9, 18)] (Go.Value.agg (Array.mk [Go.Value.int Go.IntKind.i64 (Int.ofNat 0), Go.Value.int Go.IntKind.i64 (Int.ofNat 0), Go.Value.slice Option.none 0 0, Go.Value.slice Option.none 0 0, Go.Value.slice Option.none 0 0, Go.Value.int Go.IntKind.i64 (Int.ofNat 0), Go.Value.int Go.IntKind.i64 (Int.ofNat 0), Go.Value.int Go.IntKind.i64 (Int.ofNat 0), Go.Value.int Go.IntKind.i64 (Int.ofNat 0), Go.Value.int Go.IntKind.i64 (Int.ofNat 0), Go.Value.int Go.IntKind.i64 (Int.ofNat 0), Go.Value.int Go.IntKind.i64 (Int.ofNat 0), Go.Value.int Go.IntKind.i64 (Int.ofNat 0), Go.Value.int Go.IntKind.i64 (Int.ofNat 0), Go.Value.int Go.IntKind.i64 (Int.ofNat 0), Go.Value.int Go.IntKind.i64 (Int.ofNat 0), Go.Value.int Go.IntKind.i64 (Int.ofNat 0), Go.Value.int Go.IntKind.i64 (Int.ofNat 0), Go.Value.int Go.IntKind.i64 (Int.ofNat 0), Go.Value.int Go.IntKind.i64 (Int.ofNat 0), Go.Value.int Go.IntKind.i64 (Int.ofNat 0), Go.Value.int Go.IntKind.i64 (Int.ofNat 0), Go.Value.int Go.IntKind.i64 (Int.ofNat 0), Go.Value.int Go.IntKind.i64 (Int.ofNat 0), Go.Value.int Go.IntKind.i64 (Int.ofNat 0), Go.Value.int Go.IntKind.i64 (Int.ofNat 0), Go.Value.int Go.IntKind.i64 (Int.ofNat 0)])) := PlC.of ty119.ty (by kernel_rfl)
instance ty120 : TyC Try.prog 120 (Go.TypeDesc.func (Array.mk []) (Array.mk [3]) Bool.false) 1 (Go.Value.nilFunc) 8 := ⟨Ty.of (by kernel_rfl)⟩
instance ty121 : TyC Try.prog 121 (Go.TypeDesc.func (Array.mk [3, 53]) (Array.mk [4]) Bool.false) 1 (Go.Value.nilFunc) 8 := ⟨Ty.of (by kernel_rfl)⟩
instance ty122 : TyC Try.prog 122 (Go.TypeDesc.func (Array.mk [119, 3]) (Array.mk [3]) Bool.false) 1 (Go.Value.nilFunc) 8 := ⟨Ty.of (by kernel_rfl)⟩
instance ty123 : TyC Try.prog 123 (Go.TypeDesc.func (Array.mk [3]) (Array.mk [3]) Bool.false) 1 (Go.Value.nilFunc) 8 := ⟨Ty.of (by kernel_rfl)⟩
instance ty124 : TyC Try.prog 124 (Go.TypeDesc.struct (Array.mk [Go.Field.mk "of" 122 0 Bool.false "" "posser/ticket" 0])) 1 (Go.Value.agg (Array.mk [Go.Value.nilFunc])) 8 := ⟨Ty.of (by kernel_rfl)⟩
instance pl124 : PlC Try.prog 124 [(0, 1)] (Go.Value.agg (Array.mk [Go.Value.nilFunc])) := PlC.of ty124.ty (by kernel_rfl)
instance ty125 : TyC Try.prog 125 (Go.TypeDesc.struct (Array.mk [Go.Field.mk "of" 122 0 Bool.false "" "posser/ticket" 0])) 1 (Go.Value.agg (Array.mk [Go.Value.nilFunc])) 8 := ⟨Ty.of (by kernel_rfl)⟩
instance pl125 : PlC Try.prog 125 [(0, 1)] (Go.Value.agg (Array.mk [Go.Value.nilFunc])) := PlC.of ty125.ty (by kernel_rfl)
instance ty126 : TyC Try.prog 126 (Go.TypeDesc.func (Array.mk [37, 3]) (Array.mk [33]) Bool.false) 1 (Go.Value.nilFunc) 8 := ⟨Ty.of (by kernel_rfl)⟩
instance ty127 : TyC Try.prog 127 (Go.TypeDesc.func (Array.mk []) (Array.mk [53]) Bool.false) 1 (Go.Value.nilFunc) 8 := ⟨Ty.of (by kernel_rfl)⟩
instance ty128 : TyC Try.prog 128 (Go.TypeDesc.func (Array.mk [53, 3]) (Array.mk [53]) Bool.false) 1 (Go.Value.nilFunc) 8 := ⟨Ty.of (by kernel_rfl)⟩
instance ty129 : TyC Try.prog 129 (Go.TypeDesc.func (Array.mk [131]) (Array.mk [3]) Bool.false) 1 (Go.Value.nilFunc) 8 := ⟨Ty.of (by kernel_rfl)⟩
instance ty130 : TyC Try.prog 130 (Go.TypeDesc.func (Array.mk [3]) (Array.mk [4]) Bool.false) 1 (Go.Value.nilFunc) 8 := ⟨Ty.of (by kernel_rfl)⟩
instance ty131 : TyC Try.prog 131 (Go.TypeDesc.func (Array.mk [119]) (Array.mk [4]) Bool.false) 1 (Go.Value.nilFunc) 8 := ⟨Ty.of (by kernel_rfl)⟩
instance ty132 : TyC Try.prog 132 (Go.TypeDesc.func (Array.mk [3, 3]) (Array.mk [3]) Bool.false) 1 (Go.Value.nilFunc) 8 := ⟨Ty.of (by kernel_rfl)⟩
instance ty133 : TyC Try.prog 133 (Go.TypeDesc.func (Array.mk [3, 3]) (Array.mk [4]) Bool.false) 1 (Go.Value.nilFunc) 8 := ⟨Ty.of (by kernel_rfl)⟩
instance ty134 : TyC Try.prog 134 (Go.TypeDesc.func (Array.mk [37, 3]) (Array.mk [51]) Bool.false) 1 (Go.Value.nilFunc) 8 := ⟨Ty.of (by kernel_rfl)⟩
instance ty135 : TyC Try.prog 135 (Go.TypeDesc.func (Array.mk [26, 3]) (Array.mk [27]) Bool.false) 1 (Go.Value.nilFunc) 8 := ⟨Ty.of (by kernel_rfl)⟩
instance ty136 : TyC Try.prog 136 (Go.TypeDesc.func (Array.mk []) (Array.mk [27]) Bool.false) 1 (Go.Value.nilFunc) 8 := ⟨Ty.of (by kernel_rfl)⟩
instance ty137 : TyC Try.prog 137 (Go.TypeDesc.func (Array.mk [3, 27]) (Array.mk [3]) Bool.true) 1 (Go.Value.nilFunc) 8 := ⟨Ty.of (by kernel_rfl)⟩
instance ty138 : TyC Try.prog 138 (Go.TypeDesc.func (Array.mk [27, 3]) (Array.mk [3]) Bool.false) 1 (Go.Value.nilFunc) 8 := ⟨Ty.of (by kernel_rfl)⟩
instance ty139 : TyC Try.prog 139 (Go.TypeDesc.func (Array.mk [35]) (Array.mk [37]) Bool.false) 1 (Go.Value.nilFunc) 8 := ⟨Ty.of (by kernel_rfl)⟩
instance ty140 : TyC Try.prog 140 (Go.TypeDesc.func (Array.mk [143]) (Array.mk []) Bool.false) 1 (Go.Value.nilFunc) 8 := ⟨Ty.of (by kernel_rfl)⟩
instance ty141 : TyC Try.prog 141 (Go.TypeDesc.func (Array.mk [143]) (Array.mk []) Bool.false) 1 (Go.Value.nilFunc) 8 := ⟨Ty.of (by kernel_rfl)⟩
instance ty142 : TyC Try.prog 142 (Go.TypeDesc.func (Array.mk []) (Array.mk [141]) Bool.false) 1 (Go.Value.nilFunc) 8 := ⟨Ty.of (by kernel_rfl)⟩
instance ty143 : TyC Try.prog 143 (Go.TypeDesc.func (Array.mk [108]) (Array.mk [4]) Bool.false) 1 (Go.Value.nilFunc) 8 := ⟨Ty.of (by kernel_rfl)⟩
instance ty144 : TyC Try.prog 144 (Go.TypeDesc.func (Array.mk [108]) (Array.mk [119]) Bool.false) 1 (Go.Value.nilFunc) 8 := ⟨Ty.of (by kernel_rfl)⟩
instance ty145 : TyC Try.prog 145 (Go.TypeDesc.func (Array.mk [79]) (Array.mk [4]) Bool.false) 1 (Go.Value.nilFunc) 8 := ⟨Ty.of (by kernel_rfl)⟩
instance ty146 : TyC Try.prog 146 (Go.TypeDesc.func (Array.mk [33, 147]) (Array.mk [4]) Bool.false) 1 (Go.Value.nilFunc) 8 := ⟨Ty.of (by kernel_rfl)⟩
instance ty147 : TyC Try.prog 147 (Go.TypeDesc.func (Array.mk [51]) (Array.mk [4]) Bool.false) 1 (Go.Value.nilFunc) 8 := ⟨Ty.of (by kernel_rfl)⟩
instance ty148 : TyC Try.prog 148 (Go.TypeDesc.func (Array.mk [34, 149]) (Array.mk [4]) Bool.false) 1 (Go.Value.nilFunc) 8 := ⟨Ty.of (by kernel_rfl)⟩
instance ty149 : TyC Try.prog 149 (Go.TypeDesc.func (Array.mk [82]) (Array.mk [4]) Bool.false) 1 (Go.Value.nilFunc) 8 := ⟨Ty.of (by kernel_rfl)⟩
instance ty150 : TyC Try.prog 150 (Go.TypeDesc.func (Array.mk [35, 145]) (Array.mk [4]) Bool.false) 1 (Go.Value.nilFunc) 8 := ⟨Ty.of (by kernel_rfl)⟩
instance ty151 : TyC Try.prog 151 (Go.TypeDesc.map 153 3) 1 (Go.Value.map Option.none) 8 := ⟨Ty.of (by kernel_rfl)⟩
instance ty152 : TyC Try.prog 152 (Go.TypeDesc.struct (Array.mk [Go.Field.mk "clock" 3 0 Bool.false "" "posser/ticket" 0, Go.Field.mk "off" 3 1 Bool.false "" "posser/ticket" 8])) 2 (Go.Value.agg (Array.mk [Go.Value.int Go.IntKind.i64 (Int.ofNat 0), Go.Value.int Go.IntKind.i64 (Int.ofNat 0)])) 16 := ⟨Ty.of (by kernel_rfl)⟩
instance pl152 : PlC Try.prog 152 [(0, 1), (1, 1)] (Go.Value.agg (Array.mk [Go.Value.int Go.IntKind.i64 (Int.ofNat 0), Go.Value.int Go.IntKind.i64 (Int.ofNat 0)])) := PlC.of ty152.ty (by kernel_rfl)
instance ty153 : TyC Try.prog 153 (Go.TypeDesc.struct (Array.mk [Go.Field.mk "clock" 3 0 Bool.false "" "posser/ticket" 0, Go.Field.mk "off" 3 1 Bool.false "" "posser/ticket" 8])) 2 (Go.Value.agg (Array.mk [Go.Value.int Go.IntKind.i64 (Int.ofNat 0), Go.Value.int Go.IntKind.i64 (Int.ofNat 0)])) 16 := ⟨Ty.of (by kernel_rfl)⟩
instance pl153 : PlC Try.prog 153 [(0, 1), (1, 1)] (Go.Value.agg (Array.mk [Go.Value.int Go.IntKind.i64 (Int.ofNat 0), Go.Value.int Go.IntKind.i64 (Int.ofNat 0)])) := PlC.of ty153.ty (by kernel_rfl)
instance ty154 : TyC Try.prog 154 (Go.TypeDesc.func (Array.mk [160]) (Array.mk []) Bool.false) 1 (Go.Value.nilFunc) 8 := ⟨Ty.of (by kernel_rfl)⟩
instance ty155 : TyC Try.prog 155 (Go.TypeDesc.func (Array.mk [160]) (Array.mk []) Bool.false) 1 (Go.Value.nilFunc) 8 := ⟨Ty.of (by kernel_rfl)⟩
instance ty156 : TyC Try.prog 156 (Go.TypeDesc.func (Array.mk [3, 3]) (Array.mk [155]) Bool.false) 1 (Go.Value.nilFunc) 8 := ⟨Ty.of (by kernel_rfl)⟩
instance ty157 : TyC Try.prog 157 (Go.TypeDesc.func (Array.mk [27]) (Array.mk [37]) Bool.false) 1 (Go.Value.nilFunc) 8 := ⟨Ty.of (by kernel_rfl)⟩
instance ty158 : TyC Try.prog 158 (Go.TypeDesc.func (Array.mk [53]) (Array.mk [3]) Bool.false) 1 (Go.Value.nilFunc) 8 := ⟨Ty.of (by kernel_rfl)⟩
instance ty159 : TyC Try.prog 159 (Go.TypeDesc.pointer 116) 1 (Go.Value.pointer Option.none) 8 := ⟨Ty.of (by kernel_rfl)⟩
instance ty160 : TyC Try.prog 160 (Go.TypeDesc.func (Array.mk [27]) (Array.mk [4]) Bool.false) 1 (Go.Value.nilFunc) 8 := ⟨Ty.of (by kernel_rfl)⟩
instance ty161 : TyC Try.prog 161 (Go.TypeDesc.func (Array.mk [27, 3]) (Array.mk [4]) Bool.false) 1 (Go.Value.nilFunc) 8 := ⟨Ty.of (by kernel_rfl)⟩
instance ty162 : TyC Try.prog 162 (Go.TypeDesc.func (Array.mk []) (Array.mk [9]) Bool.false) 1 (Go.Value.nilFunc) 8 := ⟨Ty.of (by kernel_rfl)⟩
instance ty163 : TyC Try.prog 163 (Go.TypeDesc.struct (Array.mk [Go.Field.mk "_interface" 17 0 Bool.false "" "runtime" 0, Go.Field.mk "concrete" 17 1 Bool.false "" "runtime" 8, Go.Field.mk "asserted" 17 2 Bool.false "" "runtime" 16, Go.Field.mk "missingMethod" 9 3 Bool.false "" "runtime" 24])) 4 (Go.Value.agg (Array.mk [Go.Value.pointer Option.none, Go.Value.pointer Option.none, Go.Value.pointer Option.none, Go.Value.string (ByteArray.mk (Array.mk []))])) 40 := ⟨Ty.of (by kernel_rfl)⟩
instance pl163 : PlC Try.prog 163 [(0, 1), (1, 1), (2, 1), (3, 1)] (Go.Value.agg (Array.mk [Go.Value.pointer Option.none, Go.Value.pointer Option.none, Go.Value.pointer Option.none, Go.Value.string (ByteArray.mk (Array.mk []))])) := PlC.of ty163.ty (by kernel_rfl)
instance ty164 : TyC Try.prog 164 (Go.TypeDesc.struct (Array.mk [Go.Field.mk "_interface" 17 0 Bool.false "" "runtime" 0, Go.Field.mk "concrete" 17 1 Bool.false "" "runtime" 8, Go.Field.mk "asserted" 17 2 Bool.false "" "runtime" 16, Go.Field.mk "missingMethod" 9 3 Bool.false "" "runtime" 24])) 4 (Go.Value.agg (Array.mk [Go.Value.pointer Option.none, Go.Value.pointer Option.none, Go.Value.pointer Option.none, Go.Value.string (ByteArray.mk (Array.mk []))])) 40 := ⟨Ty.of (by kernel_rfl)⟩
instance pl164 : PlC Try.prog 164 [(0, 1), (1, 1), (2, 1), (3, 1)] (Go.Value.agg (Array.mk [Go.Value.pointer Option.none, Go.Value.pointer Option.none, Go.Value.pointer Option.none, Go.Value.string (ByteArray.mk (Array.mk []))])) := PlC.of ty164.ty (by kernel_rfl)
instance ty165 : TyC Try.prog 165 (Go.TypeDesc.array 0 16) 0 (Go.Value.agg (Array.mk [])) 0 := ⟨Ty.of (by kernel_rfl)⟩
instance ty166 : TyC Try.prog 166 (Go.TypeDesc.struct (Array.mk [Go.Field.mk "_" 165 0 Bool.false "" "runtime" 0])) 0 (Go.Value.agg (Array.mk [])) 0 := ⟨Ty.of (by kernel_rfl)⟩
instance pl166 : PlC Try.prog 166 [(0, 0)] (Go.Value.agg (Array.mk [])) := PlC.of ty166.ty (by kernel_rfl)
instance ty167 : TyC Try.prog 167 (Go.TypeDesc.struct (Array.mk [Go.Field.mk "_" 165 0 Bool.false "" "runtime" 0])) 0 (Go.Value.agg (Array.mk [])) 0 := ⟨Ty.of (by kernel_rfl)⟩
instance pl167 : PlC Try.prog 167 [(0, 0)] (Go.Value.agg (Array.mk [])) := PlC.of ty167.ty (by kernel_rfl)
instance ty168 : TyC Try.prog 168 (Go.TypeDesc.int Go.IntKind.u32) 1 (Go.Value.int Go.IntKind.u32 (Int.ofNat 0)) 4 := ⟨Ty.of (by kernel_rfl)⟩
instance ty169 : TyC Try.prog 169 (Go.TypeDesc.int Go.IntKind.u8) 1 (Go.Value.int Go.IntKind.u8 (Int.ofNat 0)) 1 := ⟨Ty.of (by kernel_rfl)⟩
instance ty170 : TyC Try.prog 170 (Go.TypeDesc.int Go.IntKind.u8) 1 (Go.Value.int Go.IntKind.u8 (Int.ofNat 0)) 1 := ⟨Ty.of (by kernel_rfl)⟩
instance ty171 : TyC Try.prog 171 (Go.TypeDesc.func (Array.mk [177, 177]) (Array.mk [4]) Bool.false) 1 (Go.Value.nilFunc) 8 := ⟨Ty.of (by kernel_rfl)⟩
instance ty172 : TyC Try.prog 172 (Go.TypeDesc.pointer 5) 1 (Go.Value.pointer Option.none) 8 := ⟨Ty.of (by kernel_rfl)⟩
instance ty173 : TyC Try.prog 173 (Go.TypeDesc.int Go.IntKind.i32) 1 (Go.Value.int Go.IntKind.i32 (Int.ofNat 0)) 4 := ⟨Ty.of (by kernel_rfl)⟩
instance ty174 : TyC Try.prog 174 (Go.TypeDesc.int Go.IntKind.i32) 1 (Go.Value.int Go.IntKind.i32 (Int.ofNat 0)) 4 := ⟨Ty.of (by kernel_rfl)⟩
instance ty175 : TyC Try.prog 175 (Go.TypeDesc.struct (Array.mk [Go.Field.mk "Size_" 12 0 Bool.false "" "" 0, Go.Field.mk "PtrBytes" 12 1 Bool.false "" "" 8, Go.Field.mk "Hash" 168 2 Bool.false "" "" 16, Go.Field.mk "TFlag" 169 3 Bool.false "" "" 20, Go.Field.mk "Align_" 5 4 Bool.false "" "" 21, Go.Field.mk "FieldAlign_" 5 5 Bool.false "" "" 22, Go.Field.mk "Kind_" 170 6 Bool.false "" "" 23, Go.Field.mk "Equal" 171 7 Bool.false "" "" 24, Go.Field.mk "GCData" 172 8 Bool.false "" "" 32, Go.Field.mk "Str" 173 9 Bool.false "" "" 40, Go.Field.mk "PtrToThis" 174 10 Bool.false "" "" 44])) 11 (Go.Value.agg (Array.mk [Go.Value.int Go.IntKind.u64 (Int.ofNat 0), Go.Value.int Go.IntKind.u64 (Int.ofNat 0), Go.Value.int Go.IntKind.u32 (Int.ofNat 0), Go.Value.int Go.IntKind.u8 (Int.ofNat 0), Go.Value.int Go.IntKind.u8 (Int.ofNat 0), Go.Value.int Go.IntKind.u8 (Int.ofNat 0), Go.Value.int Go.IntKind.u8 (Int.ofNat 0), Go.Value.nilFunc, Go.Value.pointer Option.none, Go.Value.int Go.IntKind.i32 (Int.ofNat 0), Go.Value.int Go.IntKind.i32 (Int.ofNat 0)])) 48 := ⟨Ty.of (by kernel_rfl)⟩
instance pl175 : PlC Try.prog 175 [(0, 1), (1, 1), (2, 1), (3, 1), (4, 1), (5, 1), (6, 1), (7, 1), (8, 1), (9, 1), (10, 1)] (Go.Value.agg (Array.mk [Go.Value.int Go.IntKind.u64 (Int.ofNat 0), Go.Value.int Go.IntKind.u64 (Int.ofNat 0), Go.Value.int Go.IntKind.u32 (Int.ofNat 0), Go.Value.int Go.IntKind.u8 (Int.ofNat 0), Go.Value.int Go.IntKind.u8 (Int.ofNat 0), Go.Value.int Go.IntKind.u8 (Int.ofNat 0), Go.Value.int Go.IntKind.u8 (Int.ofNat 0), Go.Value.nilFunc, Go.Value.pointer Option.none, Go.Value.int Go.IntKind.i32 (Int.ofNat 0), Go.Value.int Go.IntKind.i32 (Int.ofNat 0)])) := PlC.of ty175.ty (by kernel_rfl)
instance ty176 : TyC Try.prog 176 (Go.TypeDesc.struct (Array.mk [Go.Field.mk "Size_" 12 0 Bool.false "" "" 0, Go.Field.mk "PtrBytes" 12 1 Bool.false "" "" 8, Go.Field.mk "Hash" 168 2 Bool.false "" "" 16, Go.Field.mk "TFlag" 169 3 Bool.false "" "" 20, Go.Field.mk "Align_" 5 4 Bool.false "" "" 21, Go.Field.mk "FieldAlign_" 5 5 Bool.false "" "" 22, Go.Field.mk "Kind_" 170 6 Bool.false "" "" 23, Go.Field.mk "Equal" 171 7 Bool.false "" "" 24, Go.Field.mk "GCData" 172 8 Bool.false "" "" 32, Go.Field.mk "Str" 173 9 Bool.false "" "" 40, Go.Field.mk "PtrToThis" 174 10 Bool.false "" "" 44])) 11 (Go.Value.agg (Array.mk [Go.Value.int Go.IntKind.u64 (Int.ofNat 0), Go.Value.int Go.IntKind.u64 (Int.ofNat 0), Go.Value.int Go.IntKind.u32 (Int.ofNat 0), Go.Value.int Go.IntKind.u8 (Int.ofNat 0), Go.Value.int Go.IntKind.u8 (Int.ofNat 0), Go.Value.int Go.IntKind.u8 (Int.ofNat 0), Go.Value.int Go.IntKind.u8 (Int.ofNat 0), Go.Value.nilFunc, Go.Value.pointer Option.none, Go.Value.int Go.IntKind.i32 (Int.ofNat 0), Go.Value.int Go.IntKind.i32 (Int.ofNat 0)])) 48 := ⟨Ty.of (by kernel_rfl)⟩
instance pl176 : PlC Try.prog 176 [(0, 1), (1, 1), (2, 1), (3, 1), (4, 1), (5, 1), (6, 1), (7, 1), (8, 1), (9, 1), (10, 1)] (Go.Value.agg (Array.mk [Go.Value.int Go.IntKind.u64 (Int.ofNat 0), Go.Value.int Go.IntKind.u64 (Int.ofNat 0), Go.Value.int Go.IntKind.u32 (Int.ofNat 0), Go.Value.int Go.IntKind.u8 (Int.ofNat 0), Go.Value.int Go.IntKind.u8 (Int.ofNat 0), Go.Value.int Go.IntKind.u8 (Int.ofNat 0), Go.Value.int Go.IntKind.u8 (Int.ofNat 0), Go.Value.nilFunc, Go.Value.pointer Option.none, Go.Value.int Go.IntKind.i32 (Int.ofNat 0), Go.Value.int Go.IntKind.i32 (Int.ofNat 0)])) := PlC.of ty176.ty (by kernel_rfl)
instance ty177 : TyC Try.prog 177 (Go.TypeDesc.unsafePointer) 1 (Go.Value.pointer Option.none) 8 := ⟨Ty.of (by kernel_rfl)⟩
instance ent3 : EntC Try.prog 3 := ⟨Enters.of Try.func3 (by kernel_rfl) (by kernel_rfl)⟩
instance ent4 : EntC Try.prog 4 := ⟨Enters.of Try.func4 (by kernel_rfl) (by kernel_rfl)⟩
instance ent5 : EntC Try.prog 5 := ⟨Enters.of Try.func5 (by kernel_rfl) (by kernel_rfl)⟩
instance ent6 : EntC Try.prog 6 := ⟨Enters.of Try.func6 (by kernel_rfl) (by kernel_rfl)⟩
instance ent7 : EntC Try.prog 7 := ⟨Enters.of Try.func7 (by kernel_rfl) (by kernel_rfl)⟩
instance ent8 : EntC Try.prog 8 := ⟨Enters.of Try.func8 (by kernel_rfl) (by kernel_rfl)⟩
instance ent9 : EntC Try.prog 9 := ⟨Enters.of Try.func9 (by kernel_rfl) (by kernel_rfl)⟩
instance ent10 : EntC Try.prog 10 := ⟨Enters.of Try.func10 (by kernel_rfl) (by kernel_rfl)⟩
instance ent11 : EntC Try.prog 11 := ⟨Enters.of Try.func11 (by kernel_rfl) (by kernel_rfl)⟩
instance ent12 : EntC Try.prog 12 := ⟨Enters.of Try.func12 (by kernel_rfl) (by kernel_rfl)⟩
instance ent13 : EntC Try.prog 13 := ⟨Enters.of Try.func13 (by kernel_rfl) (by kernel_rfl)⟩
instance ent14 : EntC Try.prog 14 := ⟨Enters.of Try.func14 (by kernel_rfl) (by kernel_rfl)⟩
instance ent15 : EntC Try.prog 15 := ⟨Enters.of Try.func15 (by kernel_rfl) (by kernel_rfl)⟩
instance ent16 : EntC Try.prog 16 := ⟨Enters.of Try.func16 (by kernel_rfl) (by kernel_rfl)⟩
instance ent17 : EntC Try.prog 17 := ⟨Enters.of Try.func17 (by kernel_rfl) (by kernel_rfl)⟩
instance ent18 : EntC Try.prog 18 := ⟨Enters.of Try.func18 (by kernel_rfl) (by kernel_rfl)⟩
instance ent19 : EntC Try.prog 19 := ⟨Enters.of Try.func19 (by kernel_rfl) (by kernel_rfl)⟩
instance ent20 : EntC Try.prog 20 := ⟨Enters.of Try.func20 (by kernel_rfl) (by kernel_rfl)⟩
instance ent21 : EntC Try.prog 21 := ⟨Enters.of Try.func21 (by kernel_rfl) (by kernel_rfl)⟩
instance ent22 : EntC Try.prog 22 := ⟨Enters.of Try.func22 (by kernel_rfl) (by kernel_rfl)⟩
instance ent23 : EntC Try.prog 23 := ⟨Enters.of Try.func23 (by kernel_rfl) (by kernel_rfl)⟩
instance ent24 : EntC Try.prog 24 := ⟨Enters.of Try.func24 (by kernel_rfl) (by kernel_rfl)⟩
instance ent25 : EntC Try.prog 25 := ⟨Enters.of Try.func25 (by kernel_rfl) (by kernel_rfl)⟩
instance ent26 : EntC Try.prog 26 := ⟨Enters.of Try.func26 (by kernel_rfl) (by kernel_rfl)⟩
instance ent27 : EntC Try.prog 27 := ⟨Enters.of Try.func27 (by kernel_rfl) (by kernel_rfl)⟩
instance ent28 : EntC Try.prog 28 := ⟨Enters.of Try.func28 (by kernel_rfl) (by kernel_rfl)⟩
instance ent29 : EntC Try.prog 29 := ⟨Enters.of Try.func29 (by kernel_rfl) (by kernel_rfl)⟩
instance ent30 : EntC Try.prog 30 := ⟨Enters.of Try.func30 (by kernel_rfl) (by kernel_rfl)⟩
instance ent31 : EntC Try.prog 31 := ⟨Enters.of Try.func31 (by kernel_rfl) (by kernel_rfl)⟩
instance ent32 : EntC Try.prog 32 := ⟨Enters.of Try.func32 (by kernel_rfl) (by kernel_rfl)⟩
instance ent33 : EntC Try.prog 33 := ⟨Enters.of Try.func33 (by kernel_rfl) (by kernel_rfl)⟩
instance ent34 : EntC Try.prog 34 := ⟨Enters.of Try.func34 (by kernel_rfl) (by kernel_rfl)⟩
instance ent35 : EntC Try.prog 35 := ⟨Enters.of Try.func35 (by kernel_rfl) (by kernel_rfl)⟩
instance ent36 : EntC Try.prog 36 := ⟨Enters.of Try.func36 (by kernel_rfl) (by kernel_rfl)⟩
instance ent37 : EntC Try.prog 37 := ⟨Enters.of Try.func37 (by kernel_rfl) (by kernel_rfl)⟩
instance ent38 : EntC Try.prog 38 := ⟨Enters.of Try.func38 (by kernel_rfl) (by kernel_rfl)⟩
instance ent39 : EntC Try.prog 39 := ⟨Enters.of Try.func39 (by kernel_rfl) (by kernel_rfl)⟩
instance ent40 : EntC Try.prog 40 := ⟨Enters.of Try.func40 (by kernel_rfl) (by kernel_rfl)⟩
instance ent41 : EntC Try.prog 41 := ⟨Enters.of Try.func41 (by kernel_rfl) (by kernel_rfl)⟩
instance ent42 : EntC Try.prog 42 := ⟨Enters.of Try.func42 (by kernel_rfl) (by kernel_rfl)⟩
instance ent43 : EntC Try.prog 43 := ⟨Enters.of Try.func43 (by kernel_rfl) (by kernel_rfl)⟩
instance ent44 : EntC Try.prog 44 := ⟨Enters.of Try.func44 (by kernel_rfl) (by kernel_rfl)⟩
instance ent45 : EntC Try.prog 45 := ⟨Enters.of Try.func45 (by kernel_rfl) (by kernel_rfl)⟩
instance ent46 : EntC Try.prog 46 := ⟨Enters.of Try.func46 (by kernel_rfl) (by kernel_rfl)⟩
instance ent47 : EntC Try.prog 47 := ⟨Enters.of Try.func47 (by kernel_rfl) (by kernel_rfl)⟩
instance ent48 : EntC Try.prog 48 := ⟨Enters.of Try.func48 (by kernel_rfl) (by kernel_rfl)⟩
instance ent49 : EntC Try.prog 49 := ⟨Enters.of Try.func49 (by kernel_rfl) (by kernel_rfl)⟩
instance ent50 : EntC Try.prog 50 := ⟨Enters.of Try.func50 (by kernel_rfl) (by kernel_rfl)⟩
instance ent51 : EntC Try.prog 51 := ⟨Enters.of Try.func51 (by kernel_rfl) (by kernel_rfl)⟩
instance ent52 : EntC Try.prog 52 := ⟨Enters.of Try.func52 (by kernel_rfl) (by kernel_rfl)⟩
instance ent53 : EntC Try.prog 53 := ⟨Enters.of Try.func53 (by kernel_rfl) (by kernel_rfl)⟩
instance ent54 : EntC Try.prog 54 := ⟨Enters.of Try.func54 (by kernel_rfl) (by kernel_rfl)⟩
instance ent55 : EntC Try.prog 55 := ⟨Enters.of Try.func55 (by kernel_rfl) (by kernel_rfl)⟩
instance ent56 : EntC Try.prog 56 := ⟨Enters.of Try.func56 (by kernel_rfl) (by kernel_rfl)⟩
instance ent57 : EntC Try.prog 57 := ⟨Enters.of Try.func57 (by kernel_rfl) (by kernel_rfl)⟩
instance ent58 : EntC Try.prog 58 := ⟨Enters.of Try.func58 (by kernel_rfl) (by kernel_rfl)⟩
instance ent59 : EntC Try.prog 59 := ⟨Enters.of Try.func59 (by kernel_rfl) (by kernel_rfl)⟩
instance ent60 : EntC Try.prog 60 := ⟨Enters.of Try.func60 (by kernel_rfl) (by kernel_rfl)⟩
instance ent61 : EntC Try.prog 61 := ⟨Enters.of Try.func61 (by kernel_rfl) (by kernel_rfl)⟩
instance ent62 : EntC Try.prog 62 := ⟨Enters.of Try.func62 (by kernel_rfl) (by kernel_rfl)⟩
instance ent63 : EntC Try.prog 63 := ⟨Enters.of Try.func63 (by kernel_rfl) (by kernel_rfl)⟩
instance ent64 : EntC Try.prog 64 := ⟨Enters.of Try.func64 (by kernel_rfl) (by kernel_rfl)⟩
instance ent65 : EntC Try.prog 65 := ⟨Enters.of Try.func65 (by kernel_rfl) (by kernel_rfl)⟩
instance ent66 : EntC Try.prog 66 := ⟨Enters.of Try.func66 (by kernel_rfl) (by kernel_rfl)⟩
instance ent67 : EntC Try.prog 67 := ⟨Enters.of Try.func67 (by kernel_rfl) (by kernel_rfl)⟩
instance ent68 : EntC Try.prog 68 := ⟨Enters.of Try.func68 (by kernel_rfl) (by kernel_rfl)⟩
instance ent69 : EntC Try.prog 69 := ⟨Enters.of Try.func69 (by kernel_rfl) (by kernel_rfl)⟩
instance ent70 : EntC Try.prog 70 := ⟨Enters.of Try.func70 (by kernel_rfl) (by kernel_rfl)⟩
instance ent71 : EntC Try.prog 71 := ⟨Enters.of Try.func71 (by kernel_rfl) (by kernel_rfl)⟩
instance ent72 : EntC Try.prog 72 := ⟨Enters.of Try.func72 (by kernel_rfl) (by kernel_rfl)⟩
instance ent73 : EntC Try.prog 73 := ⟨Enters.of Try.func73 (by kernel_rfl) (by kernel_rfl)⟩
instance ent74 : EntC Try.prog 74 := ⟨Enters.of Try.func74 (by kernel_rfl) (by kernel_rfl)⟩
instance ent75 : EntC Try.prog 75 := ⟨Enters.of Try.func75 (by kernel_rfl) (by kernel_rfl)⟩
instance ent76 : EntC Try.prog 76 := ⟨Enters.of Try.func76 (by kernel_rfl) (by kernel_rfl)⟩
instance ent77 : EntC Try.prog 77 := ⟨Enters.of Try.func77 (by kernel_rfl) (by kernel_rfl)⟩
instance ent78 : EntC Try.prog 78 := ⟨Enters.of Try.func78 (by kernel_rfl) (by kernel_rfl)⟩
instance ent79 : EntC Try.prog 79 := ⟨Enters.of Try.func79 (by kernel_rfl) (by kernel_rfl)⟩
instance ent80 : EntC Try.prog 80 := ⟨Enters.of Try.func80 (by kernel_rfl) (by kernel_rfl)⟩
instance ent81 : EntC Try.prog 81 := ⟨Enters.of Try.func81 (by kernel_rfl) (by kernel_rfl)⟩
instance ent82 : EntC Try.prog 82 := ⟨Enters.of Try.func82 (by kernel_rfl) (by kernel_rfl)⟩
instance ent83 : EntC Try.prog 83 := ⟨Enters.of Try.func83 (by kernel_rfl) (by kernel_rfl)⟩
instance ent84 : EntC Try.prog 84 := ⟨Enters.of Try.func84 (by kernel_rfl) (by kernel_rfl)⟩
instance ent85 : EntC Try.prog 85 := ⟨Enters.of Try.func85 (by kernel_rfl) (by kernel_rfl)⟩
instance ent86 : EntC Try.prog 86 := ⟨Enters.of Try.func86 (by kernel_rfl) (by kernel_rfl)⟩
instance ent87 : EntC Try.prog 87 := ⟨Enters.of Try.func87 (by kernel_rfl) (by kernel_rfl)⟩
instance ent88 : EntC Try.prog 88 := ⟨Enters.of Try.func88 (by kernel_rfl) (by kernel_rfl)⟩
instance ent89 : EntC Try.prog 89 := ⟨Enters.of Try.func89 (by kernel_rfl) (by kernel_rfl)⟩
instance ent90 : EntC Try.prog 90 := ⟨Enters.of Try.func90 (by kernel_rfl) (by kernel_rfl)⟩
instance ent91 : EntC Try.prog 91 := ⟨Enters.of Try.func91 (by kernel_rfl) (by kernel_rfl)⟩
instance ent92 : EntC Try.prog 92 := ⟨Enters.of Try.func92 (by kernel_rfl) (by kernel_rfl)⟩
instance ent93 : EntC Try.prog 93 := ⟨Enters.of Try.func93 (by kernel_rfl) (by kernel_rfl)⟩
instance ent94 : EntC Try.prog 94 := ⟨Enters.of Try.func94 (by kernel_rfl) (by kernel_rfl)⟩
instance ent95 : EntC Try.prog 95 := ⟨Enters.of Try.func95 (by kernel_rfl) (by kernel_rfl)⟩
instance ent96 : EntC Try.prog 96 := ⟨Enters.of Try.func96 (by kernel_rfl) (by kernel_rfl)⟩
instance ent97 : EntC Try.prog 97 := ⟨Enters.of Try.func97 (by kernel_rfl) (by kernel_rfl)⟩
instance ent98 : EntC Try.prog 98 := ⟨Enters.of Try.func98 (by kernel_rfl) (by kernel_rfl)⟩
instance ent99 : EntC Try.prog 99 := ⟨Enters.of Try.func99 (by kernel_rfl) (by kernel_rfl)⟩
instance ent100 : EntC Try.prog 100 := ⟨Enters.of Try.func100 (by kernel_rfl) (by kernel_rfl)⟩
instance ent101 : EntC Try.prog 101 := ⟨Enters.of Try.func101 (by kernel_rfl) (by kernel_rfl)⟩
instance ent102 : EntC Try.prog 102 := ⟨Enters.of Try.func102 (by kernel_rfl) (by kernel_rfl)⟩
instance ent103 : EntC Try.prog 103 := ⟨Enters.of Try.func103 (by kernel_rfl) (by kernel_rfl)⟩
instance ent104 : EntC Try.prog 104 := ⟨Enters.of Try.func104 (by kernel_rfl) (by kernel_rfl)⟩
instance ent105 : EntC Try.prog 105 := ⟨Enters.of Try.func105 (by kernel_rfl) (by kernel_rfl)⟩
instance ent106 : EntC Try.prog 106 := ⟨Enters.of Try.func106 (by kernel_rfl) (by kernel_rfl)⟩
instance ent107 : EntC Try.prog 107 := ⟨Enters.of Try.func107 (by kernel_rfl) (by kernel_rfl)⟩
instance ent108 : EntC Try.prog 108 := ⟨Enters.of Try.func108 (by kernel_rfl) (by kernel_rfl)⟩
instance ent109 : EntC Try.prog 109 := ⟨Enters.of Try.func109 (by kernel_rfl) (by kernel_rfl)⟩
instance ent110 : EntC Try.prog 110 := ⟨Enters.of Try.func110 (by kernel_rfl) (by kernel_rfl)⟩
instance ent111 : EntC Try.prog 111 := ⟨Enters.of Try.func111 (by kernel_rfl) (by kernel_rfl)⟩
instance ent112 : EntC Try.prog 112 := ⟨Enters.of Try.func112 (by kernel_rfl) (by kernel_rfl)⟩
instance ent113 : EntC Try.prog 113 := ⟨Enters.of Try.func113 (by kernel_rfl) (by kernel_rfl)⟩
instance ent114 : EntC Try.prog 114 := ⟨Enters.of Try.func114 (by kernel_rfl) (by kernel_rfl)⟩
instance ent115 : EntC Try.prog 115 := ⟨Enters.of Try.func115 (by kernel_rfl) (by kernel_rfl)⟩
instance ent116 : EntC Try.prog 116 := ⟨Enters.of Try.func116 (by kernel_rfl) (by kernel_rfl)⟩
instance ent117 : EntC Try.prog 117 := ⟨Enters.of Try.func117 (by kernel_rfl) (by kernel_rfl)⟩
instance ent118 : EntC Try.prog 118 := ⟨Enters.of Try.func118 (by kernel_rfl) (by kernel_rfl)⟩
instance ent119 : EntC Try.prog 119 := ⟨Enters.of Try.func119 (by kernel_rfl) (by kernel_rfl)⟩
instance ent120 : EntC Try.prog 120 := ⟨Enters.of Try.func120 (by kernel_rfl) (by kernel_rfl)⟩
instance ent121 : EntC Try.prog 121 := ⟨Enters.of Try.func121 (by kernel_rfl) (by kernel_rfl)⟩
instance ent122 : EntC Try.prog 122 := ⟨Enters.of Try.func122 (by kernel_rfl) (by kernel_rfl)⟩
instance ent123 : EntC Try.prog 123 := ⟨Enters.of Try.func123 (by kernel_rfl) (by kernel_rfl)⟩
instance ent124 : EntC Try.prog 124 := ⟨Enters.of Try.func124 (by kernel_rfl) (by kernel_rfl)⟩
instance ent125 : EntC Try.prog 125 := ⟨Enters.of Try.func125 (by kernel_rfl) (by kernel_rfl)⟩
instance ent126 : EntC Try.prog 126 := ⟨Enters.of Try.func126 (by kernel_rfl) (by kernel_rfl)⟩
instance ent127 : EntC Try.prog 127 := ⟨Enters.of Try.func127 (by kernel_rfl) (by kernel_rfl)⟩
instance ent128 : EntC Try.prog 128 := ⟨Enters.of Try.func128 (by kernel_rfl) (by kernel_rfl)⟩
instance ent129 : EntC Try.prog 129 := ⟨Enters.of Try.func129 (by kernel_rfl) (by kernel_rfl)⟩
instance ent130 : EntC Try.prog 130 := ⟨Enters.of Try.func130 (by kernel_rfl) (by kernel_rfl)⟩
instance ent131 : EntC Try.prog 131 := ⟨Enters.of Try.func131 (by kernel_rfl) (by kernel_rfl)⟩
instance ent132 : EntC Try.prog 132 := ⟨Enters.of Try.func132 (by kernel_rfl) (by kernel_rfl)⟩
instance ent133 : EntC Try.prog 133 := ⟨Enters.of Try.func133 (by kernel_rfl) (by kernel_rfl)⟩
instance ent134 : EntC Try.prog 134 := ⟨Enters.of Try.func134 (by kernel_rfl) (by kernel_rfl)⟩
instance ent135 : EntC Try.prog 135 := ⟨Enters.of Try.func135 (by kernel_rfl) (by kernel_rfl)⟩
instance ent136 : EntC Try.prog 136 := ⟨Enters.of Try.func136 (by kernel_rfl) (by kernel_rfl)⟩
instance ent137 : EntC Try.prog 137 := ⟨Enters.of Try.func137 (by kernel_rfl) (by kernel_rfl)⟩
instance ent138 : EntC Try.prog 138 := ⟨Enters.of Try.func138 (by kernel_rfl) (by kernel_rfl)⟩
instance ent139 : EntC Try.prog 139 := ⟨Enters.of Try.func139 (by kernel_rfl) (by kernel_rfl)⟩
instance ent140 : EntC Try.prog 140 := ⟨Enters.of Try.func140 (by kernel_rfl) (by kernel_rfl)⟩
instance fa7_0 : FaC Try.prog 7 0 0 := FaC.of ty7.ty rfl ty2.ty (by decide) rfl
instance fd7_0 : FdC Try.prog 7 0 0 false 1 := FdC.of ty7.ty rfl ty2.ty rfl rfl
instance fa7_1 : FaC Try.prog 7 1 1 := FaC.of ty7.ty rfl ty3.ty (by decide) rfl
instance fd7_1 : FdC Try.prog 7 1 1 false 1 := FdC.of ty7.ty rfl ty3.ty rfl rfl
instance fa7_2 : FaC Try.prog 7 2 2 := FaC.of ty7.ty rfl ty4.ty (by decide) rfl
instance fd7_2 : FdC Try.prog 7 2 2 false 1 := FdC.of ty7.ty rfl ty4.ty rfl rfl
instance fa7_3 : FaC Try.prog 7 3 3 := FaC.of ty7.ty rfl ty6.ty (by decide) rfl
instance fd7_3 : FdC Try.prog 7 3 3 false 1 := FdC.of ty7.ty rfl ty6.ty rfl rfl
instance fa8_0 : FaC Try.prog 8 0 0 := FaC.of ty8.ty rfl ty2.ty (by decide) rfl
instance fd8_0 : FdC Try.prog 8 0 0 false 1 := FdC.of ty8.ty rfl ty2.ty rfl rfl
instance fa8_1 : FaC Try.prog 8 1 1 := FaC.of ty8.ty rfl ty3.ty (by decide) rfl
instance fd8_1 : FdC Try.prog 8 1 1 false 1 := FdC.of ty8.ty rfl ty3.ty rfl rfl
instance fa8_2 : FaC Try.prog 8 2 2 := FaC.of ty8.ty rfl ty4.ty (by decide) rfl
instance fd8_2 : FdC Try.prog 8 2 2 false 1 := FdC.of ty8.ty rfl ty4.ty rfl rfl
instance fa8_3 : FaC Try.prog 8 3 3 := FaC.of ty8.ty rfl ty6.ty (by decide) rfl
instance fd8_3 : FdC Try.prog 8 3 3 false 1 := FdC.of ty8.ty rfl ty6.ty rfl rfl
instance fa13_0 : FaC Try.prog 13 0 0 := FaC.of ty13.ty rfl ty9.ty (by decide) rfl
instance fd13_0 : FdC Try.prog 13 0 0 false 1 := FdC.of ty13.ty rfl ty9.ty rfl rfl
instance fa13_1 : FaC Try.prog 13 1 1 := FaC.of ty13.ty rfl ty12.ty (by decide) rfl
instance fd13_1 : FdC Try.prog 13 1 1 false 1 := FdC.of ty13.ty rfl ty12.ty rfl rfl
instance fa14_0 : FaC Try.prog 14 0 0 := FaC.of ty14.ty rfl ty9.ty (by decide) rfl
instance fd14_0 : FdC Try.prog 14 0 0 false 1 := FdC.of ty14.ty rfl ty9.ty rfl rfl
instance fa14_1 : FaC Try.prog 14 1 1 := FaC.of ty14.ty rfl ty12.ty (by decide) rfl
instance fd14_1 : FdC Try.prog 14 1 1 false 1 := FdC.of ty14.ty rfl ty12.ty rfl rfl
instance fa18_0 : FaC Try.prog 18 0 0 := FaC.of ty18.ty rfl ty17.ty (by decide) rfl
instance fd18_0 : FdC Try.prog 18 0 0 false 1 := FdC.of ty18.ty rfl ty17.ty rfl rfl
instance fa19_0 : FaC Try.prog 19 0 0 := FaC.of ty19.ty rfl ty17.ty (by decide) rfl
instance fd19_0 : FdC Try.prog 19 0 0 false 1 := FdC.of ty19.ty rfl ty17.ty rfl rfl
instance fa25_0 : FaC Try.prog 25 0 0 := FaC.of ty25.ty rfl ty3.ty (by decide) rfl
instance fd25_0 : FdC Try.prog 25 0 0 false 1 := FdC.of ty25.ty rfl ty3.ty rfl rfl
instance fa25_1 : FaC Try.prog 25 1 1 := FaC.of ty25.ty rfl ty3.ty (by decide) rfl
instance fd25_1 : FdC Try.prog 25 1 1 false 1 := FdC.of ty25.ty rfl ty3.ty rfl rfl
instance fa25_2 : FaC Try.prog 25 2 2 := FaC.of ty25.ty rfl ty22.ty (by decide) rfl
instance fd25_2 : FdC Try.prog 25 2 2 false 1 := FdC.of ty25.ty rfl ty22.ty rfl rfl
instance fa25_3 : FaC Try.prog 25 3 3 := FaC.of ty25.ty rfl ty23.ty (by decide) rfl
instance fd25_3 : FdC Try.prog 25 3 3 false 1 := FdC.of ty25.ty rfl ty23.ty rfl rfl
instance fa25_4 : FaC Try.prog 25 4 4 := FaC.of ty25.ty rfl ty24.ty (by decide) rfl
instance fd25_4 : FdC Try.prog 25 4 4 false 1 := FdC.of ty25.ty rfl ty24.ty rfl rfl
instance fa26_0 : FaC Try.prog 26 0 0 := FaC.of ty26.ty rfl ty3.ty (by decide) rfl
instance fd26_0 : FdC Try.prog 26 0 0 false 1 := FdC.of ty26.ty rfl ty3.ty rfl rfl
instance fa26_1 : FaC Try.prog 26 1 1 := FaC.of ty26.ty rfl ty3.ty (by decide) rfl
instance fd26_1 : FdC Try.prog 26 1 1 false 1 := FdC.of ty26.ty rfl ty3.ty rfl rfl
instance fa26_2 : FaC Try.prog 26 2 2 := FaC.of ty26.ty rfl ty22.ty (by decide) rfl
instance fd26_2 : FdC Try.prog 26 2 2 false 1 := FdC.of ty26.ty rfl ty22.ty rfl rfl
instance fa26_3 : FaC Try.prog 26 3 3 := FaC.of ty26.ty rfl ty23.ty (by decide) rfl
instance fd26_3 : FdC Try.prog 26 3 3 false 1 := FdC.of ty26.ty rfl ty23.ty rfl rfl
instance fa26_4 : FaC Try.prog 26 4 4 := FaC.of ty26.ty rfl ty24.ty (by decide) rfl
instance fd26_4 : FdC Try.prog 26 4 4 false 1 := FdC.of ty26.ty rfl ty24.ty rfl rfl
instance fa36_0 : FaC Try.prog 36 0 0 := FaC.of ty36.ty rfl ty3.ty (by decide) rfl
instance fd36_0 : FdC Try.prog 36 0 0 false 1 := FdC.of ty36.ty rfl ty3.ty rfl rfl
instance fa36_1 : FaC Try.prog 36 1 1 := FaC.of ty36.ty rfl ty3.ty (by decide) rfl
instance fd36_1 : FdC Try.prog 36 1 1 false 1 := FdC.of ty36.ty rfl ty3.ty rfl rfl
instance fa36_2 : FaC Try.prog 36 2 2 := FaC.of ty36.ty rfl ty33.ty (by decide) rfl
instance fd36_2 : FdC Try.prog 36 2 2 false 1 := FdC.of ty36.ty rfl ty33.ty rfl rfl
instance fa36_3 : FaC Try.prog 36 3 3 := FaC.of ty36.ty rfl ty34.ty (by decide) rfl
instance fd36_3 : FdC Try.prog 36 3 3 false 1 := FdC.of ty36.ty rfl ty34.ty rfl rfl
instance fa36_4 : FaC Try.prog 36 4 4 := FaC.of ty36.ty rfl ty35.ty (by decide) rfl
instance fd36_4 : FdC Try.prog 36 4 4 false 1 := FdC.of ty36.ty rfl ty35.ty rfl rfl
instance fa37_0 : FaC Try.prog 37 0 0 := FaC.of ty37.ty rfl ty3.ty (by decide) rfl
instance fd37_0 : FdC Try.prog 37 0 0 false 1 := FdC.of ty37.ty rfl ty3.ty rfl rfl
instance fa37_1 : FaC Try.prog 37 1 1 := FaC.of ty37.ty rfl ty3.ty (by decide) rfl
instance fd37_1 : FdC Try.prog 37 1 1 false 1 := FdC.of ty37.ty rfl ty3.ty rfl rfl
instance fa37_2 : FaC Try.prog 37 2 2 := FaC.of ty37.ty rfl ty33.ty (by decide) rfl
instance fd37_2 : FdC Try.prog 37 2 2 false 1 := FdC.of ty37.ty rfl ty33.ty rfl rfl
instance fa37_3 : FaC Try.prog 37 3 3 := FaC.of ty37.ty rfl ty34.ty (by decide) rfl
instance fd37_3 : FdC Try.prog 37 3 3 false 1 := FdC.of ty37.ty rfl ty34.ty rfl rfl
instance fa37_4 : FaC Try.prog 37 4 4 := FaC.of ty37.ty rfl ty35.ty (by decide) rfl
instance fd37_4 : FdC Try.prog 37 4 4 false 1 := FdC.of ty37.ty rfl ty35.ty rfl rfl
instance fa50_0 : FaC Try.prog 50 0 0 := FaC.of ty50.ty rfl ty3.ty (by decide) rfl
instance fd50_0 : FdC Try.prog 50 0 0 false 1 := FdC.of ty50.ty rfl ty3.ty rfl rfl
instance fa50_1 : FaC Try.prog 50 1 1 := FaC.of ty50.ty rfl ty3.ty (by decide) rfl
instance fd50_1 : FdC Try.prog 50 1 1 false 1 := FdC.of ty50.ty rfl ty3.ty rfl rfl
instance fa51_0 : FaC Try.prog 51 0 0 := FaC.of ty51.ty rfl ty3.ty (by decide) rfl
instance fd51_0 : FdC Try.prog 51 0 0 false 1 := FdC.of ty51.ty rfl ty3.ty rfl rfl
instance fa51_1 : FaC Try.prog 51 1 1 := FaC.of ty51.ty rfl ty3.ty (by decide) rfl
instance fd51_1 : FdC Try.prog 51 1 1 false 1 := FdC.of ty51.ty rfl ty3.ty rfl rfl
instance fa53_0 : FaC Try.prog 53 0 0 := FaC.of ty53.ty rfl ty3.ty (by decide) rfl
instance fd53_0 : FdC Try.prog 53 0 0 false 1 := FdC.of ty53.ty rfl ty3.ty rfl rfl
instance fa53_1 : FaC Try.prog 53 1 1 := FaC.of ty53.ty rfl ty3.ty (by decide) rfl
instance fd53_1 : FdC Try.prog 53 1 1 false 1 := FdC.of ty53.ty rfl ty3.ty rfl rfl
instance fa78_0 : FaC Try.prog 78 0 0 := FaC.of ty78.ty rfl ty3.ty (by decide) rfl
instance fd78_0 : FdC Try.prog 78 0 0 false 1 := FdC.of ty78.ty rfl ty3.ty rfl rfl
instance fa78_1 : FaC Try.prog 78 1 1 := FaC.of ty78.ty rfl ty3.ty (by decide) rfl
instance fd78_1 : FdC Try.prog 78 1 1 false 1 := FdC.of ty78.ty rfl ty3.ty rfl rfl
instance fa78_2 : FaC Try.prog 78 2 2 := FaC.of ty78.ty rfl ty3.ty (by decide) rfl
instance fd78_2 : FdC Try.prog 78 2 2 false 1 := FdC.of ty78.ty rfl ty3.ty rfl rfl
instance fa79_0 : FaC Try.prog 79 0 0 := FaC.of ty79.ty rfl ty3.ty (by decide) rfl
instance fd79_0 : FdC Try.prog 79 0 0 false 1 := FdC.of ty79.ty rfl ty3.ty rfl rfl
instance fa79_1 : FaC Try.prog 79 1 1 := FaC.of ty79.ty rfl ty3.ty (by decide) rfl
instance fd79_1 : FdC Try.prog 79 1 1 false 1 := FdC.of ty79.ty rfl ty3.ty rfl rfl
instance fa79_2 : FaC Try.prog 79 2 2 := FaC.of ty79.ty rfl ty3.ty (by decide) rfl
instance fd79_2 : FdC Try.prog 79 2 2 false 1 := FdC.of ty79.ty rfl ty3.ty rfl rfl
instance fa81_0 : FaC Try.prog 81 0 0 := FaC.of ty81.ty rfl ty3.ty (by decide) rfl
instance fd81_0 : FdC Try.prog 81 0 0 false 1 := FdC.of ty81.ty rfl ty3.ty rfl rfl
instance fa81_1 : FaC Try.prog 81 1 1 := FaC.of ty81.ty rfl ty3.ty (by decide) rfl
instance fd81_1 : FdC Try.prog 81 1 1 false 1 := FdC.of ty81.ty rfl ty3.ty rfl rfl
instance fa82_0 : FaC Try.prog 82 0 0 := FaC.of ty82.ty rfl ty3.ty (by decide) rfl
instance fd82_0 : FdC Try.prog 82 0 0 false 1 := FdC.of ty82.ty rfl ty3.ty rfl rfl
instance fa82_1 : FaC Try.prog 82 1 1 := FaC.of ty82.ty rfl ty3.ty (by decide) rfl
instance fd82_1 : FdC Try.prog 82 1 1 false 1 := FdC.of ty82.ty rfl ty3.ty rfl rfl
instance fa93_0 : FaC Try.prog 93 0 0 := FaC.of ty93.ty rfl ty3.ty (by decide) rfl
instance fd93_0 : FdC Try.prog 93 0 0 false 1 := FdC.of ty93.ty rfl ty3.ty rfl rfl
instance fa93_1 : FaC Try.prog 93 1 1 := FaC.of ty93.ty rfl ty3.ty (by decide) rfl
instance fd93_1 : FdC Try.prog 93 1 1 false 1 := FdC.of ty93.ty rfl ty3.ty rfl rfl
instance fa93_2 : FaC Try.prog 93 2 2 := FaC.of ty93.ty rfl ty3.ty (by decide) rfl
instance fd93_2 : FdC Try.prog 93 2 2 false 1 := FdC.of ty93.ty rfl ty3.ty rfl rfl
instance fa97_0 : FaC Try.prog 97 0 0 := FaC.of ty97.ty rfl ty3.ty (by decide) rfl
instance fd97_0 : FdC Try.prog 97 0 0 false 1 := FdC.of ty97.ty rfl ty3.ty rfl rfl
instance fa97_1 : FaC Try.prog 97 1 1 := FaC.of ty97.ty rfl ty3.ty (by decide) rfl
instance fd97_1 : FdC Try.prog 97 1 1 false 1 := FdC.of ty97.ty rfl ty3.ty rfl rfl
instance fa115_0 : FaC Try.prog 115 0 0 := FaC.of ty115.ty rfl ty3.ty (by decide) rfl
instance fd115_0 : FdC Try.prog 115 0 0 false 1 := FdC.of ty115.ty rfl ty3.ty rfl rfl
instance fa115_1 : FaC Try.prog 115 1 1 := FaC.of ty115.ty rfl ty3.ty (by decide) rfl
instance fd115_1 : FdC Try.prog 115 1 1 false 1 := FdC.of ty115.ty rfl ty3.ty rfl rfl
instance fa115_2 : FaC Try.prog 115 2 2 := FaC.of ty115.ty rfl ty3.ty (by decide) rfl
instance fd115_2 : FdC Try.prog 115 2 2 false 1 := FdC.of ty115.ty rfl ty3.ty rfl rfl
instance fa116_0 : FaC Try.prog 116 0 0 := FaC.of ty116.ty rfl ty3.ty (by decide) rfl
instance fd116_0 : FdC Try.prog 116 0 0 false 1 := FdC.of ty116.ty rfl ty3.ty rfl rfl
instance fa116_1 : FaC Try.prog 116 1 1 := FaC.of ty116.ty rfl ty3.ty (by decide) rfl
instance fd116_1 : FdC Try.prog 116 1 1 false 1 := FdC.of ty116.ty rfl ty3.ty rfl rfl
instance fa116_2 : FaC Try.prog 116 2 2 := FaC.of ty116.ty rfl ty3.ty (by decide) rfl
instance fd116_2 : FdC Try.prog 116 2 2 false 1 := FdC.of ty116.ty rfl ty3.ty rfl rfl
instance fa118_0 : FaC Try.prog 118 0 0 := FaC.of ty118.ty rfl ty37.ty (by decide) rfl
instance fd118_0 : FdC Try.prog 118 0 0 true 5 := FdC.of ty118.ty rfl ty37.ty rfl rfl
instance fa118_1 : FaC Try.prog 118 1 5 := FaC.of ty118.ty rfl ty108.ty (by decide) rfl
instance fd118_1 : FdC Try.prog 118 1 5 true 4 := FdC.of ty118.ty rfl ty108.ty rfl rfl
instance fa118_2 : FaC Try.prog 118 2 9 := FaC.of ty118.ty rfl ty117.ty (by decide) rfl
instance fd118_2 : FdC Try.prog 118 2 9 true 18 := FdC.of ty118.ty rfl ty117.ty rfl rfl
instance fa119_0 : FaC Try.prog 119 0 0 := FaC.of ty119.ty rfl ty37.ty (by decide) rfl
instance fd119_0 : FdC Try.prog 119 0 0 true 5 := FdC.of ty119.ty rfl ty37.ty rfl rfl
instance fa119_1 : FaC Try.prog 119 1 5 := FaC.of ty119.ty rfl ty108.ty (by decide) rfl
instance fd119_1 : FdC Try.prog 119 1 5 true 4 := FdC.of ty119.ty rfl ty108.ty rfl rfl
instance fa119_2 : FaC Try.prog 119 2 9 := FaC.of ty119.ty rfl ty117.ty (by decide) rfl
instance fd119_2 : FdC Try.prog 119 2 9 true 18 := FdC.of ty119.ty rfl ty117.ty rfl rfl
instance fa124_0 : FaC Try.prog 124 0 0 := FaC.of ty124.ty rfl ty122.ty (by decide) rfl
instance fd124_0 : FdC Try.prog 124 0 0 false 1 := FdC.of ty124.ty rfl ty122.ty rfl rfl
instance fa125_0 : FaC Try.prog 125 0 0 := FaC.of ty125.ty rfl ty122.ty (by decide) rfl
instance fd125_0 : FdC Try.prog 125 0 0 false 1 := FdC.of ty125.ty rfl ty122.ty rfl rfl
instance fa152_0 : FaC Try.prog 152 0 0 := FaC.of ty152.ty rfl ty3.ty (by decide) rfl
instance fd152_0 : FdC Try.prog 152 0 0 false 1 := FdC.of ty152.ty rfl ty3.ty rfl rfl
instance fa152_1 : FaC Try.prog 152 1 1 := FaC.of ty152.ty rfl ty3.ty (by decide) rfl
instance fd152_1 : FdC Try.prog 152 1 1 false 1 := FdC.of ty152.ty rfl ty3.ty rfl rfl
instance fa153_0 : FaC Try.prog 153 0 0 := FaC.of ty153.ty rfl ty3.ty (by decide) rfl
instance fd153_0 : FdC Try.prog 153 0 0 false 1 := FdC.of ty153.ty rfl ty3.ty rfl rfl
instance fa153_1 : FaC Try.prog 153 1 1 := FaC.of ty153.ty rfl ty3.ty (by decide) rfl
instance fd153_1 : FdC Try.prog 153 1 1 false 1 := FdC.of ty153.ty rfl ty3.ty rfl rfl
instance fa163_0 : FaC Try.prog 163 0 0 := FaC.of ty163.ty rfl ty17.ty (by decide) rfl
instance fd163_0 : FdC Try.prog 163 0 0 false 1 := FdC.of ty163.ty rfl ty17.ty rfl rfl
instance fa163_1 : FaC Try.prog 163 1 1 := FaC.of ty163.ty rfl ty17.ty (by decide) rfl
instance fd163_1 : FdC Try.prog 163 1 1 false 1 := FdC.of ty163.ty rfl ty17.ty rfl rfl
instance fa163_2 : FaC Try.prog 163 2 2 := FaC.of ty163.ty rfl ty17.ty (by decide) rfl
instance fd163_2 : FdC Try.prog 163 2 2 false 1 := FdC.of ty163.ty rfl ty17.ty rfl rfl
instance fa163_3 : FaC Try.prog 163 3 3 := FaC.of ty163.ty rfl ty9.ty (by decide) rfl
instance fd163_3 : FdC Try.prog 163 3 3 false 1 := FdC.of ty163.ty rfl ty9.ty rfl rfl
instance fa164_0 : FaC Try.prog 164 0 0 := FaC.of ty164.ty rfl ty17.ty (by decide) rfl
instance fd164_0 : FdC Try.prog 164 0 0 false 1 := FdC.of ty164.ty rfl ty17.ty rfl rfl
instance fa164_1 : FaC Try.prog 164 1 1 := FaC.of ty164.ty rfl ty17.ty (by decide) rfl
instance fd164_1 : FdC Try.prog 164 1 1 false 1 := FdC.of ty164.ty rfl ty17.ty rfl rfl
instance fa164_2 : FaC Try.prog 164 2 2 := FaC.of ty164.ty rfl ty17.ty (by decide) rfl
instance fd164_2 : FdC Try.prog 164 2 2 false 1 := FdC.of ty164.ty rfl ty17.ty rfl rfl
instance fa164_3 : FaC Try.prog 164 3 3 := FaC.of ty164.ty rfl ty9.ty (by decide) rfl
instance fd164_3 : FdC Try.prog 164 3 3 false 1 := FdC.of ty164.ty rfl ty9.ty rfl rfl
instance fd166_0 : FdC Try.prog 166 0 0 true 0 := FdC.of ty166.ty rfl ty165.ty rfl rfl
instance fd167_0 : FdC Try.prog 167 0 0 true 0 := FdC.of ty167.ty rfl ty165.ty rfl rfl
instance fa175_0 : FaC Try.prog 175 0 0 := FaC.of ty175.ty rfl ty12.ty (by decide) rfl
instance fd175_0 : FdC Try.prog 175 0 0 false 1 := FdC.of ty175.ty rfl ty12.ty rfl rfl
instance fa175_1 : FaC Try.prog 175 1 1 := FaC.of ty175.ty rfl ty12.ty (by decide) rfl
instance fd175_1 : FdC Try.prog 175 1 1 false 1 := FdC.of ty175.ty rfl ty12.ty rfl rfl
instance fa175_2 : FaC Try.prog 175 2 2 := FaC.of ty175.ty rfl ty168.ty (by decide) rfl
instance fd175_2 : FdC Try.prog 175 2 2 false 1 := FdC.of ty175.ty rfl ty168.ty rfl rfl
instance fa175_3 : FaC Try.prog 175 3 3 := FaC.of ty175.ty rfl ty169.ty (by decide) rfl
instance fd175_3 : FdC Try.prog 175 3 3 false 1 := FdC.of ty175.ty rfl ty169.ty rfl rfl
instance fa175_4 : FaC Try.prog 175 4 4 := FaC.of ty175.ty rfl ty5.ty (by decide) rfl
instance fd175_4 : FdC Try.prog 175 4 4 false 1 := FdC.of ty175.ty rfl ty5.ty rfl rfl
instance fa175_5 : FaC Try.prog 175 5 5 := FaC.of ty175.ty rfl ty5.ty (by decide) rfl
instance fd175_5 : FdC Try.prog 175 5 5 false 1 := FdC.of ty175.ty rfl ty5.ty rfl rfl
instance fa175_6 : FaC Try.prog 175 6 6 := FaC.of ty175.ty rfl ty170.ty (by decide) rfl
instance fd175_6 : FdC Try.prog 175 6 6 false 1 := FdC.of ty175.ty rfl ty170.ty rfl rfl
instance fa175_7 : FaC Try.prog 175 7 7 := FaC.of ty175.ty rfl ty171.ty (by decide) rfl
instance fd175_7 : FdC Try.prog 175 7 7 false 1 := FdC.of ty175.ty rfl ty171.ty rfl rfl
instance fa175_8 : FaC Try.prog 175 8 8 := FaC.of ty175.ty rfl ty172.ty (by decide) rfl
instance fd175_8 : FdC Try.prog 175 8 8 false 1 := FdC.of ty175.ty rfl ty172.ty rfl rfl
instance fa175_9 : FaC Try.prog 175 9 9 := FaC.of ty175.ty rfl ty173.ty (by decide) rfl
instance fd175_9 : FdC Try.prog 175 9 9 false 1 := FdC.of ty175.ty rfl ty173.ty rfl rfl
instance fa175_10 : FaC Try.prog 175 10 10 := FaC.of ty175.ty rfl ty174.ty (by decide) rfl
instance fd175_10 : FdC Try.prog 175 10 10 false 1 := FdC.of ty175.ty rfl ty174.ty rfl rfl
instance fa176_0 : FaC Try.prog 176 0 0 := FaC.of ty176.ty rfl ty12.ty (by decide) rfl
instance fd176_0 : FdC Try.prog 176 0 0 false 1 := FdC.of ty176.ty rfl ty12.ty rfl rfl
instance fa176_1 : FaC Try.prog 176 1 1 := FaC.of ty176.ty rfl ty12.ty (by decide) rfl
instance fd176_1 : FdC Try.prog 176 1 1 false 1 := FdC.of ty176.ty rfl ty12.ty rfl rfl
instance fa176_2 : FaC Try.prog 176 2 2 := FaC.of ty176.ty rfl ty168.ty (by decide) rfl
instance fd176_2 : FdC Try.prog 176 2 2 false 1 := FdC.of ty176.ty rfl ty168.ty rfl rfl
instance fa176_3 : FaC Try.prog 176 3 3 := FaC.of ty176.ty rfl ty169.ty (by decide) rfl
instance fd176_3 : FdC Try.prog 176 3 3 false 1 := FdC.of ty176.ty rfl ty169.ty rfl rfl
instance fa176_4 : FaC Try.prog 176 4 4 := FaC.of ty176.ty rfl ty5.ty (by decide) rfl
instance fd176_4 : FdC Try.prog 176 4 4 false 1 := FdC.of ty176.ty rfl ty5.ty rfl rfl
instance fa176_5 : FaC Try.prog 176 5 5 := FaC.of ty176.ty rfl ty5.ty (by decide) rfl
instance fd176_5 : FdC Try.prog 176 5 5 false 1 := FdC.of ty176.ty rfl ty5.ty rfl rfl
instance fa176_6 : FaC Try.prog 176 6 6 := FaC.of ty176.ty rfl ty170.ty (by decide) rfl
instance fd176_6 : FdC Try.prog 176 6 6 false 1 := FdC.of ty176.ty rfl ty170.ty rfl rfl
instance fa176_7 : FaC Try.prog 176 7 7 := FaC.of ty176.ty rfl ty171.ty (by decide) rfl
instance fd176_7 : FdC Try.prog 176 7 7 false 1 := FdC.of ty176.ty rfl ty171.ty rfl rfl
instance fa176_8 : FaC Try.prog 176 8 8 := FaC.of ty176.ty rfl ty172.ty (by decide) rfl
instance fd176_8 : FdC Try.prog 176 8 8 false 1 := FdC.of ty176.ty rfl ty172.ty rfl rfl
instance fa176_9 : FaC Try.prog 176 9 9 := FaC.of ty176.ty rfl ty173.ty (by decide) rfl
instance fd176_9 : FdC Try.prog 176 9 9 false 1 := FdC.of ty176.ty rfl ty173.ty rfl rfl
instance fa176_10 : FaC Try.prog 176 10 10 := FaC.of ty176.ty rfl ty174.ty (by decide) rfl
instance fd176_10 : FdC Try.prog 176 10 10 false 1 := FdC.of ty176.ty rfl ty174.ty rfl rfl
instance ic50 : IntsC Try.prog 50 2 := IntsC.struct ty50.ty (by kernel_rfl)
instance ic51 : IntsC Try.prog 51 2 := IntsC.struct ty51.ty (by kernel_rfl)
instance ic53 : IntsC Try.prog 53 2 := IntsC.struct ty53.ty (by kernel_rfl)
instance ic78 : IntsC Try.prog 78 3 := IntsC.struct ty78.ty (by kernel_rfl)
instance ic79 : IntsC Try.prog 79 3 := IntsC.struct ty79.ty (by kernel_rfl)
instance ic81 : IntsC Try.prog 81 2 := IntsC.struct ty81.ty (by kernel_rfl)
instance ic82 : IntsC Try.prog 82 2 := IntsC.struct ty82.ty (by kernel_rfl)
instance ic93 : IntsC Try.prog 93 3 := IntsC.struct ty93.ty (by kernel_rfl)
instance ic97 : IntsC Try.prog 97 2 := IntsC.struct ty97.ty (by kernel_rfl)
instance ic107 : IntsC Try.prog 107 4 := IntsC.array ty107.ty (by kernel_rfl)
instance ic108 : IntsC Try.prog 108 4 := IntsC.array ty108.ty (by kernel_rfl)
instance ic115 : IntsC Try.prog 115 3 := IntsC.struct ty115.ty (by kernel_rfl)
instance ic116 : IntsC Try.prog 116 3 := IntsC.struct ty116.ty (by kernel_rfl)
instance ic152 : IntsC Try.prog 152 2 := IntsC.struct ty152.ty (by kernel_rfl)
instance ic153 : IntsC Try.prog 153 2 := IntsC.struct ty153.ty (by kernel_rfl)
end Go.Proofs.Ytehobnpoeodhkaa

namespace Go.Abs
open Go
theorem OpsJ.normA {γ : Type} {P : Program} {E : Env γ} {T T' : List Value} {H H' : AHeap} {g : γ} {R : List Value → AHeap → γ → Prop} {ops : Array Oper} {l : List Oper} (h : OpsJ P E ops R l T' H' g) (hT : T = T' := by first | exact NSr | rfl) (hH : H = H' := by first | exact NSr | rfl) : OpsJ P E ops R l T H g := OpsJ.norm hT hH h
theorem MonoJ.normA {P : Program} {T T' : List Value} {H H' : AHeap} {R : List Value → AHeap → Prop} {ops : Array Oper} {mm : Nat} {l : List Oper} (h : MonoJ P ops R mm l T' H') (hT : T = T' := by first | exact NSr | rfl) (hH : H = H' := by first | exact NSr | rfl) : MonoJ P ops R mm l T H := MonoJ.norm hT hH h
end Go.Abs

namespace Go.Proofs.Ytehobnpoeodhkaa
open Go Go.Abs Go.Proofs
set_option maxHeartbeats 400000
attribute [local irreducible] CallJ OpsJ WPJ CallV MonoJ

theorem mixed : Try.prog.follows .mixedOrders = true := by kernel_rfl

structure ClipM where
  ticket : Int
  clock : Int
  minute : Int
structure HouseM where
  hour : Int
  grace : Int
  clocks : List (Int × Int)
  tickets : List (Int × Int)
  clips : List ClipM
abbrev encR (r : Int × Int) : List Value := [.int .i64 r.1, .int .i64 r.2]
abbrev encC (c : ClipM) : List Value := [.int .i64 c.ticket, .int .i64 c.clock, .int .i64 c.minute]

theorem dec_and (a b : Prop) [Decidable a] [Decidable b] : decide (a ∧ b) = (decide a && decide b) := by by_cases h : a <;> by_cases k : b <;> simp [h, k]

/-- The house as a value. -/
structure HouseIs (H : AHeap) (m : HouseM) (s1 s2 s3 : Value) : Prop where
  clocks : RdS H s1 2 (m.clocks.map encR)
  tickets : RdS H s2 2 (m.tickets.map encR)
  clips : RdS H s3 3 (m.clips.map encC)
  ok : [s1, s2, s3].all cellOk = true
  n1 : m.clocks.length ≤ 1000000
  n2 : m.tickets.length ≤ 1000000
  n3 : m.clips.length ≤ 1000000
  p1 : PlainS H s1
  p2 : PlainS H s2
  p3 : PlainS H s3
theorem HouseIs.ext {H H' : AHeap} {m : HouseM} {s1 s2 s3 : Value} (h : HouseIs H m s1 s2 s3) (he : Ext H H') : HouseIs H' m s1 s2 s3 := ⟨h.clocks.ext he, h.tickets.ext he, h.clips.ext he, h.ok, h.n1, h.n2, h.n3, h.p1.ext he, h.p2.ext he, h.p3.ext he⟩
theorem HouseIs.cells {H : AHeap} {m : HouseM} {s1 s2 s3 : Value} (h : HouseIs H m s1 s2 s3) : [Value.int .i64 m.hour, Value.int .i64 m.grace, s1, s2, s3].all cellOk = true := by have := h.ok; simp [cellOk] at this ⊢; exact this
def hv (m : HouseM) (s1 s2 s3 : Value) : Value := .agg ⟨[.int .i64 m.hour, .int .i64 m.grace, s1, s2, s3]⟩

def clipsOfS (m : HouseM) (t : Int) (n : Nat) : Int := ((m.clips.take n).countP fun c => c.ticket == t : Nat)

theorem clipsOfS_succ (m : HouseM) (t : Int) {j : Nat} (h : j < m.clips.length) : clipsOfS m t (j + 1) = clipsOfS m t j + (if m.clips[j].ticket = t then 1 else 0) := by
  unfold clipsOfS
  rw [List.take_succ_eq_append_getElem h, List.countP_append]
  simp only [List.countP_cons, List.countP_nil, beq_iff_eq]
  split <;> simp
theorem clipsOfS_bd (m : HouseM) (t : Int) (j : Nat) : 0 ≤ clipsOfS m t j ∧ clipsOfS m t j ≤ j := by
  unfold clipsOfS
  have h := List.countP_le_length (p := fun (c : ClipM) => c.ticket == t) (l := m.clips.take j)
  have h2 : (m.clips.take j).length ≤ j := by simp; omega
  omega

theorem clipsOf_spec {γ : Type} (E : Env γ) (g : γ) (H : AHeap) (m : HouseM) (s1 s2 s3 : Value) (t : Int) (hm : HouseIs H m s1 s2 s3) :
   CallJ Try.prog E 131 [hv m s1 s2 s3, .int .i64 t] (fun v H' g' => v = .int .i64 (clipsOfS m t m.clips.length) ∧ H' = H ∧ g' = g) H g := by
  have hok : [Value.int .i64 m.hour, .int .i64 m.grace, s1, s2, s3].all cellOk = true := by have := hm.ok; simp [cellOk] at this ⊢; exact this
  have hr := hm.clips
  have hn3 := hm.n3
  refine CallJ.tidy ?_
  unfold hv
  refine CallJ.enter Try.func131 rfl (by simp only [Try.ntmps131, List.length_cons, List.length_nil, Nat.zero_add, Nat.reduceAdd, Nat.reduceSub, List.replicate_succ, List.replicate_zero, List.cons_append, List.nil_append]; rfl) ?_
  repeat' (first
    | refine W1 ?_ | refine Wc ?_ | refine W2c ?_ ?_ | refine Wg ?_ | refine W2 ?_ ?_ | exact Wdead | refine Wlive (fun hb => ?_) | intro _ _ _ _ _ _ _ _ | refine We ?_ | refine Wx ?_ | refine Wt ?_ | refine Wm ?_ | refine W2m ?_ ?_ | refine Wl ?_
    | fail)
  refine WPJ.loopN m.clips.length (fun j (s : Int) => [wild, .int .i64 t, wild, wild, wild, .int .i64 s, wild, wild, wild, s3, .int .i64 m.clips.length, .int .i64 j, wild, wild, wild, wild, wild, wild, wild, wild, wild, wild, wild])
    (fun j s H1 g1 => g1 = g ∧ Ext H H1 ∧ s = clipsOfS m t j) 0 0 (Nat.zero_le _) (by repeat' (first | exact Weak.nil | refine Weak.wild ?_ | refine Weak.same ?_ | refine Weak.intEq (by first | omega | (simp; done) | (push_cast; omega)) ?_)) ⟨rfl, extA, rfl⟩ ?_
  rintro j s H1 g1 hj ⟨rfl, he, hs⟩ hl
  rcases Nat.lt_or_ge j m.clips.length with hlt | hge
  · have hel : (m.clips.map encC)[j]? = some (encC m.clips[j]) := by simp [hlt]
    have hsb := clipsOfS_bd m t j
    rw [← hs] at hsb
    have hsucc := clipsOfS_succ m t hlt
    repeat' (first
      | refine W1 ?_ | refine Wc ?_ | refine W2c ?_ ?_ | refine Wg ?_ | refine W2 ?_ ?_ | exact Wdead | refine Wlive (fun hb => ?_) | intro _ _ _ _ _ _ _ _ | refine We ?_ | refine Wx ?_ | refine Wt ?_ | refine Wm ?_ | refine W2m ?_ ?_ | refine Wl ?_
      | fail)
    · rw [if_pos hb] at hsucc
      exact ⟨s + 1, hlt, (by repeat' (first | exact Weak.nil | refine Weak.wild ?_ | refine Weak.same ?_ | refine Weak.intEq (by first | omega | (simp; done) | (push_cast; omega)) ?_)), rfl, extA, by omega⟩
    · rw [if_neg hb] at hsucc
      exact ⟨s, hlt, (by repeat' (first | exact Weak.nil | refine Weak.wild ?_ | refine Weak.same ?_ | refine Weak.intEq (by first | omega | (simp; done) | (push_cast; omega)) ?_)), rfl, extA, by omega⟩
  · skip
    repeat' (first
      | refine W1 ?_ | refine Wc ?_ | refine W2c ?_ ?_ | refine Wg ?_ | refine W2 ?_ ?_ | exact Wdead | refine Wlive (fun hb => ?_) | intro _ _ _ _ _ _ _ _ | refine We ?_ | refine Wx ?_ | refine Wt ?_ | refine Wm ?_ | refine W2m ?_ ?_ | refine Wl ?_
      | fail)
    obtain rfl : j = m.clips.length := by omega
    exact ⟨by first | (rw [← hs]; done) | (rw [← hs]; rfl), rfl, rfl⟩

section
variable {γ : Type} (E : Env γ) (g : γ) (H : AHeap)

theorem has_spec (lo hi n : Int) : CallJ Try.prog E 120 [.agg ⟨[.int .i64 lo, .int .i64 hi]⟩, .int .i64 n] (fun v H' g' => v = .bool (decide (lo ≤ n) && decide (n ≤ hi)) ∧ H' = H ∧ g' = g) H g := by
  refine CallJ.tidy ?_
  refine CallJ.enter Try.func120 rfl (by simp only [Try.ntmps120, List.length_cons, List.length_nil, Nat.zero_add, Nat.reduceAdd, Nat.reduceSub, List.replicate_succ, List.replicate_zero, List.cons_append, List.nil_append]; rfl) ?_
  repeat' (first
    | refine W1 ?_ | refine Wc ?_ | refine W2c ?_ ?_ | refine Wg ?_ | refine W2 ?_ ?_ | exact Wdead | refine Wlive (fun hb => ?_) | intro _ _ _ _ _ _ _ _ | refine We ?_ | refine Wx ?_ | refine Wt ?_ | refine Wm ?_ | refine W2m ?_ ?_ | refine Wl ?_
    | fail)
  all_goals (refine ⟨?_, rfl, rfl⟩; show Value.bool _ = _; congr 1; all_goals first | rfl | (rw [Bool.eq_iff_iff]; simp only [Bool.and_eq_true, Bool.or_eq_true, decide_eq_true_eq, Bool.not_eq_true', beq_iff_eq, Bool.true_eq_false, Bool.false_eq_true, iff_true, true_iff, iff_false, false_iff, decide_eq_false_iff_not]; omega))

theorem isTub_spec (n : Int) : CallJ Try.prog E 104 [.int .i64 n] (fun v H' g' => v = .bool (decide (0 ≤ n) && decide (n ≤ 8)) ∧ H' = H ∧ g' = g) H g := by
  refine CallJ.tidy ?_
  refine CallJ.enter Try.func104 rfl (by simp only [Try.ntmps104, List.length_cons, List.length_nil, Nat.zero_add, Nat.reduceSub, List.replicate_succ, List.replicate_zero, List.cons_append, List.nil_append]; rfl) ?_
  repeat' (first
    | (refine is_ucall ?_; first
      | refine st_callP (h := has_spec _ _ _ _ _ _) (k := ?_)
      | fail)
    | (refine is_umcall ?_; first
      | refine mj_callP (h := has_spec _ _ _ _ _ _) (k := ?_)
      | fail)
    | refine W1 ?_ | refine Wc ?_ | refine W2c ?_ ?_ | refine Wg ?_ | refine W2 ?_ ?_ | exact Wdead | refine Wlive (fun hb => ?_) | intro _ _ _ _ _ _ _ _ | refine We ?_ | refine Wx ?_ | refine Wt ?_ | refine Wm ?_ | refine W2m ?_ ?_ | refine Wl ?_
    | fail)
  exact ⟨rfl, rfl, rfl⟩

theorem hasTicket_spec (m : HouseM) (s1 s2 s3 : Value) (t : Int) (hm : HouseIs H m s1 s2 s3) : CallJ Try.prog E 100 [hv m s1 s2 s3, .int .i64 t] (fun v H' g' => v = .bool (decide (0 ≤ t) && decide (t < m.tickets.length)) ∧ H' = H ∧ g' = g) H g := by
  have hok := hm.cells
  have hr := hm.tickets
  refine CallJ.tidy ?_
  unfold hv
  refine CallJ.enter Try.func100 rfl (by simp only [Try.ntmps100, List.length_cons, List.length_nil, Nat.zero_add, Nat.reduceAdd, Nat.reduceSub, List.replicate_succ, List.replicate_zero, List.cons_append, List.nil_append]; rfl) ?_
  repeat' (first
    | (refine is_ucall ?_; first
      | refine st_callP (h := has_spec _ _ _ _ _ _) (k := ?_)
      | fail)
    | (refine is_umcall ?_; first
      | refine mj_callP (h := has_spec _ _ _ _ _ _) (k := ?_)
      | fail)
    | refine W1 ?_ | refine Wc ?_ | refine W2c ?_ ?_ | refine Wg ?_ | refine W2 ?_ ?_ | exact Wdead | refine Wlive (fun hb => ?_) | intro _ _ _ _ _ _ _ _ | refine We ?_ | refine Wx ?_ | refine Wt ?_ | refine Wm ?_ | refine W2m ?_ ?_ | refine Wl ?_
    | fail)
  all_goals (refine ⟨?_, rfl, rfl⟩; show Value.bool _ = _; congr 1; all_goals first | rfl | (rw [Bool.eq_iff_iff]; simp only [Bool.and_eq_true, Bool.or_eq_true, decide_eq_true_eq, Bool.not_eq_true', beq_iff_eq, Bool.true_eq_false, Bool.false_eq_true, iff_true, true_iff, iff_false, false_iff, decide_eq_false_iff_not]; omega))

def isLongS (m : HouseM) : Bool := decide (4 < m.clocks.length) || decide (6 < m.tickets.length) || decide (10 < m.clips.length)
theorem isLong_spec (m : HouseM) (s1 s2 s3 : Value) (hm : HouseIs H m s1 s2 s3) : CallJ Try.prog E 84 [hv m s1 s2 s3] (fun v H' g' => v = .bool (isLongS m) ∧ H' = H ∧ g' = g) H g := by
  have hok := hm.cells
  have hr1 := hm.clocks
  have hr2 := hm.tickets
  have hr3 := hm.clips
  refine CallJ.tidy ?_
  unfold hv isLongS
  refine CallJ.enter Try.func84 rfl (by simp only [Try.ntmps84, List.length_cons, List.length_nil, Nat.zero_add, Nat.reduceSub, List.replicate_succ, List.replicate_zero, List.cons_append, List.nil_append]; rfl) ?_
  repeat' (first
    | (refine is_ucall ?_; first
      | refine st_callP (h := has_spec _ _ _ _ _ _) (k := ?_)
      | fail)
    | (refine is_umcall ?_; first
      | refine mj_callP (h := has_spec _ _ _ _ _ _) (k := ?_)
      | fail)
    | refine W1 ?_ | refine Wc ?_ | refine W2c ?_ ?_ | refine Wg ?_ | refine W2 ?_ ?_ | exact Wdead | refine Wlive (fun hb => ?_) | intro _ _ _ _ _ _ _ _ | refine We ?_ | refine Wx ?_ | refine Wt ?_ | refine Wm ?_ | refine W2m ?_ ?_ | refine Wl ?_
    | fail)
  all_goals (refine ⟨?_, rfl, rfl⟩; show Value.bool _ = _; congr 1; all_goals first | rfl | (rw [Bool.eq_iff_iff]; simp only [Bool.or_eq_true, decide_eq_true_eq, true_iff]; omega))
end
end Go.Proofs.Ytehobnpoeodhkaa

namespace Go.Proofs.Ytehobnpoeodhkaa
open Go Go.Abs Go.Proofs
set_option maxHeartbeats 400000
attribute [local irreducible] CallJ OpsJ WPJ CallV MonoJ

theorem eachR_spec {γ : Type} (E : Env γ) (g : γ) (H : AHeap) (sv fv : Value) (xs : List (Int × Int)) (p : (Int × Int) → Bool) (hn : xs.length ≤ 1000000) (hr : RdS H sv 2 (xs.map encR))
    (hf : ∀ H' x, Ext H H' → x ∈ xs → CallV Try.prog E fv [.agg ⟨encR x⟩] (fun v H2 g' => v = .bool (p x) ∧ H2 = H' ∧ g' = g) H' g) :
    CallJ Try.prog E 126 [sv, fv] (fun v H' g' => v = .bool (xs.all p) ∧ H' = H ∧ g' = g) H g := by
  refine CallJ.tidy ?_
  refine CallJ.enter Try.func126 rfl (by simp only [Try.ntmps126, List.length_cons, List.length_nil, Nat.zero_add, Nat.reduceAdd, Nat.reduceSub, List.replicate_succ, List.replicate_zero, List.cons_append, List.nil_append]; rfl) ?_
  repeat' (first
    | (refine is_ucall ?_; first
      | refine st_callVP (h := hf _ _ extA (List.getElem_mem hlt)) (k := ?_)
      | fail)
    | refine W1 ?_ | refine Wc ?_ | refine W2c ?_ ?_ | refine Wg ?_ | refine W2 ?_ ?_ | exact Wdead | refine Wlive (fun hb => ?_) | intro _ _ _ _ _ _ _ _ | refine We ?_ | refine Wx ?_ | refine Wt ?_ | refine Wm ?_ | refine W2m ?_ ?_ | refine Wl ?_
    | fail)
  refine WPJ.loopN xs.length (fun j (_ : Unit) => [wild, fv, wild, wild, wild, wild, wild, sv, .int .i64 xs.length, .int .i64 j, wild, wild, wild, wild, wild, wild, wild, wild])
    (fun j _ H1 g1 => g1 = g ∧ Ext H H1 ∧ (xs.take j).all p = true) 0 () (Nat.zero_le _) (by repeat' (first | exact Weak.nil | refine Weak.wild ?_ | refine Weak.same ?_ | refine Weak.intEq (by first | omega | (simp; done) | (push_cast; omega)) ?_)) ⟨rfl, extA, rfl⟩ ?_
  rintro j _ H1 g1 hj ⟨rfl, he, hs⟩ hl
  rcases Nat.lt_or_ge j xs.length with hlt | hge
  · have hel : (xs.map encR)[j]? = some (encR xs[j]) := by simp [hlt]
    repeat' (first
      | (refine is_ucall ?_; first
        | refine st_callVP (h := hf _ _ extA (List.getElem_mem hlt)) (k := ?_)
        | fail)
      | refine W1 ?_ | refine Wc ?_ | refine W2c ?_ ?_ | refine Wg ?_ | refine W2 ?_ ?_ | exact Wdead | refine Wlive (fun hb => ?_) | intro _ _ _ _ _ _ _ _ | refine We ?_ | refine Wx ?_ | refine Wt ?_ | refine Wm ?_ | refine W2m ?_ ?_ | refine Wl ?_
      | fail)
    · refine ⟨?_, rfl, rfl⟩
      have h1 : p xs[j] = false := by simpa using hb
      show Value.bool false = _
      congr 1
      exact (List.all_eq_false.2 ⟨xs[j], List.getElem_mem hlt, by simp [h1]⟩).symm
    · have h1 : p xs[j] = true := by simpa using hb
      refine ⟨(), hlt, (by repeat' (first | exact Weak.nil | refine Weak.wild ?_ | refine Weak.same ?_ | refine Weak.intEq (by first | omega | (simp; done) | (push_cast; omega)) ?_)), rfl, extA, ?_⟩
      rw [List.take_succ_eq_append_getElem hlt, List.all_append, hs]
      simp [h1]
  · skip
    repeat' (first
      | (refine is_ucall ?_; first
        | refine st_callVP (h := hf _ _ extA (List.getElem_mem hlt)) (k := ?_)
        | fail)
      | refine W1 ?_ | refine Wc ?_ | refine W2c ?_ ?_ | refine Wg ?_ | refine W2 ?_ ?_ | exact Wdead | refine Wlive (fun hb => ?_) | intro _ _ _ _ _ _ _ _ | refine We ?_ | refine Wx ?_ | refine Wt ?_ | refine Wm ?_ | refine W2m ?_ ?_ | refine Wl ?_
      | fail)
    obtain rfl : j = xs.length := by omega
    rw [List.take_length] at hs
    exact ⟨by first | (rw [hs]; done) | (rw [hs]; rfl), rfl, rfl⟩

theorem eachT_spec {γ : Type} (E : Env γ) (g : γ) (H : AHeap) (sv fv : Value) (xs : List (Int × Int)) (p : (Int × Int) → Bool) (hn : xs.length ≤ 1000000) (hr : RdS H sv 2 (xs.map encR))
    (hf : ∀ H' x, Ext H H' → x ∈ xs → CallV Try.prog E fv [.agg ⟨encR x⟩] (fun v H2 g' => v = .bool (p x) ∧ H2 = H' ∧ g' = g) H' g) :
    CallJ Try.prog E 128 [sv, fv] (fun v H' g' => v = .bool (xs.all p) ∧ H' = H ∧ g' = g) H g := by
  refine CallJ.tidy ?_
  refine CallJ.enter Try.func128 rfl (by simp only [Try.ntmps128, List.length_cons, List.length_nil, Nat.zero_add, Nat.reduceAdd, Nat.reduceSub, List.replicate_succ, List.replicate_zero, List.cons_append, List.nil_append]; rfl) ?_
  repeat' (first
    | (refine is_ucall ?_; first
      | refine st_callVP (h := hf _ _ extA (List.getElem_mem hlt)) (k := ?_)
      | fail)
    | refine W1 ?_ | refine Wc ?_ | refine W2c ?_ ?_ | refine Wg ?_ | refine W2 ?_ ?_ | exact Wdead | refine Wlive (fun hb => ?_) | intro _ _ _ _ _ _ _ _ | refine We ?_ | refine Wx ?_ | refine Wt ?_ | refine Wm ?_ | refine W2m ?_ ?_ | refine Wl ?_
    | fail)
  refine WPJ.loopN xs.length (fun j (_ : Unit) => [wild, fv, wild, wild, wild, wild, wild, sv, .int .i64 xs.length, .int .i64 j, wild, wild, wild, wild, wild, wild, wild, wild])
    (fun j _ H1 g1 => g1 = g ∧ Ext H H1 ∧ (xs.take j).all p = true) 0 () (Nat.zero_le _) (by repeat' (first | exact Weak.nil | refine Weak.wild ?_ | refine Weak.same ?_ | refine Weak.intEq (by first | omega | (simp; done) | (push_cast; omega)) ?_)) ⟨rfl, extA, rfl⟩ ?_
  rintro j _ H1 g1 hj ⟨rfl, he, hs⟩ hl
  rcases Nat.lt_or_ge j xs.length with hlt | hge
  · have hel : (xs.map encR)[j]? = some (encR xs[j]) := by simp [hlt]
    repeat' (first
      | (refine is_ucall ?_; first
        | refine st_callVP (h := hf _ _ extA (List.getElem_mem hlt)) (k := ?_)
        | fail)
      | refine W1 ?_ | refine Wc ?_ | refine W2c ?_ ?_ | refine Wg ?_ | refine W2 ?_ ?_ | exact Wdead | refine Wlive (fun hb => ?_) | intro _ _ _ _ _ _ _ _ | refine We ?_ | refine Wx ?_ | refine Wt ?_ | refine Wm ?_ | refine W2m ?_ ?_ | refine Wl ?_
      | fail)
    · refine ⟨?_, rfl, rfl⟩
      have h1 : p xs[j] = false := by simpa using hb
      show Value.bool false = _
      congr 1
      exact (List.all_eq_false.2 ⟨xs[j], List.getElem_mem hlt, by simp [h1]⟩).symm
    · have h1 : p xs[j] = true := by simpa using hb
      refine ⟨(), hlt, (by repeat' (first | exact Weak.nil | refine Weak.wild ?_ | refine Weak.same ?_ | refine Weak.intEq (by first | omega | (simp; done) | (push_cast; omega)) ?_)), rfl, extA, ?_⟩
      rw [List.take_succ_eq_append_getElem hlt, List.all_append, hs]
      simp [h1]
  · skip
    repeat' (first
      | (refine is_ucall ?_; first
        | refine st_callVP (h := hf _ _ extA (List.getElem_mem hlt)) (k := ?_)
        | fail)
      | refine W1 ?_ | refine Wc ?_ | refine W2c ?_ ?_ | refine Wg ?_ | refine W2 ?_ ?_ | exact Wdead | refine Wlive (fun hb => ?_) | intro _ _ _ _ _ _ _ _ | refine We ?_ | refine Wx ?_ | refine Wt ?_ | refine Wm ?_ | refine W2m ?_ ?_ | refine Wl ?_
      | fail)
    obtain rfl : j = xs.length := by omega
    rw [List.take_length] at hs
    exact ⟨by first | (rw [hs]; done) | (rw [hs]; rfl), rfl, rfl⟩

theorem eachC_spec {γ : Type} (E : Env γ) (g : γ) (H : AHeap) (sv fv : Value) (xs : List ClipM) (p : ClipM → Bool) (hn : xs.length ≤ 1000000) (hr : RdS H sv 3 (xs.map encC))
    (hf : ∀ H' x, Ext H H' → x ∈ xs → CallV Try.prog E fv [.agg ⟨encC x⟩] (fun v H2 g' => v = .bool (p x) ∧ H2 = H' ∧ g' = g) H' g) :
    CallJ Try.prog E 130 [sv, fv] (fun v H' g' => v = .bool (xs.all p) ∧ H' = H ∧ g' = g) H g := by
  refine CallJ.tidy ?_
  refine CallJ.enter Try.func130 rfl (by simp only [Try.ntmps130, List.length_cons, List.length_nil, Nat.zero_add, Nat.reduceAdd, Nat.reduceSub, List.replicate_succ, List.replicate_zero, List.cons_append, List.nil_append]; rfl) ?_
  repeat' (first
    | (refine is_ucall ?_; first
      | refine st_callVP (h := hf _ _ extA (List.getElem_mem hlt)) (k := ?_)
      | fail)
    | refine W1 ?_ | refine Wc ?_ | refine W2c ?_ ?_ | refine Wg ?_ | refine W2 ?_ ?_ | exact Wdead | refine Wlive (fun hb => ?_) | intro _ _ _ _ _ _ _ _ | refine We ?_ | refine Wx ?_ | refine Wt ?_ | refine Wm ?_ | refine W2m ?_ ?_ | refine Wl ?_
    | fail)
  refine WPJ.loopN xs.length (fun j (_ : Unit) => [wild, fv, wild, wild, wild, wild, wild, sv, .int .i64 xs.length, .int .i64 j, wild, wild, wild, wild, wild, wild, wild, wild])
    (fun j _ H1 g1 => g1 = g ∧ Ext H H1 ∧ (xs.take j).all p = true) 0 () (Nat.zero_le _) (by repeat' (first | exact Weak.nil | refine Weak.wild ?_ | refine Weak.same ?_ | refine Weak.intEq (by first | omega | (simp; done) | (push_cast; omega)) ?_)) ⟨rfl, extA, rfl⟩ ?_
  rintro j _ H1 g1 hj ⟨rfl, he, hs⟩ hl
  rcases Nat.lt_or_ge j xs.length with hlt | hge
  · have hel : (xs.map encC)[j]? = some (encC xs[j]) := by simp [hlt]
    repeat' (first
      | (refine is_ucall ?_; first
        | refine st_callVP (h := hf _ _ extA (List.getElem_mem hlt)) (k := ?_)
        | fail)
      | refine W1 ?_ | refine Wc ?_ | refine W2c ?_ ?_ | refine Wg ?_ | refine W2 ?_ ?_ | exact Wdead | refine Wlive (fun hb => ?_) | intro _ _ _ _ _ _ _ _ | refine We ?_ | refine Wx ?_ | refine Wt ?_ | refine Wm ?_ | refine W2m ?_ ?_ | refine Wl ?_
      | fail)
    · refine ⟨?_, rfl, rfl⟩
      have h1 : p xs[j] = false := by simpa using hb
      show Value.bool false = _
      congr 1
      exact (List.all_eq_false.2 ⟨xs[j], List.getElem_mem hlt, by simp [h1]⟩).symm
    · have h1 : p xs[j] = true := by simpa using hb
      refine ⟨(), hlt, (by repeat' (first | exact Weak.nil | refine Weak.wild ?_ | refine Weak.same ?_ | refine Weak.intEq (by first | omega | (simp; done) | (push_cast; omega)) ?_)), rfl, extA, ?_⟩
      rw [List.take_succ_eq_append_getElem hlt, List.all_append, hs]
      simp [h1]
  · skip
    repeat' (first
      | (refine is_ucall ?_; first
        | refine st_callVP (h := hf _ _ extA (List.getElem_mem hlt)) (k := ?_)
        | fail)
      | refine W1 ?_ | refine Wc ?_ | refine W2c ?_ ?_ | refine Wg ?_ | refine W2 ?_ ?_ | exact Wdead | refine Wlive (fun hb => ?_) | intro _ _ _ _ _ _ _ _ | refine We ?_ | refine Wx ?_ | refine Wt ?_ | refine Wm ?_ | refine W2m ?_ ?_ | refine Wl ?_
      | fail)
    obtain rfl : j = xs.length := by omega
    rw [List.take_length] at hs
    exact ⟨by first | (rw [hs]; done) | (rw [hs]; rfl), rfl, rfl⟩

end Go.Proofs.Ytehobnpoeodhkaa

namespace Go.Proofs.Ytehobnpoeodhkaa
open Go Go.Abs Go.Proofs
set_option maxHeartbeats 400000
attribute [local irreducible] CallJ OpsJ WPJ CallV MonoJ
def isClockS (r : Int × Int) : Bool := decide (-30 ≤ r.1) && decide (r.1 ≤ r.2) && decide (r.2 ≤ 30)
def isTicketS (r : Int × Int) : Bool := decide (0 ≤ r.1) && decide (r.1 ≤ 8) && (decide (0 ≤ r.2) && decide (r.2 ≤ 9))
def isClipS (m : HouseM) (c : ClipM) : Bool :=
  decide (0 ≤ c.ticket) && decide (c.ticket < m.tickets.length) && (decide (0 ≤ c.clock) && decide (c.clock < m.clocks.length)) && (decide (0 ≤ c.minute) && decide (c.minute ≤ 1439)) && decide (clipsOfS m c.ticket m.clips.length ≤ 2)
def prodS : List (Int × Int) → Int
  | [] => 1
  | r :: l => (r.2 - r.1 + 1) * prodS l
def isValidS (m : HouseM) : Bool := decide (1 ≤ m.hour) && decide (m.hour ≤ 120) && (decide (0 ≤ m.grace) && decide (m.grace ≤ 60)) && (m.clocks.all isClockS && m.tickets.all isTicketS && m.clips.all (isClipS m))
def checkS (m : HouseM) : Int := if isLongS m then 3 else if isValidS m then (if 2000 < prodS m.clocks then 3 else 0) else 1

section
variable {γ : Type} (E : Env γ) (g : γ) (H : AHeap)

theorem isClock_spec (r : Int × Int) : CallJ Try.prog E 127 [.agg ⟨encR r⟩] (fun v H' g' => v = .bool (isClockS r) ∧ H' = H ∧ g' = g) H g := by
  refine CallJ.tidy ?_
  unfold encR isClockS
  refine CallJ.enter Try.func127 rfl (by simp only [Try.ntmps127, List.length_cons, List.length_nil, Nat.zero_add, Nat.reduceSub, List.replicate_succ, List.replicate_zero, List.cons_append, List.nil_append]; rfl) ?_
  repeat' (first
    | refine W1 ?_ | refine Wc ?_ | refine W2c ?_ ?_ | refine Wg ?_ | refine W2 ?_ ?_ | exact Wdead | refine Wlive (fun hb => ?_) | intro _ _ _ _ _ _ _ _ | refine We ?_ | refine Wx ?_ | refine Wt ?_ | refine Wm ?_ | refine W2m ?_ ?_ | refine Wl ?_
    | fail)
  all_goals (refine ⟨?_, rfl, rfl⟩; show Value.bool _ = _; congr 1; all_goals first | rfl | (rw [Bool.eq_iff_iff]; simp only [Bool.and_eq_true, Bool.or_eq_true, decide_eq_true_eq, Bool.not_eq_true', beq_iff_eq, Bool.true_eq_false, Bool.false_eq_true, iff_true, true_iff, iff_false, false_iff, decide_eq_false_iff_not]; omega))

theorem isTicket_spec (r : Int × Int) : CallJ Try.prog E 129 [.agg ⟨encR r⟩] (fun v H' g' => v = .bool (isTicketS r) ∧ H' = H ∧ g' = g) H g := by
  refine CallJ.tidy ?_
  unfold encR isTicketS
  refine CallJ.enter Try.func129 rfl (by simp only [Try.ntmps129, List.length_cons, List.length_nil, Nat.zero_add, Nat.reduceSub, List.replicate_succ, List.replicate_zero, List.cons_append, List.nil_append]; rfl) ?_
  repeat' (first
    | (refine is_ucall ?_; first
      | refine st_callP (h := has_spec _ _ _ _ _ _) (k := ?_)
      | refine st_callP (h := isTub_spec _ _ _ _) (k := ?_)
      | fail)
    | (refine is_umcall ?_; first
      | refine mj_callP (h := has_spec _ _ _ _ _ _) (k := ?_)
      | refine mj_callP (h := isTub_spec _ _ _ _) (k := ?_)
      | fail)
    | refine W1 ?_ | refine Wc ?_ | refine W2c ?_ ?_ | refine Wg ?_ | refine W2 ?_ ?_ | exact Wdead | refine Wlive (fun hb => ?_) | intro _ _ _ _ _ _ _ _ | refine We ?_ | refine Wx ?_ | refine Wt ?_ | refine Wm ?_ | refine W2m ?_ ?_ | refine Wl ?_
    | fail)
  all_goals (refine ⟨?_, rfl, rfl⟩; show Value.bool _ = _; congr 1; all_goals first | rfl | (rw [Bool.eq_iff_iff]; simp only [Bool.and_eq_true, Bool.or_eq_true, decide_eq_true_eq, Bool.not_eq_true', beq_iff_eq, Bool.true_eq_false, Bool.false_eq_true, iff_true, true_iff, iff_false, false_iff, decide_eq_false_iff_not]; omega))

theorem isClip_spec (m : HouseM) (s1 s2 s3 : Value) (c : ClipM) (hm : HouseIs H m s1 s2 s3) : CallJ Try.prog E 125 [hv m s1 s2 s3, .agg ⟨encC c⟩] (fun v H' g' => v = .bool (isClipS m c) ∧ H' = H ∧ g' = g) H g := by
  have hok := hm.cells
  have hr := hm.clocks
  refine CallJ.tidy ?_
  unfold hv encC isClipS
  refine CallJ.enter Try.func125 rfl (by simp only [Try.ntmps125, List.length_cons, List.length_nil, Nat.zero_add, Nat.reduceAdd, Nat.reduceSub, List.replicate_succ, List.replicate_zero, List.cons_append, List.nil_append]; rfl) ?_
  repeat' (first
    | (refine is_ucall ?_; first
      | refine st_callP (h := has_spec _ _ _ _ _ _) (k := ?_)
      | refine st_callP (h := isTub_spec _ _ _ _) (k := ?_)
      | refine st_callP (h := hasTicket_spec _ _ _ m s1 s2 s3 _ (hm.ext extA)) (k := ?_)
      | refine st_callP (h := clipsOf_spec _ _ _ m s1 s2 s3 _ (hm.ext extA)) (k := ?_)
      | fail)
    | (refine is_umcall ?_; first
      | refine mj_callP (h := has_spec _ _ _ _ _ _) (k := ?_)
      | refine mj_callP (h := isTub_spec _ _ _ _) (k := ?_)
      | refine mj_callP (h := hasTicket_spec _ _ _ m s1 s2 s3 _ (hm.ext extA)) (k := ?_)
      | refine mj_callP (h := clipsOf_spec _ _ _ m s1 s2 s3 _ (hm.ext extA)) (k := ?_)
      | fail)
    | refine W1 ?_ | refine Wc ?_ | refine W2c ?_ ?_ | refine Wg ?_ | refine W2 ?_ ?_ | exact Wdead | refine Wlive (fun hb => ?_) | intro _ _ _ _ _ _ _ _ | refine We ?_ | refine Wx ?_ | refine Wt ?_ | refine Wm ?_ | refine W2m ?_ ?_ | refine Wl ?_
    | fail)
  all_goals (refine ⟨?_, rfl, rfl⟩; show Value.bool _ = _; congr 1; all_goals first | rfl | (rw [Bool.eq_iff_iff]; simp only [Bool.and_eq_true, Bool.or_eq_true, decide_eq_true_eq, Bool.not_eq_true', beq_iff_eq, Bool.true_eq_false, Bool.false_eq_true, iff_true, true_iff, iff_false, false_iff, decide_eq_false_iff_not]; omega))
end
end Go.Proofs.Ytehobnpoeodhkaa

namespace Go.Proofs.Ytehobnpoeodhkaa
open Go Go.Abs Go.Proofs
set_option maxHeartbeats 400000
attribute [local irreducible] CallJ OpsJ WPJ CallV MonoJ
theorem prodS_snoc : ∀ (l : List (Int × Int)) (r : Int × Int), prodS (l ++ [r]) = prodS l * (r.2 - r.1 + 1)
  | [], r => by simp [prodS]
  | a :: l, r => by simp only [List.cons_append, prodS, prodS_snoc l r, Int.mul_assoc]
theorem prodS_bd : ∀ (l : List (Int × Int)), (∀ r ∈ l, isClockS r = true) → 1 ≤ prodS l ∧ prodS l ≤ 61 ^ l.length
  | [], _ => by simp [prodS]
  | r :: l, h => by
    have h1 := h r (by simp)
    have h2 := prodS_bd l fun x hx => h x (by simp [hx])
    simp only [isClockS, Bool.and_eq_true, decide_eq_true_eq] at h1
    have h3 : 1 ≤ r.2 - r.1 + 1 := by omega
    have h4 : r.2 - r.1 + 1 ≤ 61 := by omega
    simp only [prodS, List.length_cons]
    refine ⟨?_, ?_⟩
    · have := Int.mul_le_mul h3 h2.1 (by omega) (by omega); omega
    · have := Int.mul_le_mul h4 h2.2 (by omega) (by omega)
      rw [Int.pow_succ, Int.mul_comm (61 ^ l.length) 61]; exact this

theorem p61 (k : Nat) (h : k ≤ 4) : (61 : Int) ^ k ≤ 13845841 := by
  rcases (by omega : k = 0 ∨ k = 1 ∨ k = 2 ∨ k = 3 ∨ k = 4) with rfl | rfl | rfl | rfl | rfl <;> decide

section
variable {γ : Type} (E : Env γ) (g : γ) (H : AHeap)

theorem sizes_spec (m : HouseM) (s1 s2 s3 : Value) (hm : HouseIs H m s1 s2 s3) (hc : ∀ r ∈ m.clocks, isClockS r = true) (hn : m.clocks.length ≤ 4) :
    CallJ Try.prog E 86 [hv m s1 s2 s3] (fun v H' g' => v = .int .i64 (prodS m.clocks) ∧ H' = H ∧ g' = g) H g := by
  have hok := hm.cells
  have hr := hm.clocks
  have hn3 := hm.n1
  refine CallJ.tidy ?_
  unfold hv
  refine CallJ.enter Try.func86 rfl (by simp only [Try.ntmps86, List.length_cons, List.length_nil, Nat.zero_add, Nat.reduceSub, List.replicate_succ, List.replicate_zero, List.cons_append, List.nil_append]; rfl) ?_
  repeat' (first
    | refine W1 ?_ | refine Wc ?_ | refine W2c ?_ ?_ | refine Wg ?_ | refine W2 ?_ ?_ | exact Wdead | refine Wlive (fun hb => ?_) | intro _ _ _ _ _ _ _ _ | refine We ?_ | refine Wx ?_ | refine Wt ?_ | refine Wm ?_ | refine W2m ?_ ?_ | refine Wl ?_
    | fail)
  refine WPJ.loopN m.clocks.length (fun j (s : Int) => [wild, wild, wild, .int .i64 s, wild, wild, wild, s1, .int .i64 m.clocks.length, .int .i64 j, wild, wild, wild, wild, wild, wild, wild, wild, wild, wild, wild, wild, wild])
    (fun j s H1 g1 => g1 = g ∧ Ext H H1 ∧ s = prodS (m.clocks.take j)) 0 1 (Nat.zero_le _) (by repeat' (first | exact Weak.nil | refine Weak.wild ?_ | refine Weak.same ?_ | refine Weak.intEq (by first | omega | (simp; done) | (push_cast; omega)) ?_)) ⟨rfl, extA, rfl⟩ ?_
  rintro j s H1 g1 hj ⟨rfl, he, hs⟩ hl
  rcases Nat.lt_or_ge j m.clocks.length with hlt | hge
  · have hel : (m.clocks.map encR)[j]? = some (encR m.clocks[j]) := by simp [hlt]
    have hsucc : prodS (m.clocks.take (j + 1)) = s * (m.clocks[j].2 - m.clocks[j].1 + 1) := by rw [List.take_succ_eq_append_getElem hlt, prodS_snoc, hs]
    have hb1 := prodS_bd (m.clocks.take (j + 1)) fun r hr => hc r (List.mem_of_mem_take hr)
    have hb2 := hc m.clocks[j] (List.getElem_mem hlt)
    simp only [isClockS, Bool.and_eq_true, decide_eq_true_eq] at hb2
    have hb3 := p61 (m.clocks.take (j + 1)).length (by simp; omega)
    rw [hsucc] at hb1
    repeat' (first
      | refine W1 ?_ | refine Wc ?_ | refine W2c ?_ ?_ | refine Wg ?_ | refine W2 ?_ ?_ | exact Wdead | refine Wlive (fun hb => ?_) | intro _ _ _ _ _ _ _ _ | refine We ?_ | refine Wx ?_ | refine Wt ?_ | refine Wm ?_ | refine W2m ?_ ?_ | refine Wl ?_
      | fail)
    exact ⟨_, hlt, (by repeat' (first | exact Weak.nil | refine Weak.wild ?_ | refine Weak.same ?_ | refine Weak.intEq (by first | omega | (simp; done) | (push_cast; omega)) ?_)), rfl, extA, hsucc.symm⟩
  · skip
    repeat' (first
      | refine W1 ?_ | refine Wc ?_ | refine W2c ?_ ?_ | refine Wg ?_ | refine W2 ?_ ?_ | exact Wdead | refine Wlive (fun hb => ?_) | intro _ _ _ _ _ _ _ _ | refine We ?_ | refine Wx ?_ | refine Wt ?_ | refine Wm ?_ | refine W2m ?_ ?_ | refine Wl ?_
      | fail)
    obtain rfl : j = m.clocks.length := by omega
    rw [List.take_length] at hs
    exact ⟨by first | (rw [← hs]; done) | (rw [← hs]; rfl), rfl, rfl⟩

end

section
variable {γ : Type} (E : Env γ) (g : γ) (H : AHeap)
theorem isClock_V (r : Int × Int) : CallV Try.prog E (.func (.func 127) ⟨[]⟩ ⟨[]⟩) [.agg ⟨encR r⟩] (fun v H' g' => v = .bool (isClockS r) ∧ H' = H ∧ g' = g) H g := CallV.of_func EntC.ent (isClock_spec E g H r)
theorem isTicket_V (r : Int × Int) : CallV Try.prog E (.func (.func 129) ⟨[]⟩ ⟨[]⟩) [.agg ⟨encR r⟩] (fun v H' g' => v = .bool (isTicketS r) ∧ H' = H ∧ g' = g) H g := CallV.of_func EntC.ent (isTicket_spec E g H r)
theorem isClip_V (m : HouseM) (s1 s2 s3 : Value) (c : ClipM) (hm : HouseIs H m s1 s2 s3) : CallV Try.prog E (.func (.func 125) ⟨[hv m s1 s2 s3]⟩ ⟨[]⟩) [.agg ⟨encC c⟩] (fun v H' g' => v = .bool (isClipS m c) ∧ H' = H ∧ g' = g) H g := CallV.of_func EntC.ent (isClip_spec E g H m s1 s2 s3 c hm)

theorem isValid_spec (m : HouseM) (s1 s2 s3 : Value) (hm : HouseIs H m s1 s2 s3) : CallJ Try.prog E 85 [hv m s1 s2 s3] (fun v H' g' => v = .bool (isValidS m) ∧ H' = H ∧ g' = g) H g := by
  have hok := hm.cells
  refine CallJ.tidy ?_
  unfold hv isValidS
  refine CallJ.enter Try.func85 rfl (by simp only [Try.ntmps85, List.length_cons, List.length_nil, Nat.zero_add, Nat.reduceSub, List.replicate_succ, List.replicate_zero, List.cons_append, List.nil_append]; rfl) ?_
  repeat' (first
    | (refine is_ucall ?_; first
      | refine st_callP (h := has_spec _ _ _ _ _ _) (k := ?_)
      | refine st_callP (h := eachR_spec _ _ _ s1 _ m.clocks isClockS hm.n1 (hm.clocks.ext extA) (fun _ _ _ _ => isClock_V _ _ _ _)) (k := ?_)
      | refine st_callP (h := eachT_spec _ _ _ s2 _ m.tickets isTicketS hm.n2 (hm.tickets.ext extA) (fun _ _ _ _ => isTicket_V _ _ _ _)) (k := ?_)
      | refine st_callP (h := eachC_spec _ _ _ s3 _ m.clips (isClipS m) hm.n3 (hm.clips.ext extA) (fun _ _ he _ => isClip_V _ _ _ m s1 s2 s3 _ (hm.ext (Ext.trans extA he)))) (k := ?_)
      | fail)
    | (refine is_umcall ?_; first
      | refine mj_callP (h := has_spec _ _ _ _ _ _) (k := ?_)
      | refine mj_callP (h := eachR_spec _ _ _ s1 _ m.clocks isClockS hm.n1 (hm.clocks.ext extA) (fun _ _ _ _ => isClock_V _ _ _ _)) (k := ?_)
      | refine mj_callP (h := eachT_spec _ _ _ s2 _ m.tickets isTicketS hm.n2 (hm.tickets.ext extA) (fun _ _ _ _ => isTicket_V _ _ _ _)) (k := ?_)
      | refine mj_callP (h := eachC_spec _ _ _ s3 _ m.clips (isClipS m) hm.n3 (hm.clips.ext extA) (fun _ _ he _ => isClip_V _ _ _ m s1 s2 s3 _ (hm.ext (Ext.trans extA he)))) (k := ?_)
      | fail)
    | refine W1 ?_ | refine Wc ?_ | refine W2c ?_ ?_ | refine Wg ?_ | refine W2 ?_ ?_ | exact Wdead | refine Wlive (fun hb => ?_) | intro _ _ _ _ _ _ _ _ | refine We ?_ | refine Wx ?_ | refine Wt ?_ | refine Wm ?_ | refine W2m ?_ ?_ | refine Wl ?_
    | fail)
  all_goals (refine ⟨?_, rfl, rfl⟩; show Value.bool _ = _; congr 1; simp [*])
  all_goals (intros; omega)
end
end Go.Proofs.Ytehobnpoeodhkaa

namespace Go.Proofs.Ytehobnpoeodhkaa
open Go Go.Abs Go.Proofs
set_option maxHeartbeats 400000
attribute [local irreducible] CallJ OpsJ WPJ CallV MonoJ
section
variable {γ : Type} (E : Env γ) (g : γ) (H : AHeap)
theorem isValidS.clocks {m : HouseM} (h : isValidS m = true) : ∀ r ∈ m.clocks, isClockS r = true := by
  simp only [isValidS, Bool.and_eq_true, List.all_eq_true] at h
  exact h.2.1.1
theorem isLongS.clocks {m : HouseM} (h : isLongS m = false) : m.clocks.length ≤ 4 := by
  simp only [isLongS, Bool.or_eq_false_iff, decide_eq_false_iff_not] at h
  omega

theorem CheckHouse_spec (m : HouseM) (s1 s2 s3 : Value) (hm : HouseIs H m s1 s2 s3) : CallJ Try.prog E 30 [hv m s1 s2 s3] (fun v H' g' => v = .int .i64 (checkS m) ∧ H' = H ∧ g' = g) H g := by
  have hok := hm.cells
  refine CallJ.tidy ?_
  unfold hv
  refine CallJ.enter Try.func30 rfl (by simp only [Try.ntmps30, List.length_cons, List.length_nil, Nat.zero_add, Nat.reduceSub, List.replicate_succ, List.replicate_zero, List.cons_append, List.nil_append]; rfl) ?_
  repeat' (first
    | (refine is_ucall ?_; first
      | refine st_callP (h := isLong_spec _ _ _ m s1 s2 s3 (hm.ext extA)) (k := ?_)
      | refine st_callP (h := isValid_spec _ _ _ m s1 s2 s3 (hm.ext extA)) (k := ?_)
      | refine st_callP (h := sizes_spec _ _ _ m s1 s2 s3 (hm.ext extA) (isValidS.clocks (by assumption)) (isLongS.clocks (by assumption))) (k := ?_)
      | fail)
    | (refine is_umcall ?_; first
      | refine mj_callP (h := isLong_spec _ _ _ m s1 s2 s3 (hm.ext extA)) (k := ?_)
      | refine mj_callP (h := isValid_spec _ _ _ m s1 s2 s3 (hm.ext extA)) (k := ?_)
      | refine mj_callP (h := sizes_spec _ _ _ m s1 s2 s3 (hm.ext extA) (isValidS.clocks (by assumption)) (isLongS.clocks (by assumption))) (k := ?_)
      | fail)
    | refine W1 ?_ | refine Wc ?_ | refine W2c ?_ ?_ | refine Wg ?_ | refine W2 ?_ ?_ | exact Wdead | refine Wlive (fun hb => ?_) | intro _ _ _ _ _ _ _ _ | refine We ?_ | refine Wx ?_ | refine Wt ?_ | refine Wm ?_ | refine W2m ?_ ?_ | refine Wl ?_
    | fail)
  all_goals (refine ⟨?_, rfl, rfl⟩; show Value.int _ _ = _; congr 1; simp only [checkS]; first | (simp [*]; done) | (simp [*]; omega))
end
end Go.Proofs.Ytehobnpoeodhkaa

namespace Go.Proofs.Ytehobnpoeodhkaa
open Go Go.Abs Go.Proofs
set_option maxHeartbeats 400000
attribute [local irreducible] CallJ OpsJ WPJ CallV MonoJ
/-- A house at work. -/
structure StayM where
  clips : Int
  came : Int
  went : Int
abbrev encS (s : StayM) : List Value := [.int .i64 s.clips, .int .i64 s.came, .int .i64 s.went]
structure WorkM where
  house : HouseM
  errors : List Int
  stays : List StayM
structure WorkIs (H : AHeap) (w : WorkM) (ws : List Value) (s1 s2 s3 : Value) : Prop where
  house : HouseIs H w.house s1 s2 s3
  len : ws.length = 27
  ok : ws.all cellOk = true
  head : ws.take 5 = [.int .i64 w.house.hour, .int .i64 w.house.grace, s1, s2, s3]
  ne : w.errors.length = 4
  ns : w.stays.length = 6
  err : ∀ (c : Nat) (e : Int), w.errors[c]? = some e → ws[5 + c]? = some (.int .i64 e)
  stay : ∀ (t : Nat) (s : StayM), w.stays[t]? = some s → (ws.drop (9 + t * 3)).take 3 = encS s

section
variable {γ : Type} (E : Env γ) (g : γ) (H : AHeap)

theorem trueMinute_spec (es : List Value) (c : ClipM) (e : Int) (_hl : es.length = 4) (hok : es.all cellOk = true) (h0 : 0 ≤ c.clock) (h4 : c.clock < 4) (he : es[c.clock.toNat]? = some (.int .i64 e)) (hb : -1000000 ≤ c.minute - e ∧ c.minute - e ≤ 1000000) :
    CallJ Try.prog E 81 [.agg ⟨es⟩, .agg ⟨encC c⟩] (fun v H' g' => v = .int .i64 (c.minute - e) ∧ H' = H ∧ g' = g) H g := by
  have he' : es[0 + c.clock.toNat * 1]? = some (.int .i64 e) := by simpa using he
  refine CallJ.tidy ?_
  unfold encC
  refine CallJ.enter Try.func81 rfl (by simp only [Try.ntmps81, List.length_cons, List.length_nil, Nat.zero_add, Nat.reduceAdd, Nat.reduceSub, List.replicate_succ, List.replicate_zero, List.cons_append, List.nil_append]; rfl) ?_
  repeat' (first
    | refine W1 ?_ | refine Wc ?_ | refine W2c ?_ ?_ | refine Wg ?_ | refine W2 ?_ ?_ | exact Wdead | refine Wlive (fun hb => ?_) | intro _ _ _ _ _ _ _ _ | refine We ?_ | refine Wx ?_ | refine Wt ?_ | refine Wm ?_ | refine W2m ?_ ?_ | refine Wl ?_
    | fail)
  refine WPJ.draw 8 mixed (by kernel_rfl) (by kernel_rfl) (by kernel_rfl) (by decide) ?_
  refine MonoJ.normA ?_
  repeat' (first
    | refine W1 ?_ | refine Wc ?_ | refine W2c ?_ ?_ | refine Wg ?_ | refine W2 ?_ ?_ | exact Wdead | refine Wlive (fun hb => ?_) | intro _ _ _ _ _ _ _ _ | refine We ?_ | refine Wx ?_ | refine Wt ?_ | refine Wm ?_ | refine W2m ?_ ?_ | refine Wl ?_
    | fail)
  exact ⟨rfl, rfl, rfl⟩

def hoursS (hour grace : Int) (s : StayM) : Int := if s.clips < 2 then 0 else (max (s.went - s.came - grace) 0 + hour - 1) / hour
theorem WorkIs.at {H : AHeap} {w : WorkM} {ws : List Value} {s1 s2 s3 : Value} (hw : WorkIs H w ws s1 s2 s3) : ws[0]? = some (.int .i64 w.house.hour) ∧ ws[1]? = some (.int .i64 w.house.grace) ∧ ws[2]? = some s1 ∧ ws[3]? = some s2 ∧ ws[4]? = some s3 := by
  have h := hw.head
  have k : ∀ (j : Nat), j < 5 → ws[j]? = ([.int .i64 w.house.hour, .int .i64 w.house.grace, s1, s2, s3] : List Value)[j]? := fun j hj => by rw [← h, List.getElem?_take_of_lt hj]
  exact ⟨k 0 (by omega), k 1 (by omega), k 2 (by omega), k 3 (by omega), k 4 (by omega)⟩

theorem hoursOf_spec (w : WorkM) (ws : List Value) (s1 s2 s3 : Value) (t : Int) (s : StayM) (hw : WorkIs H w ws s1 s2 s3) (ht0 : 0 ≤ t) (ht1 : t < 6) (hst : w.stays[t.toNat]? = some s) (hh : 0 < w.house.hour ∧ w.house.hour ≤ 1000000)
   (hb2 : 0 ≤ w.house.grace ∧ w.house.grace ≤ 1000000) (hb3 : 2 ≤ s.clips → (-1000000 ≤ s.came ∧ s.came ≤ 1000000) ∧ (-1000000 ≤ s.went ∧ s.went ≤ 1000000)) :
   CallJ Try.prog E 92 [.agg ⟨ws⟩, .int .i64 t] (fun v H' g' => v = .int .i64 (hoursS w.house.hour w.house.grace s) ∧ H' = H ∧ g' = g) H g := by
  have hok := hw.ok
  have hl := hw.len
  obtain ⟨h0, h1, _, _, _⟩ := hw.at
  have hs : (ws.drop (0 + 9 + t.toNat * 3)).take 3 = encS s := hw.stay _ _ hst
  have hs' : (ws.drop (9 + t.toNat * 3)).take 3 = encS s := hw.stay _ _ hst
  obtain ⟨cl, came, went⟩ := s
  simp only [encS] at hs hs' hb3
  refine CallJ.tidy ?_
  rcases Int.lt_or_le cl 2 with hlt | hge
  · skip
    refine CallJ.enter Try.func92 rfl (by simp only [Try.ntmps92, List.length_cons, List.length_nil, Nat.zero_add, Nat.reduceAdd, Nat.reduceSub, List.replicate_succ, List.replicate_zero, List.cons_append, List.nil_append]; rfl) ?_
    repeat' (first
      | refine W1 ?_ | refine Wc ?_ | refine W2c ?_ ?_ | refine Wg ?_ | refine W2 ?_ ?_ | exact Wdead | refine Wlive (fun hb => ?_) | intro _ _ _ _ _ _ _ _ | refine We ?_ | refine Wx ?_ | refine Wt ?_ | refine Wm ?_ | refine W2m ?_ ?_ | refine Wl ?_
      | fail)
    exact ⟨by simp only [hoursS]; rw [if_pos hlt], rfl, rfl⟩
  · have hb4 := hb3 hge
    refine CallJ.enter Try.func92 rfl (by simp only [Try.ntmps92, List.length_cons, List.length_nil, Nat.zero_add, Nat.reduceAdd, Nat.reduceSub, List.replicate_succ, List.replicate_zero, List.cons_append, List.nil_append]; rfl) ?_
    repeat' (first
      | refine W1 ?_ | refine Wc ?_ | refine W2c ?_ ?_ | refine Wg ?_ | refine W2 ?_ ?_ | exact Wdead | refine Wlive (fun hb => ?_) | intro _ _ _ _ _ _ _ _ | refine We ?_ | refine Wx ?_ | refine Wt ?_ | refine Wm ?_ | refine W2m ?_ ?_ | refine Wl ?_
      | fail)
    refine ⟨?_, rfl, rfl⟩
    simp only [hoursS]
    rw [if_neg (show ¬ cl < 2 by omega), show max (went - came - w.house.grace) 0 = (if 0 > went - came - w.house.grace then 0 else went - came - w.house.grace) by omega]

theorem errorOf_spec (w : WorkM) (ws : List Value) (s1 s2 s3 : Value) (c e : Int) (hw : WorkIs H w ws s1 s2 s3) (h0 : 0 ≤ c) (h4 : c < 4) (he : w.errors[c.toNat]? = some e) :
   CallJ Try.prog E 90 [.agg ⟨ws⟩, .int .i64 c] (fun v H' g' => v = .int .i64 e ∧ H' = H ∧ g' = g) H g := by
  have hok := hw.ok
  have hl := hw.len
  have hs : ws[0 + 5 + c.toNat * 1]? = some (.int .i64 e) := by have := hw.err _ _ he; simpa using this
  have hs' : ws[5 + c.toNat]? = some (.int .i64 e) := hw.err _ _ he
  refine CallJ.tidy ?_
  refine CallJ.enter Try.func90 rfl (by simp only [Try.ntmps90, List.length_cons, List.length_nil, Nat.zero_add, Nat.reduceAdd, Nat.reduceSub, List.replicate_succ, List.replicate_zero, List.cons_append, List.nil_append]; rfl) ?_
  repeat' (first
    | refine W1 ?_ | refine Wc ?_ | refine W2c ?_ ?_ | refine Wg ?_ | refine W2 ?_ ?_ | exact Wdead | refine Wlive (fun hb => ?_) | intro _ _ _ _ _ _ _ _ | refine We ?_ | refine Wx ?_ | refine Wt ?_ | refine Wm ?_ | refine W2m ?_ ?_ | refine Wl ?_
    | fail)
  exact ⟨rfl, rfl, rfl⟩
end
end Go.Proofs.Ytehobnpoeodhkaa

namespace Go.Proofs.Ytehobnpoeodhkaa
open Go Go.Abs Go.Proofs
set_option maxHeartbeats 400000
attribute [local irreducible] CallJ OpsJ WPJ CallV MonoJ
section
variable {γ : Type} (E : Env γ) (g : γ) (H : AHeap)
theorem ticket_at {H : AHeap} {m : HouseM} {s1 s2 s3 : Value} (_hm : HouseIs H m s1 s2 s3) {t : Nat} {r : Int × Int} (h : m.tickets[t]? = some r) : (m.tickets.map encR)[t]? = some (encR r) := by simp [h]

theorem stayedTooLong_spec (w : WorkM) (ws : List Value) (s1 s2 s3 : Value) (t : Int) (s : StayM) (tk : Int × Int) (hw : WorkIs H w ws s1 s2 s3) (ht0 : 0 ≤ t) (ht1 : t < 6) (hst : w.stays[t.toNat]? = some s) (htk : w.house.tickets[t.toNat]? = some tk) (hh : 0 < w.house.hour ∧ w.house.hour ≤ 1000000)
   (hb2 : 0 ≤ w.house.grace ∧ w.house.grace ≤ 1000000) (hb3 : 2 ≤ s.clips → (-1000000 ≤ s.came ∧ s.came ≤ 1000000) ∧ (-1000000 ≤ s.went ∧ s.went ≤ 1000000)) :
   CallJ Try.prog E 97 [.agg ⟨ws⟩, .int .i64 t] (fun v H' g' => v = .bool (decide (tk.2 < hoursS w.house.hour w.house.grace s)) ∧ H' = H ∧ g' = g) H g := by
  have hok := hw.ok
  have hl := hw.len
  obtain ⟨_, _, _, h3, _⟩ := hw.at
  have h3' : ws[0 + 3]? = some s2 := h3
  have hel := ticket_at hw.house htk
  have hr := hw.house.tickets
  have hall : List.take 27 ws = ws := List.take_of_length_le (by omega)
  have hwx : WorkIs (H ++ [.row ws 1 true]) w ws s1 s2 s3 := ⟨hw.house.ext (Ext.app (Ext.refl _) _), hw.len, hw.ok, hw.head, hw.ne, hw.ns, hw.err, hw.stay⟩
  refine CallJ.tidy ?_
  refine CallJ.enter Try.func97 rfl (by simp only [Try.ntmps97, List.length_cons, List.length_nil, Nat.zero_add, Nat.reduceAdd, Nat.reduceSub, List.replicate_succ, List.replicate_zero, List.cons_append, List.nil_append]; rfl) ?_
  repeat' (first
    | (refine is_ucall ?_; first
      | refine st_callP (h := hoursOf_spec _ _ _ w ws s1 s2 s3 _ s (by assumption) ht0 ht1 hst hh hb2 hb3) (k := ?_)
      | fail)
    | (refine is_umcall ?_; first
      | refine mj_callP (h := hoursOf_spec _ _ _ w ws s1 s2 s3 _ s (by assumption) ht0 ht1 hst hh hb2 hb3) (k := ?_)
      | fail)
    | refine W1 ?_ | refine Wc ?_ | refine W2c ?_ ?_ | refine Wg ?_ | refine W2 ?_ ?_ | exact Wdead | refine Wlive (fun hb => ?_) | intro _ _ _ _ _ _ _ _ | refine We ?_ | refine Wx ?_ | refine Wt ?_ | refine Wm ?_ | refine W2m ?_ ?_ | refine Wl ?_
    | fail)
  refine WPJ.draw 12 mixed (by kernel_rfl) (by kernel_rfl) (by kernel_rfl) (by decide) ?_
  refine MonoJ.normA ?_
  repeat' (first
    | (refine is_ucall ?_; first
      | refine st_callP (h := hoursOf_spec _ _ _ w ws s1 s2 s3 _ s (by assumption) ht0 ht1 hst hh hb2 hb3) (k := ?_)
      | fail)
    | (refine is_umcall ?_; first
      | refine mj_callP (h := hoursOf_spec _ _ _ w ws s1 s2 s3 _ s (by assumption) ht0 ht1 hst hh hb2 hb3) (k := ?_)
      | fail)
    | refine W1 ?_ | refine Wc ?_ | refine W2c ?_ ?_ | refine Wg ?_ | refine W2 ?_ ?_ | exact Wdead | refine Wlive (fun hb => ?_) | intro _ _ _ _ _ _ _ _ | refine We ?_ | refine Wx ?_ | refine Wt ?_ | refine Wm ?_ | refine W2m ?_ ?_ | refine Wl ?_
    | fail)
  exact ⟨rfl, rfl, rfl⟩


def isInUseS (m : HouseM) (tub : Int) (n : Nat) : Bool := (List.range n).any fun k => decide ((m.tickets.getD k (0, 0)).1 = tub) && decide (clipsOfS m k m.clips.length = 1)

theorem isInUse_spec (m : HouseM) (s1 s2 s3 : Value) (tub : Int) (hm : HouseIs H m s1 s2 s3) : CallJ Try.prog E 105 [hv m s1 s2 s3, .int .i64 tub] (fun v H' g' => v = .bool (isInUseS m tub m.tickets.length) ∧ H' = H ∧ g' = g) H g := by
  have hok := hm.cells
  have hr := hm.tickets
  have hn := hm.n2
  refine CallJ.tidy ?_
  unfold hv
  refine CallJ.enter Try.func105 rfl (by simp only [Try.ntmps105, List.length_cons, List.length_nil, Nat.zero_add, Nat.reduceAdd, Nat.reduceSub, List.replicate_succ, List.replicate_zero, List.cons_append, List.nil_append]; rfl) ?_
  repeat' (first
    | (refine is_ucall ?_; first
      | refine st_callP (h := clipsOf_spec _ _ _ m s1 s2 s3 _ (hm.ext extA)) (k := ?_)
      | fail)
    | (refine is_umcall ?_; first
      | refine mj_callP (h := clipsOf_spec _ _ _ m s1 s2 s3 _ (hm.ext extA)) (k := ?_)
      | fail)
    | refine W1 ?_ | refine Wc ?_ | refine W2c ?_ ?_ | refine Wg ?_ | refine W2 ?_ ?_ | exact Wdead | refine Wlive (fun hb => ?_) | intro _ _ _ _ _ _ _ _ | refine We ?_ | refine Wx ?_ | refine Wt ?_ | refine Wm ?_ | refine W2m ?_ ?_ | refine Wl ?_
    | fail)
  refine WPJ.loopN m.tickets.length (fun j (_ : Unit) => [wild, .int .i64 tub, .pointer (some ⟨H.length, 0, none⟩), wild, wild, wild, wild, wild, s2, .int .i64 m.tickets.length, .int .i64 j, wild, wild, wild, wild, wild, wild, wild, wild, wild, wild, wild, wild, wild, wild, wild])
    (fun j _ H1 g1 => g1 = g ∧ Ext H H1 ∧ H1[H.length]? = some (.row [.int .i64 m.hour, .int .i64 m.grace, s1, s2, s3] 1 true) ∧ isInUseS m tub j = false) 0 () (Nat.zero_le _) (by repeat' (first | exact Weak.nil | refine Weak.wild ?_ | refine Weak.same ?_ | refine Weak.intEq (by first | omega | (simp; done) | (push_cast; omega)) ?_)) ⟨rfl, extA, get_new0 rfl, rfl⟩ ?_
  rintro j _ H1 g1 hj ⟨rfl, he, hbox, hs⟩ hl
  rcases Nat.lt_or_ge j m.tickets.length with hlt | hge
  · have hel : (m.tickets.map encR)[j]? = some (encR m.tickets[j]) := by simp [hlt]
    have hsucc : isInUseS m tub (j + 1) = (decide (m.tickets[j].1 = tub) && decide (clipsOfS m j m.clips.length = 1)) := by
      have hs' := hs
      unfold isInUseS at hs' ⊢
      rw [List.range_succ, List.any_append, hs']
      simp [List.getD_eq_getElem?_getD, hlt]
    have hmono : ∀ n, j < n → isInUseS m tub (j + 1) = true → isInUseS m tub n = true := by
      intro n hn h
      unfold isInUseS at h ⊢
      obtain ⟨k, hk, hk2⟩ := List.any_eq_true.1 h
      exact List.any_eq_true.2 ⟨k, by simp at hk ⊢; omega, hk2⟩
    repeat' (first
      | (refine is_ucall ?_; first
        | refine st_callP (h := clipsOf_spec _ _ _ m s1 s2 s3 _ (hm.ext extA)) (k := ?_)
        | fail)
      | (refine is_umcall ?_; first
        | refine mj_callP (h := clipsOf_spec _ _ _ m s1 s2 s3 _ (hm.ext extA)) (k := ?_)
        | fail)
      | refine W1 ?_ | refine Wc ?_ | refine W2c ?_ ?_ | refine Wg ?_ | refine W2 ?_ ?_ | exact Wdead | refine Wlive (fun hb => ?_) | intro _ _ _ _ _ _ _ _ | refine We ?_ | refine Wx ?_ | refine Wt ?_ | refine Wm ?_ | refine W2m ?_ ?_ | refine Wl ?_
      | fail)
    · refine ⟨?_, rfl, rfl⟩
      have h1 : isInUseS m tub (j + 1) = true := by rw [hsucc]; simp [*]
      rw [hmono _ hlt h1]
    all_goals exact ⟨(), hlt, (by repeat' (first | exact Weak.nil | refine Weak.wild ?_ | refine Weak.same ?_ | refine Weak.intEq (by first | omega | (simp; done) | (push_cast; omega)) ?_)), rfl, extA, get_old hbox, by rw [hsucc]; simp [*]⟩
  · skip
    repeat' (first
      | (refine is_ucall ?_; first
        | refine st_callP (h := clipsOf_spec _ _ _ m s1 s2 s3 _ (hm.ext extA)) (k := ?_)
        | fail)
      | (refine is_umcall ?_; first
        | refine mj_callP (h := clipsOf_spec _ _ _ m s1 s2 s3 _ (hm.ext extA)) (k := ?_)
        | fail)
      | refine W1 ?_ | refine Wc ?_ | refine W2c ?_ ?_ | refine Wg ?_ | refine W2 ?_ ?_ | exact Wdead | refine Wlive (fun hb => ?_) | intro _ _ _ _ _ _ _ _ | refine We ?_ | refine Wx ?_ | refine Wt ?_ | refine Wm ?_ | refine W2m ?_ ?_ | refine Wl ?_
      | fail)
    obtain rfl : j = m.tickets.length := by omega
    exact ⟨by first | (rw [hs]; done) | (rw [hs]; rfl), rfl, rfl⟩
end
end Go.Proofs.Ytehobnpoeodhkaa

namespace Go.Proofs.Ytehobnpoeodhkaa
open Go Go.Abs Go.Proofs
set_option maxHeartbeats 400000
attribute [local irreducible] CallJ OpsJ WPJ CallV MonoJ
abbrev encE (es : List Int) : List Value := es.map (.int .i64)
def trueM (es : List Int) (c : ClipM) : Int := c.minute - es.getD c.clock.toNat 0
def isTruthS (es : List Int) : Int → List ClipM → Bool
  | _, [] => true
  | last, c :: l => decide (last ≤ trueM es c) && isTruthS es (trueM es c) l
/-- Clips that can be read with errors. -/
def Sound (es : List Int) (cs : List ClipM) : Prop := es.length = 4 ∧ (∀ e ∈ es, -100000 ≤ e ∧ e ≤ 100000) ∧ ∀ c ∈ cs, 0 ≤ c.clock ∧ c.clock < 4 ∧ -100000 ≤ c.minute ∧ c.minute ≤ 100000
theorem encE_ok (es : List Int) : (encE es).all cellOk = true := by simp [encE, cellOk]
theorem Sound.at {es : List Int} {cs : List ClipM} (h : Sound es cs) {c : ClipM} (hc : c ∈ cs) : (encE es)[c.clock.toNat]? = some (.int .i64 (es.getD c.clock.toNat 0)) ∧ -1000000 ≤ c.minute - es.getD c.clock.toNat 0 ∧ c.minute - es.getD c.clock.toNat 0 ≤ 1000000 := by
  obtain ⟨h1, h2, h3⟩ := h
  obtain ⟨a, b, d, e⟩ := h3 c hc
  have hlt : c.clock.toNat < es.length := by omega
  have he : es.getD c.clock.toNat 0 = es[c.clock.toNat] := by simp [List.getD_eq_getElem?_getD, hlt]
  have := h2 _ (List.getElem_mem hlt)
  rw [he]
  refine ⟨by simp [encE, hlt], by omega, by omega⟩

section
variable {γ : Type} (E : Env γ) (g : γ) (H : AHeap)
theorem isTruth_spec (m : HouseM) (s1 s2 s3 : Value) (es : List Int) (hm : HouseIs H m s1 s2 s3) (hS : Sound es m.clips) :
    CallJ Try.prog E 123 [hv m s1 s2 s3, .agg ⟨encE es⟩] (fun v H' g' => v = .bool (isTruthS es (-9223372036854775808) m.clips) ∧ H' = H ∧ g' = g) H g := by
  have hok := hm.cells
  have hokE := encE_ok es
  have hr := hm.clips
  have hn := hm.n3
  have hl4 : (encE es).length = 4 := by simp [encE, hS.1]
  have hall : List.take 4 (encE es) = encE es := List.take_of_length_le (by omega)
  refine CallJ.tidy ?_
  unfold hv
  refine CallJ.enter Try.func123 rfl (by simp only [Try.ntmps123, List.length_cons, List.length_nil, Nat.zero_add, Nat.reduceAdd, Nat.reduceSub, List.replicate_succ, List.replicate_zero, List.cons_append, List.nil_append]; rfl) ?_
  repeat' (first
    | (refine is_ucall ?_; first
      | refine st_callP (h := trueMinute_spec _ _ _ (encE es) m.clips[j] _ (by simp [encE, hS.1]) (encE_ok es) hc1 hc2 hat.1 hat.2) (k := ?_)
      | fail)
    | (refine is_umcall ?_; first
      | refine mj_callP (h := trueMinute_spec _ _ _ (encE es) m.clips[j] _ (by simp [encE, hS.1]) (encE_ok es) hc1 hc2 hat.1 hat.2) (k := ?_)
      | fail)
    | refine W1 ?_ | refine Wc ?_ | refine W2c ?_ ?_ | refine Wg ?_ | refine W2 ?_ ?_ | exact Wdead | refine Wlive (fun hb => ?_) | intro _ _ _ _ _ _ _ _ | refine We ?_ | refine Wx ?_ | refine Wt ?_ | refine Wm ?_ | refine W2m ?_ ?_ | refine Wl ?_
    | fail)
  refine WPJ.loopN m.clips.length (fun j (s : Int) => [wild, wild, wild, .pointer (some ⟨H.length + 1, 0, none⟩), wild, .int .i64 s, wild, wild, wild, wild, s3, .int .i64 m.clips.length, .int .i64 j, wild, wild, wild, wild, wild, wild, wild, wild, wild, wild, wild])
    (fun j s H1 g1 => g1 = g ∧ Ext H H1 ∧ H1[H.length + 1]? = some (.row (encE es) 1 true) ∧ isTruthS es (-9223372036854775808) m.clips = isTruthS es s (m.clips.drop j)) 0 (-9223372036854775808) (Nat.zero_le _) (by repeat' (first | exact Weak.nil | refine Weak.wild ?_ | refine Weak.same ?_ | refine Weak.intEq (by first | omega | (simp; done) | (push_cast; omega)) ?_)) ⟨rfl, extA, get_new rfl, rfl⟩ ?_
  rintro j s H1 g1 hj ⟨rfl, he, hbox, hs⟩ hl
  rcases Nat.lt_or_ge j m.clips.length with hlt | hge
  · have hel : (m.clips.map encC)[j]? = some (encC m.clips[j]) := by simp [hlt]
    have hmem : m.clips[j] ∈ m.clips := List.getElem_mem hlt
    have hat := hS.at hmem
    obtain ⟨hc1, hc2, _, _⟩ := hS.2.2 _ hmem
    rw [List.drop_eq_getElem_cons hlt] at hs
    simp only [isTruthS] at hs
    repeat' (first
      | (refine is_ucall ?_; first
        | refine st_callP (h := trueMinute_spec _ _ _ (encE es) m.clips[j] _ (by simp [encE, hS.1]) (encE_ok es) hc1 hc2 hat.1 hat.2) (k := ?_)
        | fail)
      | (refine is_umcall ?_; first
        | refine mj_callP (h := trueMinute_spec _ _ _ (encE es) m.clips[j] _ (by simp [encE, hS.1]) (encE_ok es) hc1 hc2 hat.1 hat.2) (k := ?_)
        | fail)
      | refine W1 ?_ | refine Wc ?_ | refine W2c ?_ ?_ | refine Wg ?_ | refine W2 ?_ ?_ | exact Wdead | refine Wlive (fun hb => ?_) | intro _ _ _ _ _ _ _ _ | refine We ?_ | refine Wx ?_ | refine Wt ?_ | refine Wm ?_ | refine W2m ?_ ?_ | refine Wl ?_
      | fail)
    · refine ⟨?_, rfl, rfl⟩
      rw [hs, show decide (s ≤ trueM es m.clips[j]) = false from decide_eq_false (by unfold trueM; omega)]; rfl
    · exact ⟨_, hlt, (by repeat' (first | exact Weak.nil | refine Weak.wild ?_ | refine Weak.same ?_ | refine Weak.intEq (by first | omega | (simp; done) | (push_cast; omega)) ?_)), rfl, extA, get_old hbox, by rw [hs, show decide (s ≤ trueM es m.clips[j]) = true from decide_eq_true (by unfold trueM; omega), Bool.true_and]; rfl⟩
  · skip
    repeat' (first
      | (refine is_ucall ?_; first
        | refine st_callP (h := trueMinute_spec _ _ _ (encE es) m.clips[j] _ (by simp [encE, hS.1]) (encE_ok es) hc1 hc2 hat.1 hat.2) (k := ?_)
        | fail)
      | (refine is_umcall ?_; first
        | refine mj_callP (h := trueMinute_spec _ _ _ (encE es) m.clips[j] _ (by simp [encE, hS.1]) (encE_ok es) hc1 hc2 hat.1 hat.2) (k := ?_)
        | fail)
      | refine W1 ?_ | refine Wc ?_ | refine W2c ?_ ?_ | refine Wg ?_ | refine W2 ?_ ?_ | exact Wdead | refine Wlive (fun hb => ?_) | intro _ _ _ _ _ _ _ _ | refine We ?_ | refine Wx ?_ | refine Wt ?_ | refine Wm ?_ | refine W2m ?_ ?_ | refine Wl ?_
      | fail)
    obtain rfl : j = m.clips.length := by omega
    rw [List.drop_length] at hs
    exact ⟨by first | (rw [hs]; done) | (rw [hs]; rfl), rfl, rfl⟩
end
end Go.Proofs.Ytehobnpoeodhkaa

namespace Go.Proofs.Ytehobnpoeodhkaa
open Go Go.Abs Go.Proofs
set_option maxHeartbeats 400000
attribute [local irreducible] CallJ OpsJ WPJ CallV MonoJ

/-! ### All choices of a number of each range -/
def rng (r : Int × Int) : List Int := (List.range (r.2 - r.1 + 1).toNat).map fun (k : Nat) => r.1 + k
def gen : List (Int × Int) → List (List Int)
  | [] => [[]]
  | r :: rs => (rng r).flatMap fun n => (gen rs).map (n :: ·)

theorem rng_len (r : Int × Int) : (rng r).length = (r.2 - r.1 + 1).toNat := by simp [rng]
theorem rng_get (r : Int × Int) {j : Nat} (h : j < (r.2 - r.1 + 1).toNat) : (rng r)[j]? = some (r.1 + j) := by simp [rng, h]
theorem flatMap_len {α β : Type} (f : α → List β) (L : Nat) : ∀ (l : List α), (∀ a ∈ l, (f a).length = L) → (l.flatMap f).length = l.length * L
  | [], _ => by simp
  | a :: l, h => by
    rw [List.flatMap_cons, List.length_append, h a (by simp), flatMap_len f L l fun x hx => h x (by simp [hx]), List.length_cons, Nat.add_mul]
    omega
theorem flatMap_get {α β : Type} (f : α → List β) (L : Nat) : ∀ (l : List α), (∀ a ∈ l, (f a).length = L) → ∀ (j i : Nat) (a : α) (b : β), l[j]? = some a → (f a)[i]? = some b → (l.flatMap f)[j * L + i]? = some b
  | [], _, j, i, a, b, h1, _ => by simp at h1
  | x :: l, h, 0, i, a, b, h1, h2 => by
    simp only [List.getElem?_cons_zero, Option.some.injEq] at h1
    subst h1
    rw [List.flatMap_cons, Nat.zero_mul, Nat.zero_add, List.getElem?_append_left (List.getElem?_eq_some_iff.1 h2).1]
    exact h2
  | x :: l, h, j + 1, i, a, b, h1, h2 => by
    have hx := h x (by simp)
    rw [List.flatMap_cons, List.getElem?_append_right (by rw [hx, Nat.add_mul]; omega), hx]
    have := flatMap_get f L l (fun y hy => h y (by simp [hy])) j i a b (by simpa using h1) h2
    rw [← this]
    congr 1
    rw [Nat.add_mul]; omega
theorem gen_len_cons (r : Int × Int) (rs : List (Int × Int)) : (gen (r :: rs)).length = (r.2 - r.1 + 1).toNat * (gen rs).length := by
  rw [gen, flatMap_len _ (gen rs).length _ (fun a _ => by simp), rng_len]
theorem gen_get_cons {r : Int × Int} {rs : List (Int × Int)} {j i : Nat} {s : List Int} (hj : j < (r.2 - r.1 + 1).toNat) (hi : (gen rs)[i]? = some s) : (gen (r :: rs))[j * (gen rs).length + i]? = some ((r.1 + j) :: s) := by
  rw [gen]
  exact flatMap_get _ (gen rs).length _ (fun a _ => by simp) j i _ _ (rng_get r hj) (by simp [hi])
theorem gen_elem_len : ∀ (rs : List (Int × Int)) (s : List Int), s ∈ gen rs → s.length = rs.length
  | [], s, h => by simp [gen] at h; simp [h]
  | r :: rs, s, h => by
    simp only [gen, List.mem_flatMap, List.mem_map] at h
    obtain ⟨n, _, t, ht, rfl⟩ := h
    simp [gen_elem_len rs t ht]

section
variable {γ : Type} (E : Env γ) (Hi : AHeap) (b : Nat) (yv : Value)
abbrev cval : Value := .func (.func 136) ⟨[]⟩ ⟨[.pointer (some ⟨b, 0, none⟩), .pointer (some ⟨Hi.length, 0, none⟩), .pointer (some ⟨Hi.length + 1, 0, none⟩), .pointer (some ⟨Hi.length + 2, 0, none⟩)]⟩
abbrev stE (es : List Int) : AHeap := Hi ++ [.row [yv] 1 true, .row (encE es) 1 true, .row [cval Hi b] 1 true]

theorem row_encE {es : List Int} {c : Nat} {n : Int} : (encE es).set ((c : Int).toNat * 1) (.int .i64 n) = encE (es.set c n) := by
  simp [encE, List.map_set]
theorem row_encE1 {es : List Int} {c : Nat} {n : Int} : (encE es).set (c * 1) (.int .i64 n) = encE (es.set c n) := by
  simp [encE, List.map_set]
theorem take_set {es : List Int} {c : Nat} {n : Int} (h : c < es.length) : (es.set c n).take (c + 1) = es.take c ++ [n] := by
  rw [List.take_succ_eq_append_getElem (by simpa using h)]
  simp [List.take_set_of_le]

theorem choose_spec (m : HouseM) (s1 s2 s3 : Value) (hm : HouseIs Hi m s1 s2 s3) (hb : Hi[b]? = some (.row [.int .i64 m.hour, .int .i64 m.grace, s1, s2, s3] 1 false)) (hN : m.clocks.length ≤ 4)
    (hr : ∀ r ∈ m.clocks, -1000 ≤ r.1 ∧ r.2 ≤ 1000) (J : Nat → γ → Prop) (Jx : γ → Prop) :
    ∀ (q c : Nat), c + q = m.clocks.length → ∀ (es : List Int), es.length = 4 → ∀ (k : Nat) (g : γ),
    (∀ j s, (gen (m.clocks.drop c))[j]? = some s → ∀ g1, J (k + j) g1 → CallV Try.prog E yv [.agg ⟨encE (es.take c ++ s ++ es.drop m.clocks.length)⟩] (fun v H2 g2 => H2 = stE Hi b yv (es.take c ++ s ++ es.drop m.clocks.length) ∧ (v = .bool true ∧ J (k + j + 1) g2 ∨ v = .bool false ∧ Jx g2)) (stE Hi b yv (es.take c ++ s ++ es.drop m.clocks.length)) g1) →
    J k g → CallJ Try.prog E 136 [.int .i64 c, .pointer (some ⟨b, 0, none⟩), .pointer (some ⟨Hi.length, 0, none⟩), .pointer (some ⟨Hi.length + 1, 0, none⟩), .pointer (some ⟨Hi.length + 2, 0, none⟩)]
      (fun v H' g' => ∃ es', es'.length = 4 ∧ es'.take c = es.take c ∧ es'.drop m.clocks.length = es.drop m.clocks.length ∧ H' = stE Hi b yv es' ∧ (v = .bool true ∧ J (k + (gen (m.clocks.drop c)).length) g' ∨ v = .bool false ∧ Jx g')) (stE Hi b yv es) g
  | 0, c, hc, es, hes, k, g, hy, hJ => by
    have hcl : (c : Int) = m.clocks.length := by omega
    have hrd := hm.clocks
    have hdrop : m.clocks.drop c = [] := List.drop_eq_nil_iff.2 (by omega)
    have hl4 : (encE es).length = 4 := by simp [encE, hes]
    have hall : List.take 4 (encE es) = encE es := List.take_of_length_le (by omega)
    have heq : es.take c ++ [] ++ es.drop m.clocks.length = es := by
      have : c = m.clocks.length := by omega
      rw [List.append_nil, this, List.take_append_drop]
    have h0 := hy 0 [] (by rw [hdrop]; rfl) g (by simpa using hJ)
    rw [heq] at h0
    refine CallJ.enter Try.func136 rfl (by simp only [Try.ntmps136, List.length_cons, List.length_nil, Nat.zero_add, Nat.reduceAdd, Nat.reduceSub, List.replicate_succ, List.replicate_zero, List.cons_append, List.nil_append]; rfl) ?_
    repeat' (first
      | refine W1 ?_ | refine Wc ?_ | refine W2c ?_ ?_ | refine Wg ?_ | refine W2 ?_ ?_ | exact Wdead | refine Wlive (fun hb => ?_) | intro _ _ _ _ _ _ _ _ | refine We ?_ | refine Wx ?_ | refine Wt ?_ | refine Wm ?_ | refine W2m ?_ ?_ | refine Wl ?_
      | fail)
    refine st_callV rfl rfl h0 ?_
    rintro v H' g' ⟨rfl, ⟨rfl, h1⟩ | ⟨rfl, h1⟩⟩
    · skip
      repeat' (first
        | refine W1 ?_ | refine Wc ?_ | refine W2c ?_ ?_ | refine Wg ?_ | refine W2 ?_ ?_ | exact Wdead | refine Wlive (fun hb => ?_) | intro _ _ _ _ _ _ _ _ | refine We ?_ | refine Wx ?_ | refine Wt ?_ | refine Wm ?_ | refine W2m ?_ ?_ | refine Wl ?_
        | fail)
      exact ⟨es, hes, rfl, rfl, rfl, .inl ⟨rfl, by rw [hdrop]; exact h1⟩⟩
    · skip
      repeat' (first
        | refine W1 ?_ | refine Wc ?_ | refine W2c ?_ ?_ | refine Wg ?_ | refine W2 ?_ ?_ | exact Wdead | refine Wlive (fun hb => ?_) | intro _ _ _ _ _ _ _ _ | refine We ?_ | refine Wx ?_ | refine Wt ?_ | refine Wm ?_ | refine W2m ?_ ?_ | refine Wl ?_
        | fail)
      exact ⟨es, hes, rfl, rfl, rfl, .inr ⟨rfl, h1⟩⟩
  | q + 1, c, hc, es, hes, k, g, hy, hJ => by
    have hb' := hb
    have hlt : c < m.clocks.length := by omega
    have hrd := hm.clocks
    have hel : (m.clocks.map encR)[c]? = some (encR m.clocks[c]) := by simp [hlt]
    have hrb := hr m.clocks[c] (List.getElem_mem hlt)
    have hdrop : m.clocks.drop c = m.clocks[c] :: m.clocks.drop (c + 1) := List.drop_eq_getElem_cons hlt
    generalize hrr : m.clocks[c] = r at *
    have hyL : ∀ i j s, i < (r.2 - r.1 + 1).toNat → (gen (m.clocks.drop (c + 1)))[j]? = some s → ∀ g1, J (k + i * (gen (m.clocks.drop (c + 1))).length + j) g1 → CallV Try.prog E yv [.agg ⟨encE (es.take c ++ ((r.1 + i) :: s) ++ es.drop m.clocks.length)⟩] (fun v H2 g2 => H2 = stE Hi b yv (es.take c ++ ((r.1 + i) :: s) ++ es.drop m.clocks.length) ∧ (v = .bool true ∧ J (k + i * (gen (m.clocks.drop (c + 1))).length + j + 1) g2 ∨ v = .bool false ∧ Jx g2)) (stE Hi b yv (es.take c ++ ((r.1 + i) :: s) ++ es.drop m.clocks.length)) g1 := by
      intro i j s hi hs g1 hg1
      have h1 := hy (i * (gen (m.clocks.drop (c + 1))).length + j) _ (by rw [hdrop]; exact gen_get_cons hi hs) g1 (by rw [← Nat.add_assoc]; exact hg1)
      rw [← Nat.add_assoc] at h1
      exact h1
    refine CallJ.enter Try.func136 rfl (by simp only [Try.ntmps136, List.length_cons, List.length_nil, Nat.zero_add, Nat.reduceAdd, Nat.reduceSub, List.replicate_succ, List.replicate_zero, List.cons_append, List.nil_append]; rfl) ?_
    repeat' (first
      | refine W1 ?_ | refine Wc ?_ | refine W2c ?_ ?_ | refine Wg ?_ | refine W2 ?_ ?_ | exact Wdead | refine Wlive (fun hb => ?_) | intro _ _ _ _ _ _ _ _ | refine We ?_ | refine Wx ?_ | refine Wt ?_ | refine Wm ?_ | refine W2m ?_ ?_ | refine Wl ?_
      | fail)
    refine WPJ.loopT (r.2 - r.1 + 1).toNat [22, 23, 24, 25, 26, 27, 28, 29, 30, 31, 32, 33, 34, 35, 36, 37, 38, 39] (fun j (_ : List Int) => [(7, .int .i64 (r.1 + j))])
      (fun j es1 H1 g1 => H1 = stE Hi b yv es1 ∧ es1.length = 4 ∧ es1.take c = es.take c ∧ es1.drop m.clocks.length = es.drop m.clocks.length ∧ J (k + j * (gen (m.clocks.drop (c + 1))).length) g1) 0 es (Nat.zero_le _) (by intro p hp; simp at hp; subst hp; simp) ⟨rfl, hes, rfl, rfl, by simpa using hJ⟩ ?_
    rintro j es1 H1 g1 hj ⟨rfl, he1, he2, he3, hJ1⟩ hl
    simp only [updT, maskT, List.set_cons_zero, List.set_cons_succ]
    repeat' (first
      | refine W1 ?_ | refine Wc ?_ | refine W2c ?_ ?_ | refine Wg ?_ | refine W2 ?_ ?_ | exact Wdead | refine Wlive (fun hb => ?_) | intro _ _ _ _ _ _ _ _ | refine We ?_ | refine Wx ?_ | refine Wt ?_ | refine Wm ?_ | refine W2m ?_ ?_ | refine Wl ?_
      | fail)
    · skip
      have hjn : j < (r.2 - r.1 + 1).toNat := by omega
      rw [row_encE1]
      have hrec := choose_spec m s1 s2 s3 hm hb' hN hr J Jx q (c + 1) (by omega) (es1.set c (r.1 + j)) (by simp [he1]) (k + j * (gen (m.clocks.drop (c + 1))).length) g1 (by
        intro i s hs g2 hg2
        have h2 := hyL j i s hjn hs g2 hg2
        have e : (es1.set c (r.1 + j)).take (c + 1) ++ s ++ (es1.set c (r.1 + j)).drop m.clocks.length = es.take c ++ ((r.1 + j) :: s) ++ es.drop m.clocks.length := by
          rw [List.drop_set_of_lt (by omega), he3, take_set (by omega), he2]
          simp
        rw [e]; exact h2) hJ1
      have e : ((c + 1 : Nat) : Int) = (c : Int) + 1 := by omega
      rw [e] at hrec
      refine st_callV rfl rfl (CallV.of_func EntC.ent hrec) ?_
      rintro v H' g' ⟨es2, e1, e2, e3, rfl, ⟨rfl, h1⟩ | ⟨rfl, h1⟩⟩
      · skip
        repeat' (first
          | refine W1 ?_ | refine Wc ?_ | refine W2c ?_ ?_ | refine Wg ?_ | refine W2 ?_ ?_ | exact Wdead | refine Wlive (fun hb => ?_) | intro _ _ _ _ _ _ _ _ | refine We ?_ | refine Wx ?_ | refine Wt ?_ | refine Wm ?_ | refine W2m ?_ ?_ | refine Wl ?_
          | fail)
        refine ⟨es2, hjn, (by repeat' (first | exact Weak.nil | refine Weak.wild ?_ | refine Weak.same ?_ | refine Weak.intEq (by first | omega | (simp; done) | (push_cast; omega)) ?_)), rfl, e1, ?_, ?_, ?_⟩
        · have := congrArg (List.take c) e2
          rw [List.take_take, List.take_take, Nat.min_eq_left (by omega), List.take_set_of_le (by omega), he2] at this
          exact this
        · rw [e3, List.drop_set_of_lt (by omega), he3]
        · rw [Nat.add_mul, Nat.one_mul, ← Nat.add_assoc]; exact h1
      · skip
        repeat' (first
          | refine W1 ?_ | refine Wc ?_ | refine W2c ?_ ?_ | refine Wg ?_ | refine W2 ?_ ?_ | exact Wdead | refine Wlive (fun hb => ?_) | intro _ _ _ _ _ _ _ _ | refine We ?_ | refine Wx ?_ | refine Wt ?_ | refine Wm ?_ | refine W2m ?_ ?_ | refine Wl ?_
          | fail)
        refine ⟨es2, e1, ?_, ?_, rfl, .inr ⟨rfl, h1⟩⟩
        · have := congrArg (List.take c) e2
          rw [List.take_take, List.take_take, Nat.min_eq_left (by omega), List.take_set_of_le (by omega), he2] at this
          exact this
        · rw [e3, List.drop_set_of_lt (by omega), he3]
    · skip
      refine ⟨es1, he1, he2, he3, rfl, .inl ⟨rfl, ?_⟩⟩
      rw [hdrop, gen_len_cons]
      have : j = (r.2 - r.1 + 1).toNat := by omega
      rw [← this]; exact hJ1
end
end Go.Proofs.Ytehobnpoeodhkaa

namespace Go.Proofs.Ytehobnpoeodhkaa
open Go Go.Abs Go.Proofs
set_option maxHeartbeats 400000
attribute [local irreducible] CallJ OpsJ WPJ CallV MonoJ

/-- The errors that are gone through. -/
def errs (m : HouseM) : List (List Int) := (gen m.clocks).map fun s => s ++ List.drop m.clocks.length [0, 0, 0, 0]
abbrev hcells (m : HouseM) (s1 s2 s3 : Value) : List Value := [.int .i64 m.hour, .int .i64 m.grace, s1, s2, s3]
/-- what an iterator of a house must know -/
structure OkH (m : HouseM) (s1 s2 s3 : Value) (b : Nat) (Hi : AHeap) : Prop where
  house : HouseIs Hi m s1 s2 s3
  box : Hi[b]? = some (.row (hcells m s1 s2 s3) 1 false)
structure Few (m : HouseM) : Prop where
  n : m.clocks.length ≤ 4
  r : ∀ r ∈ m.clocks, -1000 ≤ r.1 ∧ r.2 ≤ 1000

theorem allErrors_hits (m : HouseM) (s1 s2 s3 : Value) (b : Nat) (hf : Few m) : Hits Try.prog 135 [] [.pointer (some ⟨b, 0, none⟩)] (OkH m s1 s2 s3 b) ((errs m).map fun es => [.agg ⟨encE es⟩]) := by
  intro γ' E' J Jx yn Hi g0 hok hy hJ0
  have hext : ∀ es, ExtOwn Hi (stE Hi b (.func (.yield yn) #[] #[]) es) := fun es => ⟨_, rfl, by simp [ownedO]⟩
  have hlen : ((errs m).map fun es => [Value.agg ⟨encE es⟩]).length = (gen m.clocks).length := by simp [errs]
  have hch := choose_spec E' Hi b (.func (.yield yn) #[] #[]) m s1 s2 s3 hok.house hok.box hf.n hf.r J Jx m.clocks.length 0 (by omega) [0, 0, 0, 0] rfl 0 g0 (by
    intro j s hs g1 hg1
    rw [Nat.zero_add] at hg1 ⊢
    rw [List.drop_zero] at hs
    have h1 := hy j [.agg ⟨encE (s ++ List.drop m.clocks.length [0, 0, 0, 0])⟩] (by simp [errs, hs]) _ g1 (hext (List.take 0 [0, 0, 0, 0] ++ s ++ List.drop m.clocks.length [0, 0, 0, 0])) hg1
    exact h1) hJ0
  refine CallJ.tidy ?_
  refine CallJ.enter Try.func135 rfl (by simp only [Try.ntmps135, List.length_cons, List.length_nil, Nat.zero_add, Nat.reduceAdd, Nat.reduceSub, List.replicate_succ, List.replicate_zero, List.cons_append, List.nil_append]; rfl) ?_
  repeat' (first
    | refine W1 ?_ | refine Wc ?_ | refine W2c ?_ ?_ | refine Wg ?_ | refine W2 ?_ ?_ | exact Wdead | refine Wlive (fun hb => ?_) | intro _ _ _ _ _ _ _ _ | refine We ?_ | refine Wx ?_ | refine Wt ?_ | refine Wm ?_ | refine W2m ?_ ?_ | refine Wl ?_
    | fail)
  refine st_callV rfl rfl (CallV.of_func EntC.ent hch) ?_
  rintro v H' g' ⟨es2, e1, e2, e3, rfl, h⟩
  rw [List.drop_zero, Nat.zero_add, ← hlen] at h
  repeat' (first
    | refine W1 ?_ | refine Wc ?_ | refine W2c ?_ ?_ | refine Wg ?_ | refine W2 ?_ ?_ | exact Wdead | refine Wlive (fun hb => ?_) | intro _ _ _ _ _ _ _ _ | refine We ?_ | refine Wx ?_ | refine Wt ?_ | refine Wm ?_ | refine W2m ?_ ?_ | refine Wl ?_
    | fail)
  refine ⟨rfl, ?_⟩
  exact h.imp (fun h => h.2) (fun h => h.2)
end Go.Proofs.Ytehobnpoeodhkaa

namespace Go.Proofs.Ytehobnpoeodhkaa
open Go Go.Abs Go.Proofs
set_option maxHeartbeats 400000
attribute [local irreducible] CallJ OpsJ WPJ CallV MonoJ

def maxI : Int := 9223372036854775807
def stay0 : StayM := ⟨0, 0, 0⟩
def stay1 (es : List Int) (s : StayM) (c : ClipM) : StayM := if s.clips + 1 = 1 then ⟨s.clips + 1, trueM es c, 9223372036854775807⟩ else ⟨s.clips + 1, s.came, trueM es c⟩
def staysStep (es : List Int) (ss : List StayM) (c : ClipM) : List StayM := ss.set c.ticket.toNat (stay1 es (ss.getD c.ticket.toNat stay0) c)
def staysS (es : List Int) (cs : List ClipM) : List StayM := cs.foldl (staysStep es) (List.replicate 6 stay0)
theorem staysS_succ (es : List Int) (cs : List ClipM) {j : Nat} (h : j < cs.length) : staysS es (cs.take (j + 1)) = staysStep es (staysS es (cs.take j)) cs[j] := by
  unfold staysS
  rw [List.take_succ_eq_append_getElem h, List.foldl_append]; rfl
theorem staysStep_len (es : List Int) (ss : List StayM) (c : ClipM) : (staysStep es ss c).length = ss.length := by simp [staysStep]
theorem staysS_len (es : List Int) (cs : List ClipM) : (staysS es cs).length = 6 := by
  unfold staysS
  have : ∀ (cs : List ClipM) (ss : List StayM), ss.length = 6 → (cs.foldl (staysStep es) ss).length = 6 := by
    intro cs
    induction cs with
    | nil => intro ss h; exact h
    | cons c cs ih => intro ss h; exact ih _ (by rw [staysStep_len, h])
  exact this cs _ (by simp)
/-- how many clips a stay has counted -/
theorem stays_clips (es : List Int) (cs : List ClipM) : ∀ s ∈ staysS es cs, 0 ≤ s.clips ∧ s.clips ≤ cs.length := by
  unfold staysS
  have : ∀ (cs : List ClipM) (ss : List StayM) (k : Nat), (∀ s ∈ ss, 0 ≤ s.clips ∧ s.clips ≤ k) → ∀ s ∈ cs.foldl (staysStep es) ss, 0 ≤ s.clips ∧ s.clips ≤ (k + cs.length : Nat) := by
    intro cs
    induction cs with
    | nil => intro ss k h; exact h
    | cons c cs ih =>
      intro ss k h s hs
      have h2 : ∀ s ∈ staysStep es ss c, 0 ≤ s.clips ∧ s.clips ≤ (k + 1 : Nat) := by
        intro s hs
        unfold staysStep at hs
        rcases List.mem_or_eq_of_mem_set hs with h1 | rfl
        · have := h s h1; omega
        · have hg : 0 ≤ (ss.getD c.ticket.toNat stay0).clips ∧ (ss.getD c.ticket.toNat stay0).clips ≤ k := by
            rw [List.getD_eq_getElem?_getD]
            cases he : ss[c.ticket.toNat]? with
            | none => simp [stay0]
            | some x => simpa using h x (List.mem_of_getElem? he)
          generalize ss.getD c.ticket.toNat stay0 = u at hg ⊢
          unfold stay1
          split <;> (simp only; omega)
      have := ih _ (k + 1) h2 s hs
      simp only [List.length_cons]
      omega
  intro s hs
  have := this cs (List.replicate 6 stay0) 0 (by intro s hs; simp at hs; simp [hs, stay0]) s hs
  simpa using this

def flatS (ss : List StayM) : List Value := (ss.map encS).flatten
def wv (m : HouseM) (s1 s2 s3 : Value) (es : List Int) (ss : List StayM) : List Value := hcells m s1 s2 s3 ++ (encE es ++ flatS ss)
theorem flatS_len : ∀ ss : List StayM, (flatS ss).length = ss.length * 3
  | [] => rfl
  | s :: ss => by have := flatS_len ss; simp [flatS] at this ⊢; omega
theorem flatS_get : ∀ (ss : List StayM) (t : Nat) (s : StayM), ss[t]? = some s → (flatS ss)[t * 3]? = some (.int .i64 s.clips) ∧ (flatS ss)[t * 3 + 1]? = some (.int .i64 s.came) ∧ (flatS ss)[t * 3 + 2]? = some (.int .i64 s.went)
  | [], t, s, h => by simp at h
  | x :: ss, 0, s, h => by simp at h; subst h; simp [flatS, encS]
  | x :: ss, t + 1, s, h => by
    have := flatS_get ss t s (by simpa using h)
    have e : (t + 1) * 3 = t * 3 + 3 := by omega
    rw [e]
    simpa [flatS, encS] using this
theorem flatS_set : ∀ (ss : List StayM) (t : Nat) (s : StayM), t < ss.length → flatS (ss.set t s) = (((flatS ss).set (t * 3) (.int .i64 s.clips)).set (t * 3 + 1) (.int .i64 s.came)).set (t * 3 + 2) (.int .i64 s.went)
  | [], t, s, h => by simp at h
  | x :: ss, 0, s, h => by simp [flatS, encS]
  | x :: ss, t + 1, s, h => by
    have := flatS_set ss t s (by simpa using h)
    have e : (t + 1) * 3 = t * 3 + 3 := by omega
    rw [e]
    simp only [flatS, encS, List.set_cons_succ, List.map_cons, List.flatten_cons, List.cons_append, List.nil_append] at this ⊢
    rw [this]

theorem wv_len (m : HouseM) (s1 s2 s3 : Value) (es : List Int) (ss : List StayM) (h1 : es.length = 4) (h2 : ss.length = 6) : (wv m s1 s2 s3 es ss).length = 27 := by
  simp [wv, flatS_len, encE, h1, h2]
theorem wv_take (m : HouseM) (s1 s2 s3 : Value) (es : List Int) (ss : List StayM) (h1 : es.length = 4) (h2 : ss.length = 6) : List.take 27 (wv m s1 s2 s3 es ss) = wv m s1 s2 s3 es ss :=
  List.take_of_length_le (by rw [wv_len m s1 s2 s3 es ss h1 h2]; omega)
theorem flatS_ok (ss : List StayM) : (flatS ss).all cellOk = true := by
  simp only [flatS, List.all_eq_true, List.mem_flatten, List.mem_map]
  rintro x ⟨l, ⟨s, _, rfl⟩, hx⟩
  simp [encS] at hx
  rcases hx with rfl | rfl | rfl <;> rfl
theorem wv_ok (m : HouseM) (s1 s2 s3 : Value) (es : List Int) (ss : List StayM) (hok : (hcells m s1 s2 s3).all cellOk = true) : (wv m s1 s2 s3 es ss).all cellOk = true := by
  unfold wv
  rw [List.all_append, List.all_append, hok, encE_ok, flatS_ok]; rfl
theorem wv_get (m : HouseM) (s1 s2 s3 : Value) (es : List Int) (ss : List StayM) (h1 : es.length = 4) (k : Nat) : (wv m s1 s2 s3 es ss)[9 + k]? = (flatS ss)[k]? := by
  unfold wv
  rw [List.getElem?_append_right (by simp; omega), List.getElem?_append_right (by simp [encE, h1]; omega)]
  congr 1
  simp [encE, h1]; omega
theorem wv_set (m : HouseM) (s1 s2 s3 : Value) (es : List Int) (ss : List StayM) (h1 : es.length = 4) (k : Nat) (v : Value) : (wv m s1 s2 s3 es ss).set (9 + k) v = hcells m s1 s2 s3 ++ (encE es ++ (flatS ss).set k v) := by
  unfold wv
  rw [List.set_append_right _ _ (by simp; omega), List.set_append_right _ _ (by simp [encE, h1]; omega)]
  congr 3
  simp [encE, h1]; omega

theorem set_same {l : List Value} {n : Nat} {v : Value} (h : l[n]? = some v) : l.set n v = l := by
  apply List.ext_getElem?
  intro i
  rw [List.getElem?_set]
  split
  · rename_i e; subst e
    rw [if_pos (List.getElem?_eq_some_iff.1 h).1, h]
  · rfl
theorem wv_stay (m : HouseM) (s1 s2 s3 : Value) (es : List Int) (ss : List StayM) (h1 : es.length = 4) (t : Nat) (ht : t < ss.length) (s : StayM) :
    wv m s1 s2 s3 es (ss.set t s) = (((wv m s1 s2 s3 es ss).set (9 + t * 3) (.int .i64 s.clips)).set (9 + t * 3 + 1) (.int .i64 s.came)).set (9 + t * 3 + 2) (.int .i64 s.went) := by
  have e1 : 9 + t * 3 + 1 = 9 + (t * 3 + 1) := by omega
  have e2 : 9 + t * 3 + 2 = 9 + (t * 3 + 2) := by omega
  rw [e1, e2, wv_set _ _ _ _ _ _ h1]
  have l1 : (hcells m s1 s2 s3).length = 5 := rfl
  have l2 : (encE es).length = 4 := by simp [encE, h1]
  have cut : ∀ (F : List Value) (k : Nat) (v : Value), (hcells m s1 s2 s3 ++ (encE es ++ F)).set (9 + k) v = hcells m s1 s2 s3 ++ (encE es ++ F.set k v) := by
    intro F k v
    rw [List.set_append_right _ _ (by omega), List.set_append_right _ _ (by omega)]
    congr 3
    omega
  rw [cut, cut]
  unfold wv
  rw [flatS_set ss t s ht]
theorem RdS.low {H : AHeap} {v : Value} {es : Nat} {xs : List (List Value)} (h : RdS H v es xs) : Low H.length v := by
  obtain ⟨_, h2⟩ := h
  rcases h2 with ⟨i, o, c, row, es', own, rfl, hi, _⟩ | ⟨_, rfl | rfl⟩
  · exact .slice (List.getElem?_eq_some_iff.1 hi).1
  · exact .flat rfl
  · exact .flat rfl
theorem HouseIs.low {H : AHeap} {m : HouseM} {s1 s2 s3 : Value} (h : HouseIs H m s1 s2 s3) : ∀ v ∈ hcells m s1 s2 s3, Low H.length v := by
  intro v hv
  simp at hv
  rcases hv with rfl | rfl | rfl | rfl | rfl
  · exact .flat rfl
  · exact .flat rfl
  · exact RdS.low h.clocks
  · exact RdS.low h.tickets
  · exact RdS.low h.clips
theorem wv_rest {m : HouseM} {s1 s2 s3 : Value} {es : List Int} {ss : List StayM} {v : Value} (h : v ∈ wv m s1 s2 s3 es ss) : v ∈ hcells m s1 s2 s3 ∨ flat1 v = true := by
  unfold wv at h
  rcases List.mem_append.1 h with h | h
  · exact .inl h
  · refine .inr ?_
    rcases List.mem_append.1 h with h | h
    · simp [encE] at h
      obtain ⟨_, _, rfl⟩ := h; rfl
    · simp only [flatS, List.mem_flatten, List.mem_map] at h
      obtain ⟨l, ⟨s, _, rfl⟩, hx⟩ := h
      simp [encS] at hx
      rcases hx with rfl | rfl | rfl <;> rfl

theorem work_spec {γ : Type} (E : Env γ) (g : γ) (H : AHeap) (m : HouseM) (s1 s2 s3 : Value) (es : List Int) (hm : HouseIs H m s1 s2 s3) (hS : Sound es m.clips) (hT : ∀ c ∈ m.clips, 0 ≤ c.ticket ∧ c.ticket < 6) (hn3 : m.clips.length ≤ 1000) :
    CallJ Try.prog E 124 [hv m s1 s2 s3, .agg ⟨encE es⟩] (fun v H' g' => v = .agg ⟨wv m s1 s2 s3 es (staysS es m.clips)⟩ ∧ H' = H ∧ g' = g) H g := by
  have hok := hm.cells
  have hr := hm.clips
  obtain ⟨e0, e1, e2, e3, rfl⟩ : ∃ e0 e1 e2 e3, es = [e0, e1, e2, e3] := by
    match es, hS.1 with
    | [a, b, c, d], _ => exact ⟨a, b, c, d, rfl⟩
  refine CallJ.tidy ?_
  unfold hv
  refine CallJ.enter Try.func124 rfl (by simp only [Try.ntmps124, List.length_cons, List.length_nil, Nat.zero_add, Nat.reduceAdd, Nat.reduceSub, List.replicate_succ, List.replicate_zero, List.cons_append, List.nil_append]; rfl) ?_
  repeat' (first
    | (refine is_ucall ?_; first
      | refine st_callP (h := trueMinute_spec _ _ _ (encE [e0, e1, e2, e3]) c _ rfl (encE_ok _) hc1 hc2 hat.1 hat.2) (k := ?_)
      | fail)
    | (refine is_umcall ?_; first
      | refine mj_callP (h := trueMinute_spec _ _ _ (encE [e0, e1, e2, e3]) c _ rfl (encE_ok _) hc1 hc2 hat.1 hat.2) (k := ?_)
      | fail)
    | refine W1 ?_ | refine Wc ?_ | refine W2c ?_ ?_ | refine Wg ?_ | refine W2 ?_ ?_ | exact Wdead | refine Wlive (fun hb => ?_) | intro _ _ _ _ _ _ _ _ | refine We ?_ | refine Wx ?_ | refine Wt ?_ | refine Wm ?_ | refine W2m ?_ ?_ | refine Wl ?_
    | fail)


  refine WPJ.loopT m.clips.length [16, 17, 18, 7, 19, 20, 21, 22, 8, 23, 24, 25, 26, 27, 28, 29, 30, 31, 32, 33, 34, 35, 36, 37, 38, 39, 40, 41, 42, 43, 44, 45, 46, 47, 48, 49, 50] (fun j (_ : Unit) => [(15, .int .i64 j)])
    (fun j _ H1 g1 => g1 = g ∧ Ext H H1 ∧ H1[H.length + 1]? = some (.row (encE [e0, e1, e2, e3]) 1 true) ∧ H1[H.length + 2]? = some (.row ([.int .i64 0, .int .i64 0, .slice none 0 0, .slice none 0 0, .slice none 0 0, .int .i64 0, .int .i64 0, .int .i64 0, .int .i64 0, .int .i64 0, .int .i64 0, .int .i64 0, .int .i64 0, .int .i64 0, .int .i64 0, .int .i64 0, .int .i64 0, .int .i64 0, .int .i64 0, .int .i64 0, .int .i64 0, .int .i64 0, .int .i64 0, .int .i64 0, .int .i64 0, .int .i64 0, .int .i64 0]) 1 true) ∧ H1[H.length + 3]? = some (.row (wv m s1 s2 s3 [e0, e1, e2, e3] (staysS [e0, e1, e2, e3] (m.clips.take j))) 1 true) ∧ H.length + 3 < H1.length) 0 () (Nat.zero_le _)
    (by intro p hp; simp at hp; subst hp; rfl) ⟨rfl, extA, getA, getA, getA, by simp⟩ ?_
  rintro j _ H1 g1 hj ⟨rfl, he, hb1, hb2, hb3, hlen⟩ hl
  simp only [updT, maskT, List.set_cons_zero, List.set_cons_succ]
  rcases Nat.lt_or_ge j m.clips.length with hlt | hge
  · have hel : (m.clips.map encC)[j]? = some (encC m.clips[j]) := by simp [hlt]
    have hmem : m.clips[j] ∈ m.clips := List.getElem_mem hlt
    have hat := hS.at hmem
    obtain ⟨hc1, hc2, _, _⟩ := hS.2.2 _ hmem
    obtain ⟨ht1, ht2⟩ := hT _ hmem
    have hsucc := staysS_succ [e0, e1, e2, e3] m.clips hlt
    have hcl := stays_clips [e0, e1, e2, e3] (m.clips.take j)
    have hsl := staysS_len [e0, e1, e2, e3] (m.clips.take j)
    generalize m.clips[j] = c at *
    have hwl := wv_len m s1 s2 s3 [e0, e1, e2, e3] (staysS [e0, e1, e2, e3] (m.clips.take j)) rfl hsl
    generalize staysS [e0, e1, e2, e3] (m.clips.take j) = ss at *
    have hg : ∃ s, ss[c.ticket.toNat]? = some s := ⟨ss[c.ticket.toNat]'(by omega), by simp⟩
    obtain ⟨s, hs⟩ := hg
    obtain ⟨f0, f1, f2⟩ := flatS_get ss _ _ hs
    have hc0 : (wv m s1 s2 s3 [e0, e1, e2, e3] ss)[0 + 9 + c.ticket.toNat * 3 + 0]? = some (.int .i64 s.clips) := by
      have := wv_get m s1 s2 s3 [e0, e1, e2, e3] ss rfl (c.ticket.toNat * 3)
      simpa [f0] using this
    have hsb := hcl s (List.mem_of_getElem? hs)
    have hjl : (List.take j m.clips).length ≤ 1000 := by simp; omega
    have htl : c.ticket.toNat < ss.length := by omega
    have hgd : ss.getD c.ticket.toNat stay0 = s := by rw [List.getD_eq_getElem?_getD, hs]; rfl
    have hc1' : (wv m s1 s2 s3 [e0, e1, e2, e3] ss)[9 + c.ticket.toNat * 3 + 1]? = some (.int .i64 s.came) := by
      have := wv_get m s1 s2 s3 [e0, e1, e2, e3] ss rfl (c.ticket.toNat * 3 + 1)
      rw [f1] at this
      rw [← this]; congr 1
    have key := wv_stay m s1 s2 s3 [e0, e1, e2, e3] ss rfl c.ticket.toNat htl (stay1 [e0, e1, e2, e3] s c)
    unfold staysStep at hsucc
    rw [hgd] at hsucc
    rw [← hsucc] at key
    repeat' (first
      | (refine is_ucall ?_; first
        | refine st_callP (h := trueMinute_spec _ _ _ (encE [e0, e1, e2, e3]) c _ rfl (encE_ok _) hc1 hc2 hat.1 hat.2) (k := ?_)
        | fail)
      | (refine is_umcall ?_; first
        | refine mj_callP (h := trueMinute_spec _ _ _ (encE [e0, e1, e2, e3]) c _ rfl (encE_ok _) hc1 hc2 hat.1 hat.2) (k := ?_)
        | fail)
      | refine W1 ?_ | refine Wc ?_ | refine W2c ?_ ?_ | refine Wg ?_ | refine W2 ?_ ?_ | exact Wdead | refine Wlive (fun hb => ?_) | intro _ _ _ _ _ _ _ _ | refine We ?_ | refine Wx ?_ | refine Wt ?_ | refine Wm ?_ | refine W2m ?_ ?_ | refine Wl ?_
      | fail)
    · refine ⟨(), hlt, (by repeat' (first | exact Weak.nil | refine Weak.wild ?_ | refine Weak.same ?_ | refine Weak.intEq (by first | omega | (simp; done) | (push_cast; omega)) ?_)), rfl, extA, getA, getA, ?_, by simp; omega⟩
      rw [key]
      simp only [stay1, if_pos hb]
      exact getA
    · refine ⟨(), hlt, (by repeat' (first | exact Weak.nil | refine Weak.wild ?_ | refine Weak.same ?_ | refine Weak.intEq (by first | omega | (simp; done) | (push_cast; omega)) ?_)), rfl, extA, getA, getA, ?_, by simp; omega⟩
      rw [key]
      simp only [stay1, if_neg hb]
      rw [set_same (l := ((wv m s1 s2 s3 [e0, e1, e2, e3] ss).set (9 + c.ticket.toNat * 3) (.int .i64 (s.clips + 1)))) (n := 9 + c.ticket.toNat * 3 + 1) (v := .int .i64 s.came) (by rw [List.getElem?_set_ne (by omega)]; exact hc1')]
      exact getA
  · have hwl := wv_len m s1 s2 s3 [e0, e1, e2, e3] (staysS [e0, e1, e2, e3] (m.clips.take j)) rfl (staysS_len _ _)
    have hwt := wv_take m s1 s2 s3 [e0, e1, e2, e3] (staysS [e0, e1, e2, e3] (m.clips.take j)) rfl (staysS_len _ _)
    have hwo := wv_ok m s1 s2 s3 [e0, e1, e2, e3] (staysS [e0, e1, e2, e3] (m.clips.take j)) hok
    repeat' (first
      | (refine is_ucall ?_; first
        | refine st_callP (h := trueMinute_spec _ _ _ (encE [e0, e1, e2, e3]) c _ rfl (encE_ok _) hc1 hc2 hat.1 hat.2) (k := ?_)
        | fail)
      | (refine is_umcall ?_; first
        | refine mj_callP (h := trueMinute_spec _ _ _ (encE [e0, e1, e2, e3]) c _ rfl (encE_ok _) hc1 hc2 hat.1 hat.2) (k := ?_)
        | fail)
      | refine W1 ?_ | refine Wc ?_ | refine W2c ?_ ?_ | refine Wg ?_ | refine W2 ?_ ?_ | exact Wdead | refine Wlive (fun hb => ?_) | intro _ _ _ _ _ _ _ _ | refine We ?_ | refine Wx ?_ | refine Wt ?_ | refine Wm ?_ | refine W2m ?_ ?_ | refine Wl ?_
      | fail)
    obtain rfl : j = m.clips.length := by omega
    rw [List.take_length]
    exact Tidy.ext extA (.low (.agg fun v hv => (wv_rest hv).elim (hm.low v) .flat)) ⟨rfl, rfl, rfl⟩
end Go.Proofs.Ytehobnpoeodhkaa

namespace Go.Proofs.Ytehobnpoeodhkaa
open Go Go.Abs Go.Proofs
set_option maxHeartbeats 400000
attribute [local irreducible] CallJ OpsJ WPJ CallV MonoJ

/-- Rows that are our own, or dead. -/
def OwnL (L : AHeap) : Prop := ∀ o ∈ L, o.dead? = true ∨ ownedO o = true
theorem OwnL.nil : OwnL [] := fun _ h => by cases h
theorem OwnL.cons {o : AObj} {L : AHeap} (h : o.dead? = true ∨ ownedO o = true) (hL : OwnL L) : OwnL (o :: L) := fun x hx => by
  rcases List.mem_cons.1 hx with rfl | hx
  · exact h
  · exact hL x hx
theorem OwnL.append {L L' : AHeap} (h : OwnL L) (h' : OwnL L') : OwnL (L ++ L') := fun x hx => (List.mem_append.1 hx).elim (h x) (h' x)
/-- what a loop over an iterator leaves as it was -/
theorem kept_of {Hb L0 L2 : AHeap} {sh : List Nat} (hsh : ∀ i ∈ sh, i < Hb.length) (hL : OwnL L2) :
    (∀ i ∈ sh, ∀ c es own, (Hb ++ L0)[i]? = some (.row c es own) → (Hb ++ L2)[i]? = some (.row c es own)) ∧
    (∀ (i : Nat) (o : AObj), (Hb ++ L2)[i]? = some o → o.dead? = false → ownedO o = false → ∃ o' : AObj, (Hb ++ L0)[i]? = some o' ∧ o'.dead? = false) := by
  refine ⟨fun i hi c es own h => ?_, fun i o h hd ho => ?_⟩
  · rw [List.getElem?_append_left (hsh i hi)] at h ⊢; exact h
  · by_cases hlt : i < Hb.length
    · rw [List.getElem?_append_left hlt] at h
      exact ⟨o, by rw [List.getElem?_append_left hlt]; exact h, hd⟩
    · rw [List.getElem?_append_right (by omega)] at h
      rcases hL o (List.mem_of_getElem? h) with h1 | h1
      · rw [h1] at hd; cases hd
      · rw [h1] at ho; cases ho

/-- What is shared with an iterator of a house: its box, its lists. -/
def shH (b : Nat) (s1 s2 s3 : Value) : List Nat := b :: (idOf s1 ++ (idOf s2 ++ idOf s3))
theorem idOf_rd {H : AHeap} {v : Value} {es : Nat} {xs : List (List Value)} (h : RdS H v es xs) {i : Nat} (hi : i ∈ idOf v) : i < H.length ∧ ∃ o l c, v = .slice (some ⟨i, o, none⟩) l c := by
  obtain ⟨_, h2⟩ := h
  rcases h2 with ⟨k, o, c, row, es', own, rfl, hk, _⟩ | ⟨_, rfl | rfl⟩
  · simp [idOf] at hi
    subst hi
    exact ⟨(List.getElem?_eq_some_iff.1 hk).1, o, _, c, rfl⟩
  · simp [idOf] at hi
  · simp [idOf] at hi
theorem shH_lt {H : AHeap} {m : HouseM} {s1 s2 s3 : Value} {b : Nat} (hm : HouseIs H m s1 s2 s3) (hb : b < H.length) : ∀ i ∈ shH b s1 s2 s3, i < H.length := by
  intro i hi
  simp only [shH, List.mem_cons, List.mem_append] at hi
  rcases hi with rfl | hi | hi | hi
  · exact hb
  · exact (idOf_rd hm.clocks hi).1
  · exact (idOf_rd hm.tickets hi).1
  · exact (idOf_rd hm.clips hi).1
theorem shH_ok {H : AHeap} {m : HouseM} {s1 s2 s3 : Value} {b : Nat} {own : Bool} (hm : HouseIs H m s1 s2 s3) (hb : H[b]? = some (.row (hcells m s1 s2 s3) 1 own)) : ∀ Hi, Viewed (shH b s1 s2 s3) H Hi → OkH m s1 s2 s3 b Hi := by
  intro Hi hv
  have m1 : ∀ i ∈ idOf s1, i ∈ shH b s1 s2 s3 := fun i hi => by simp [shH, hi]
  have m2 : ∀ i ∈ idOf s2, i ∈ shH b s1 s2 s3 := fun i hi => by simp [shH, hi]
  have m3 : ∀ i ∈ idOf s3, i ∈ shH b s1 s2 s3 := fun i hi => by simp [shH, hi]
  exact ⟨⟨hm.clocks.viewed m1 hv, hm.tickets.viewed m2 hv, hm.clips.viewed m3 hv, hm.ok, hm.n1, hm.n2, hm.n3, hm.p1.viewed m1 hv, hm.p2.viewed m2 hv, hm.p3.viewed m3 hv⟩, hv b (by simp [shH]) _ _ _ hb⟩
theorem rel_id {ρ : Ren} {H : AHeap} {v u : Value} {es : Nat} {xs : List (List Value)} (h : RdS H v es xs) (hv : VRel ρ v u) : ∀ i ∈ idOf v, ∃ m, ρ i = some m := by
  intro i hi
  obtain ⟨_, o, l, c, rfl⟩ := idOf_rd h hi
  cases hv with
  | slice h1 _ _ => exact ⟨_, h1⟩
theorem shH_known {H : AHeap} {m : HouseM} {s1 s2 s3 : Value} {b : Nat} {own : Bool} (hm : HouseIs H m s1 s2 s3) (hb : H[b]? = some (.row (hcells m s1 s2 s3) 1 own)) {ρ : Ren} {w : World} (hs : SRel ρ H w) (hk : ∃ x, ρ b = some x) : ∀ i ∈ shH b s1 s2 s3, ∃ m, ρ i = some m := by
  obtain ⟨x, hx⟩ := hk
  have hor := hs.obj b x _ hx hb
  obtain ⟨_, _, c, e, fr, _, _, _, h5, h6⟩ := hor
  have h5' : 5 ≤ c.size := h5
  intro i hi
  simp only [shH, List.mem_cons, List.mem_append] at hi
  rcases hi with rfl | hi | hi | hi
  · exact ⟨x, hx⟩
  · exact rel_id hm.clocks (h6 2 (by simp) (by omega)) i hi
  · exact rel_id hm.tickets (h6 3 (by simp) (by omega)) i hi
  · exact rel_id hm.clips (h6 4 (by simp) (by omega)) i hi
theorem shH_cap {H : AHeap} {m : HouseM} {s1 s2 s3 : Value} {b : Nat} {own : Bool} {gf : FuncId} (hm : HouseIs H m s1 s2 s3) (hb : H[b]? = some (.row (hcells m s1 s2 s3) 1 own)) :
    ∀ (ρ : Ren) (w : World), SRel ρ H w → (∀ v', VRel ρ (.func (.func gf) ⟨[]⟩ ⟨[.pointer (some ⟨b, 0, none⟩)]⟩) v' → ∀ i ∈ shH b s1 s2 s3, ∃ m, ρ i = some m) := by
  intro ρ w hs v' hv
  refine shH_known hm hb hs ?_
  cases hv with
  | func h1 h2 h3 h4 =>
    have h := h4 0 (by simp) (by rw [← h3]; simp)
    simp only [List.getElem_toArray, List.getElem_cons_zero] at h
    obtain ⟨x, hx, _⟩ := rel_ptr h
    exact ⟨x, hx⟩
theorem shH_within {H : AHeap} {m : HouseM} {s1 s2 s3 : Value} {b : Nat} {own : Bool} (hm : HouseIs H m s1 s2 s3) (hb : H[b]? = some (.row (hcells m s1 s2 s3) 1 own)) :
    ∀ i ∈ shH b s1 s2 s3, ∀ c es own, H[i]? = some (.row c es own) → ∀ v ∈ c, Within (shH b s1 s2 s3) v := by
  intro i hi c es own' hc v hv
  have hpl : ∀ s, PlainS H s → i ∈ idOf s → Within (shH b s1 s2 s3) v := fun s hp hi => by
    obtain ⟨row, es2, h1, h2⟩ := hp i hi
    rw [hc] at h1; cases h1
    exact h2 v hv _
  simp only [shH, List.mem_cons, List.mem_append] at hi
  rcases hi with rfl | hi | hi | hi
  · rw [hb] at hc; cases hc
    simp only [hcells, List.mem_cons, List.not_mem_nil, or_false] at hv
    rcases hv with rfl | rfl | rfl | rfl | rfl
    · exact .flat rfl
    · exact .flat rfl
    · exact Within.idOf hm.clocks fun i hi => by simp [shH, hi]
    · exact Within.idOf hm.tickets fun i hi => by simp [shH, hi]
    · exact Within.idOf hm.clips fun i hi => by simp [shH, hi]
  · exact hpl _ hm.p1 hi
  · exact hpl _ hm.p2 hi
  · exact hpl _ hm.p3 hi
theorem shH_across {H : AHeap} {m : HouseM} {s1 s2 s3 : Value} {b l : Nat} (hm : HouseIs H m s1 s2 s3) {ρ : Ren} {w : World} (hs : SRel ρ H w) (hk : ∀ i ∈ shH b s1 s2 s3, ∃ m, ρ i = some m) {v : Value} (hv : v ∈ hcells m s1 s2 s3) : Across (shH b s1 s2 s3) ρ H.length l v := by
  simp only [hcells, List.mem_cons, List.not_mem_nil, or_false] at hv
  rcases hv with rfl | rfl | rfl | rfl | rfl
  · exact .flat rfl
  · exact .flat rfl
  · exact Across.plainS hs hk hm.clocks hm.p1 fun i hi => by simp [shH, hi]
  · exact Across.plainS hs hk hm.tickets hm.p2 fun i hi => by simp [shH, hi]
  · exact Across.plainS hs hk hm.clips hm.p3 fun i hi => by simp [shH, hi]

section
variable {γ : Type} (E : Env γ) (g : γ) (H : AHeap)
theorem allErrors_spec (m : HouseM) (s1 s2 s3 : Value) (hok : (hcells m s1 s2 s3).all cellOk = true) : CallJ Try.prog E 122 [hv m s1 s2 s3] (fun v H' g' => v = .func (.func 135) ⟨[]⟩ ⟨[.pointer (some ⟨H.length, 0, none⟩)]⟩ ∧ H' = H ++ [.row (hcells m s1 s2 s3) 1 true] ∧ g' = g) H g := by
  unfold hv
  refine CallJ.enter Try.func122 rfl (by simp only [Try.ntmps122, List.length_cons, List.length_nil, Nat.zero_add, Nat.reduceSub, List.replicate_succ, List.replicate_zero, List.cons_append, List.nil_append]; rfl) ?_
  repeat' (first
    | refine W1 ?_ | refine Wc ?_ | refine W2c ?_ ?_ | refine Wg ?_ | refine W2 ?_ ?_ | exact Wdead | refine Wlive (fun hb => ?_) | intro _ _ _ _ _ _ _ _ | refine We ?_ | refine Wx ?_ | refine Wt ?_ | refine Wm ?_ | refine W2m ?_ ?_ | refine Wl ?_
    | fail)
  exact ⟨rfl, rfl, rfl⟩
theorem truths_spec (m : HouseM) (s1 s2 s3 : Value) (hok : (hcells m s1 s2 s3).all cellOk = true) : CallJ Try.prog E 82 [hv m s1 s2 s3] (fun v H' g' => v = .func (.func 121) ⟨[]⟩ ⟨[.pointer (some ⟨H.length, 0, none⟩)]⟩ ∧ H' = H ++ [.row (hcells m s1 s2 s3) 1 true] ∧ g' = g) H g := by
  unfold hv
  refine CallJ.enter Try.func82 rfl (by simp only [Try.ntmps82, List.length_cons, List.length_nil, Nat.zero_add, Nat.reduceSub, List.replicate_succ, List.replicate_zero, List.cons_append, List.nil_append]; rfl) ?_
  repeat' (first
    | refine W1 ?_ | refine Wc ?_ | refine W2c ?_ ?_ | refine Wg ?_ | refine W2 ?_ ?_ | exact Wdead | refine Wlive (fun hb => ?_) | intro _ _ _ _ _ _ _ _ | refine We ?_ | refine Wx ?_ | refine Wt ?_ | refine Wm ?_ | refine W2m ?_ ?_ | refine Wl ?_
    | fail)
  exact ⟨rfl, rfl, rfl⟩
end
end Go.Proofs.Ytehobnpoeodhkaa
