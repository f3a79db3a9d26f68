import Derived.Test.YtjbiidlmpaibkaaGrp
namespace Go.Abs
open Go
def PhJ (P : Program) (ops : Array Oper) (m : Nat) (T : List Value) (R : List Value → AHeap → Prop) : List Nat → List Nat → List (Value × AHeap) → AHeap → Prop
  | [], ex, D, H => (∀ j o, j < m → ops[j]? = some o → (∀ s ∈ ex, s ≠ j ∧ ancB ops ops.size s j = false) → StepM P ops o (vD D j) (lD D j) (TK ops D T j) (HK D H j)) ∧ R (TK ops D T m) (HK D H m)
  | b :: bs, ex, D, H => b < m ∧
      (∀ j o, j < m → ops[j]? = some o → j ≠ b → ancB ops ops.size j b = false → j ∉ bs → (∀ s ∈ ex, s ≠ j ∧ ancB ops ops.size s j = false) → StepM P ops o (vD D j) (lD D j) (TK ops D T j) (HK D H j)) ∧
      (∀ b' ∈ bs, ancB ops ops.size b' b = true) ∧ ∃ i o0 o1, (HK D H b)[i]? = some o0 ∧ ownedO o0 = true ∧ flatRow o1 = true ∧ (∀ ob, ops[b]? = some ob → SpecM P i o1 ob (vD D b) (lD D b) (TK ops D T b) (HK D H b)) ∧
        PhJ P ops m T R bs (b :: ex) (chgD D H i o1) (H.set i o1)
section
variable {γ : Type} {P : Program} {E : Env γ} {ops : Array Oper} {D : List (Value × AHeap)} {T : List Value} {H : AHeap} {m : Nat} {LV : Nat → Prop}
  {g : γ} {S : Nat → Prop} {ρ : Ren} {w0 : World} {ro : Option Nat} {Ds : List Nat} {ds : List Deferred} {listed : Array Bool} {a : Act} {w : World} {ρ' : Ren}
theorem InvA.stepD (hi : InvA ops D T H m LV E g S ρ w0 ro Ds ds listed a w ρ') (hp : pairsB ops = true) {j : Nat} {o : Oper} (hj : ops[j]? = some o) (hjm : j < m) (hun : listed.getD j false = false)
    (hdeps : ∀ e ∈ o.after, Region.binds .any e = true → listed.getD e.on false = true) {ρ2 : Ren} {w' : World} {v' : Value} (hl : Left (cutR ρ' (HK D H j).length) (HK D H j) w (lD D j) ρ2 w') (hv : VRel ρ2 (vD D j) v') :
    ∃ ρ3, InvA ops D T H m LV E g S ρ w0 ro Ds ds (listed.setIfInBounds j true) (a.put o.dst v') w' ρ3 := by
  have hjl : j < listed.size := hi.size ▸ (Array.getElem?_eq_some_iff.1 hj).1
  have hset := getD_set hjl
  let ρ3 : Ren := fun i => if (HK D H j).length ≤ i ∧ i < (HK D H (j + 1)).length then ρ2 i else ρ' i
  have hlow : ∀ i, i < (HK D H j).length → ρ3 i = ρ' i := fun i h => by simp only [ρ3]; rw [if_neg (by omega)]
  have hmid : ∀ i, (HK D H j).length ≤ i → i < (HK D H (j + 1)).length → ρ3 i = ρ2 i := fun i h1 h2 => by simp only [ρ3]; rw [if_pos ⟨h1, h2⟩]
  have hhigh : ∀ i, (HK D H (j + 1)).length ≤ i → ρ3 i = ρ' i := fun i h => by simp only [ρ3]; rw [if_neg (by omega)]
  have hlen1 : (HK D H j).length ≤ (HK D H (j + 1)).length := HK_len D H (by omega)
  have h2low : ∀ i, i < (HK D H j).length → ρ2 i = ρ' i := fun i h => (hl.ext i h).trans (cutR_lt h)
  have hHj : HK D H j ++ lD D j = HK D H (j + 1) := rfl
  have hsr : SRel ρ2 (HK D H (j + 1)) w' := hl.srel
  have h2dom : ∀ i x, ρ2 i = some x → i < (HK D H (j + 1)).length := fun i x h => (hsr.dom i x h).1
  have le3 : ρ'.le ρ3 := fun i x hx => by
    by_cases h1 : (HK D H j).length ≤ i ∧ i < (HK D H (j + 1)).length
    · have := hi.made j hjm hun i h1.1 h1.2; rw [this] at hx; cases hx
    · simp only [ρ3]; rw [if_neg h1]; exact hx
  have le23 : ρ2.le ρ3 := fun i x hx => by
    have h1 := h2dom i x hx
    by_cases h2 : i < (HK D H j).length
    · rw [hlow i h2, ← h2low i h2]; exact hx
    · rw [hmid i (by omega) h1]; exact hx
  have oldblk : ∀ i x, ρ' i = some x → x.blk < w.heap.size := fun i x hx => ((hi.fam m (Nat.le_refl _)).dom i x (by rw [cutR_lt (hi.top i x hx)]; exact hx)).2
  have fam3 : ∀ k, k ≤ m → SRel (cutR ρ3 (HK D H k).length) (HK D H k) w' := by
    intro k hk
    have old := hi.fam k hk
    refine ⟨fun i x hx => ?_, fun i x ob hx hob => ?_, fun i i2 x x2 ob ob2 hx hx2 hob hob2 hd hd2 hown hbb => ?_⟩
    · obtain ⟨h1, h2⟩ := cutR_some hx
      refine ⟨h1, ?_⟩
      by_cases hmidi : (HK D H j).length ≤ i ∧ i < (HK D H (j + 1)).length
      · rw [hmid i hmidi.1 hmidi.2] at h2; exact (hsr.dom i x h2).2
      · have h3 : ρ' i = some x := by simp only [ρ3] at h2; rwa [if_neg hmidi] at h2
        have := oldblk i x h3; have := hl.size; omega
    · obtain ⟨h1, h2⟩ := cutR_some hx
      by_cases c1 : i < (HK D H j).length
      ·
        have h3 : ρ' i = some x := by rw [← hlow i c1]; exact h2
        have h4 : ρ2 i = some x := (h2low i c1).trans h3
        have hob1 : (HK D H (j + 1))[i]? = some ob := by rw [HK_get D H (j := k) (by omega) h1]; exact hob
        have hor := hsr.obj i x ob h4 hob1
        have hkk : ∃ k', k' ≤ j ∧ k' ≤ k ∧ i < (HK D H k').length := by
          rcases Nat.le_total j k with h | h
          · exact ⟨j, Nat.le_refl _, h, c1⟩
          · exact ⟨k, h, Nat.le_refl _, h1⟩
        obtain ⟨k', hk'j, hk'k, hik'⟩ := hkk
        have old' := hi.fam k' (by omega)
        have hob' : (HK D H k')[i]? = some ob := by rw [HK_get D H (j := k) hik' h1]; exact hob
        have hox := old'.obj i x ob (by rw [cutR_lt hik']; exact h3) hob'
        have lek2 : (cutR ρ' (HK D H k').length).le ρ2 := fun i' x' h' => by
          obtain ⟨a1, a2⟩ := cutR_some h'
          have := HK_len D H hk'j
          rw [h2low i' (by omega)]; exact a2
        have lek3 : (cutR ρ' (HK D H k').length).le (cutR ρ3 (HK D H k).length) := fun i' x' h' => by
          obtain ⟨a1, a2⟩ := cutR_some h'
          have := HK_len D H hk'k
          rw [cutR_lt (by omega)]; exact le3 i' x' a2
        cases ob with
        | row cells es own =>
          obtain ⟨b1, b2, c, e, fr, b3, b4, b5, b6, b7⟩ := hor
          obtain ⟨_, _, c0, _, _, _, _, _, d6, d7⟩ := hox
          exact ⟨b1, b2, c, e, fr, b3, b4, b5, b6, fun j' h1' h2' => ((d7 j' h1' (by omega)).restrict lek2 (b7 j' h1' h2')).mono lek3⟩
        | map es ck =>
          obtain ⟨b1, es', b2, b3, b4⟩ := hor
          obtain ⟨_, es0, _, d3, d4⟩ := hox
          refine ⟨b1, es', b2, b3, fun j' h1' h2' => ?_⟩
          have q := d4 j' h1' (by omega)
          have r := b4 j' h1' h2'
          exact ⟨(q.1.restrict lek2 r.1).mono lek3, (q.2.1.restrict lek2 r.2.1).mono lek3, r.2.2⟩
        | iter mp ck sn =>
          obtain ⟨b1, mm, b2, b3⟩ := hor
          obtain ⟨_, mm', d2, _⟩ := hox
          have : mm' = mm := by have := lek2 _ _ d2; rw [b2] at this; exact (Option.some.inj this).symm
          subst this
          exact ⟨b1, mm', lek3 _ _ d2, b3⟩
        | tok _ => exact ⟨hor.1, fun p hp => lek3 _ _ (hox.2 p hp)⟩
        | dead => trivial
      · by_cases c2 : i < (HK D H (j + 1)).length
        ·
          have hjk : j + 1 ≤ k := by
            rcases Nat.lt_or_ge j k with h | h
            · exact h
            · have := HK_len D H h; omega
          have h4 : ρ2 i = some x := by rw [← hmid i (by omega) c2]; exact h2
          have hob1 : (HK D H (j + 1))[i]? = some ob := by rw [HK_get D H (j := k) c2 h1]; exact hob
          refine (hsr.obj i x ob h4 hob1).mono fun i' x' h' => ?_
          have := HK_len D H hjk
          have := h2dom i' x' h'
          rw [cutR_lt (by omega)]; exact le23 i' x' h'
        ·
          have h3 : ρ' i = some x := by rw [← hhigh i (by omega)]; exact h2
          have hc : cutR ρ' (HK D H k).length i = some x := by rw [cutR_lt h1]; exact h3
          have hor := old.obj i x ob hc hob
          by_cases hdd : ob.dead? = true
          · cases ob with
            | dead => trivial
            | _ => cases hdd
          have hno : ¬ LiveOwn (cutR ρ' (HK D H j).length) (HK D H j) x.blk := by
            rintro ⟨i', x', o', e1, e2, e3, e4, e5⟩
            obtain ⟨f1, f2⟩ := cutR_some e1
            have hjk : j ≤ k := by
              rcases Nat.le_total j k with h | h
              · exact h
              · have := HK_len D H h; omega
            have hjk' := HK_len D H hjk
            have e2' : (HK D H k)[i']? = some o' := by rw [← HK_get D H (i := j) f1 (by omega)]; exact e2
            have hdob : ob.dead? = false := by simpa using hdd
            have := old.inj i' i x' x o' ob (by rw [cutR_lt (by omega)]; exact f2) hc e2' hob e3 hdob e4 e5
            omega
          rw [hl.keep x.blk (oldblk i x h3) hno]
          exact hor.mono fun i' x' h' => by
            obtain ⟨a1, a2⟩ := cutR_some h'
            rw [cutR_lt a1]; exact le3 i' x' a2
    · obtain ⟨h1, h2⟩ := cutR_some hx
      obtain ⟨k1, k2⟩ := cutR_some hx2
      have cls : ∀ i x, ρ3 i = some x → ((HK D H j).length ≤ i ∧ i < (HK D H (j + 1)).length ∧ ρ2 i = some x ∧ w.heap.size ≤ x.blk) ∨ (ρ' i = some x ∧ x.blk < w.heap.size) := by
        intro i x h
        by_cases c : (HK D H j).length ≤ i ∧ i < (HK D H (j + 1)).length
        · rw [hmid i c.1 c.2] at h
          exact .inl ⟨c.1, c.2, h, hl.new i x c.1 h⟩
        · simp only [ρ3] at h; rw [if_neg c] at h; exact .inr ⟨h, oldblk i x h⟩
      rcases cls i x h2 with ⟨a1, a2, a3, a4⟩ | ⟨a3, a4⟩
      · rcases cls i2 x2 k2 with ⟨b1, b2, b3, b4⟩ | ⟨b3, b4⟩
        · have e1 : (HK D H (j + 1))[i]? = some ob := by rw [HK_get D H (j := k) a2 h1]; exact hob
          have e2 : (HK D H (j + 1))[i2]? = some ob2 := by rw [HK_get D H (j := k) b2 k1]; exact hob2
          exact hsr.inj i i2 x x2 ob ob2 a3 b3 e1 e2 hd hd2 hown hbb
        · omega
      · rcases cls i2 x2 k2 with ⟨b1, b2, b3, b4⟩ | ⟨b3, b4⟩
        · omega
        · exact old.inj i i2 x x2 ob ob2 (by rw [cutR_lt h1]; exact a3) (by rw [cutR_lt k1]; exact b3) hob hob2 hd hd2 hown hbb
  have hno : ∀ b, b < w0.heap.size → ¬ LV b → ¬ LiveOwn (cutR ρ' (HK D H j).length) (HK D H j) b := by
    rintro b hb hno ⟨i, x, o', e1, e2, e3, e4, e5⟩
    obtain ⟨f1, f2⟩ := cutR_some e1
    by_cases c : i < H.length
    · have h0 : HK D H 0 = H := rfl
      exact hno (hi.live _ ⟨i, x, o', (hi.base i c) ▸ f2, by have := HK_get D H (i := 0) (j := j) (k := i) (by rw [h0]; exact c) f1; rw [h0] at this; rw [this]; exact e2, e3, e4, e5⟩)
    · rcases hi.fresh i x (by omega) f2 with h9 | h9
      · omega
      · exact hno (e5 ▸ h9)
  have hk : ∀ b, b < w0.heap.size → ¬ LV b → w'.heap[b]? = w.heap[b]? := fun b hb hl' => hl.keep b (by have := hi.wsize; omega) (hno b hb hl')
  have hkS : ∀ b, S b → w'.heap[b]? = w.heap[b]? := fun b hb => hk b (hi.bnd b hb) (hi.disj b hb)
  have hd : dstA ops j = o.dst := by simp [dstA, hj]
  have hloop : ∀ (l : Nat) (ob : Obj), w.heap[l]? = some ob → (∀ c e fr, ob ≠ .cells c e fr) → (∀ es ck, ob ≠ .map es ck) → (∀ a b c d, ob ≠ .mapIter a b c d) → w'.heap[l]? = some ob := fun l ob h1 h2 h3 h4 =>
    (hl.keep l (Array.getElem?_eq_some_iff.1 h1).1 (not_liveOwn_of_loop (hi.fam j (by omega)) h1 h2 h3 h4)).trans h1
  refine ⟨ρ3, ?_⟩
  exact {
    size := by rw [Array.size_setIfInBounds]; exact hi.size
    closed := fun j' o' hj' hl' e he hb => by
      rw [hset] at hl' ⊢
      by_cases ej : j' = j
      · subst ej
        rw [hj] at hj'; cases hj'
        split
        · rfl
        · exact hdeps e he hb
      · rw [if_neg ej] at hl'
        split
        · rfl
        · exact hi.closed j' o' hj' hl' e he hb
    pre := fun j' hj' => by rw [hset, if_neg (by omega)]; exact hi.pre j' hj'
    fam := fam3
    top := fun i x hx => by
      by_cases c : (HK D H j).length ≤ i ∧ i < (HK D H (j + 1)).length
      · have := HK_len D H (i := j + 1) (j := m) (by omega); omega
      · simp only [ρ3] at hx; rw [if_neg c] at hx; exact hi.top i x hx
    base := fun i hi' => by
      have h0 : H.length ≤ (HK D H j).length := HK_len D H (Nat.zero_le j)
      rw [hlow i (by omega)]; exact hi.base i hi'
    made := fun j' hj' hl' i h1 h2 => by
      rw [hset] at hl'
      by_cases ej : j' = j
      · subst ej; rw [if_pos rfl] at hl'; cases hl'
      · rw [if_neg ej] at hl'
        have := hi.made j' hj' hl' i h1 h2
        have c : ¬ ((HK D H j).length ≤ i ∧ i < (HK D H (j + 1)).length) := by
          rintro ⟨c1, c2⟩
          rcases Nat.lt_or_gt_of_ne ej with h | h
          · have := HK_len D H (i := j' + 1) (j := j) (by omega); omega
          · have := HK_len D H (i := j + 1) (j := j') (by omega); omega
        simp only [ρ3]; rw [if_neg c]; exact this
    vals := fun j' hj' hl' => by
      rw [hset] at hl'
      by_cases ej : j' = j
      · subst ej
        exact ⟨v', hv.mono fun i x hx => by have := h2dom i x hx; rw [cutR_lt (by omega)]; exact le23 i x hx⟩
      · rw [if_neg ej] at hl'
        exact (hi.vals j' hj' hl').mono fun i x hx => by
          obtain ⟨a1, a2⟩ := cutR_some hx
          rw [cutR_lt a1]; exact le3 i x a2
    trel := by
      rw [TS_set hp hi.closed hj hi.size hun m, if_pos hjm, hd]
      exact TRel.put (ac := a) (hi.trel.mono le3) o.dst (hv.mono le23)
    j := E.stable g S w w' hi.j hkS hl.size hl.os hl.tape hl.out
    bnd := hi.bnd
    disj := hi.disj
    live := hi.live
    os := hl.os.trans hi.os
    tape := hl.tape.trans hi.tape
    out := hl.out.trans hi.out
    wsize := Nat.le_trans hi.wsize hl.size
    keep := fun b hb hl' => (hk b hb hl').trans (hi.keep b hb hl')
    fresh := fun i x h1 hx => by
      by_cases c : (HK D H j).length ≤ i ∧ i < (HK D H (j + 1)).length
      · rw [hmid i c.1 c.2] at hx
        have := hl.new i x c.1 hx
        have := hi.wsize
        exact .inl (by omega)
      · simp only [ρ3] at hx; rw [if_neg c] at hx; exact hi.fresh i x h1 hx
    ro := fun l hl' => by
      obtain ⟨h1, r, h2⟩ := hi.ro l hl'
      exact ⟨h1, r, hloop l _ h2 (fun _ _ _ e => by cases e) (fun _ _ e => by cases e) (fun _ _ _ _ e => by cases e)⟩
    marks := by
      rw [put_defers]
      exact ⟨hi.marks.eq, hi.marks.nodup, fun D' hD' => ⟨(hi.marks.at_ D' hD').1, hloop D' _ (hi.marks.at_ D' hD').2 (fun _ _ _ e => by cases e) (fun _ _ e => by cases e) (fun _ _ _ _ e => by cases e)⟩⟩
    defers := by rw [put_defers]; exact hi.defers }
theorem head_anyD (hb : backB ops = true) (hp : pairsB ops = true) (hsuf : sufB ops m = true) (hmn : m ≤ ops.size) {H0 : AHeap} (hl0 : H0.length = H.length) (hdom : ∀ i x, ρ i = some x → i < H.length) (htd : ∀ t, Def ρ (getT T t))
    {QQ : Exit → Act → World → Prop} (I : Array Bool → Prop) (hdat : ∀ (j : Nat) (o : Oper) (listed : Array Bool), j < m → ops[j]? = some o → listed.size = ops.size → Closed ops listed → listed.getD j false = false → (∀ e ∈ o.after, Region.binds .any e = true → listed.getD e.on false = true) → I listed →
      (StepM P ops o (vD D j) (lD D j) (TK ops D T j) (HK D H j) ∧ I (listed.setIfInBounds j true)) ∨
      (∀ (fuel : Nat) (a : Act) (w : World) (ρ' : Ren), unl ops listed ≤ fuel + 1 → InvA ops D T H m (LiveOwn ρ H0) E g S ρ w0 ro Ds ds listed a w ρ' → wpOpIn (Wr ro) 0 P ops QQ j (wpAnyIn (Wr ro) 0 P .any ops QQ fuel (listed.setIfInBounds j true)) a w)) {R : List Value → AHeap → γ → Prop} {Q : Exit → List Value → AHeap → γ → Prop} (hRQ : ∀ T H g, R T H g → Q .normal T H g)
    (hR : ∀ listed : Array Bool, I listed → (∀ j, j < m → listed.getD j false = true) → OpsJ P E ops R (ops.toList.drop m) (TK ops D T m) (HK D H m) g) (hQ : ∀ e a w, Post E Q ρ H0 S w0 Ds e a w → QQ e a w) :
    ∀ (fuel : Nat) (listed : Array Bool) (a : Act) (w : World) (ρ' : Ren), unl ops listed ≤ fuel →
      InvA ops D T H m (LiveOwn ρ H0) E g S ρ w0 ro Ds ds listed a w ρ' → I listed → wpAnyIn (Wr ro) 0 P .any ops QQ fuel listed a w := by
  have over : ∀ (fuel : Nat) (listed : Array Bool) (a : Act) (w : World) (ρ' : Ren), unl ops listed ≤ fuel → InvA ops D T H m (LiveOwn ρ H0) E g S ρ w0 ro Ds ds listed a w ρ' → I listed → (∀ j, j < m → listed.getD j false = true) → wpAnyIn (Wr ro) 0 P .any ops QQ fuel listed a w := by
    intro fuel listed a w ρ' hf hi hIl hall
    obtain ⟨h1, h2, h3⟩ := hi.over hl0 hall
    refine tail_any hb hsuf hRQ fuel m listed hf (Nat.le_refl _) hi.size (fun k => ⟨fun h => ?_, hall k⟩) _ _ _ (hR listed hIl hall) ρ' w S Ds a h1 h2 hi.ro hi.marks QQ fun e a w hp => hQ _ _ _ (hp.from h3 fun _ h => .inl h)
    rcases Nat.lt_or_ge k m with hk | hk
    · exact hk
    · rw [hi.pre k hk] at h; cases h
  intro fuel
  induction fuel with
  | zero =>
    intro listed a w ρ' hf hi hIl
    exact over 0 listed a w ρ' hf hi hIl fun j hj => unl_zero hf (by omega)
  | succ fuel ih =>
    intro listed a w ρ' hf hi hIl
    by_cases hall : ∀ j, j < m → listed.getD j false = true
    · exact over (fuel + 1) listed a w ρ' hf hi hIl hall
    · obtain ⟨j0, hj0, hun0⟩ : ∃ j0, j0 < m ∧ listed.getD j0 false = false := by
        apply Classical.byContradiction
        intro hno
        refine hall fun j hj => ?_
        cases hq : listed.getD j false with
        | true => rfl
        | false => exact absurd ⟨j, hj, hq⟩ hno
      refine ⟨fun h0 => ?_, fun k hk => ?_⟩
      · have := first_ready hb hi.size h0 j0 (by omega)
        rw [hun0] at this; cases this
      · obtain ⟨h1, o, h2, h3⟩ := mem_ready.1 hk
        have hkl : k < ops.size := (Array.getElem?_eq_some_iff.1 h2).1
        have hkz : k < listed.size := by rw [hi.size]; exact hkl
        have hunk : listed.getD k false = false := by
          simp only [Array.getD, hkz, dif_pos] at h1 ⊢; exact h1
        have hkm : k < m := by
          rcases Nat.lt_or_ge k m with h4 | h4
          · exact h4
          · have := anc_listed hi.closed ops.size k j0 o h2 h3 (sufB_spec hsuf hkl h4 (by omega))
            rw [hun0] at this; cases this
        rcases hdat k o listed hkm h2 hi.size hi.closed hunk h3 hIl with ⟨hst, hIs⟩ | hsp
        rotate_left
        · exact hsp fuel a w ρ' hf hi
        have hlook := fun t ht => look_same (D := D) (T := T) hp hi.closed h2 hkm hmn hunk h3 (t := t) ht
        have lek : (cutR ρ' (HK D H k).length).le ρ' := cutR_le _ _
        have hdef : ∀ t, t ∈ o.looksAt ops → Def (cutR ρ' (HK D H k).length) (getT (TK ops D T k) t) := by
          intro t ht
          have hw := (hlook t ht).1
          have : ∀ i, i ≤ k → Def (cutR ρ' (HK D H k).length) (getT (TK ops D T i) t) := by
            intro i
            induction i with
            | zero =>
              intro _
              refine (htd t).mono fun i x hx => ?_
              have hlt := hdom i x hx
              have := HK_len D H (Nat.zero_le k)
              have h0 : HK D H 0 = H := rfl
              rw [h0] at this
              rw [cutR_lt (by omega), hi.base i hlt]; exact hx
            | succ i ih2 =>
              intro hik
              simp only [TK]
              by_cases hd : dstA ops i = some t
              · have hdv := hi.vals i (by omega) (hw i (by omega) hd)
                have hdv' : Def (cutR ρ' (HK D H k).length) (vD D i) := hdv.mono (cutR_mono ρ' (HK_len D H hik))
                rw [hd]
                rw [getT_get?]
                simp only [putT]
                rw [List.getElem?_set_self']
                cases (TK ops D T i)[t]? with
                | none => exact ⟨undef, undef_rel _⟩
                | some _ => exact hdv'
              · rw [getT_put hd]; exact ih2 (by omega)
          exact this k (Nat.le_refl _)
        have hop : OpRel (cutR ρ' (HK D H k).length) (TK ops D T k) a o.op := ⟨fun x hx => by
          cases x with
          | tmp t =>
            have ht : t ∈ o.looksAt ops := List.mem_append_left _ (List.mem_filterMap.2 ⟨.tmp t, hx, rfl⟩)
            have h5 := hi.trel.getD t
            rw [(hlook t ht).2] at h5
            obtain ⟨v1, hv1⟩ := hdef t ht
            exact hv1.restrict lek h5
          | const v => exact constT_rel _ v
          | global i => exact .wild _
          | func f => exact .func rfl (fun _ h => absurd h (Nat.not_lt_zero _)) rfl (fun _ h => absurd h (Nat.not_lt_zero _))⟩
        have hinv : Inv trivE (cutR ρ' (HK D H k).length) (HK D H k) () (fun _ => False) w := ⟨hi.fam k (by omega), trivial, fun _ h => h.elim, fun _ h => h.elim⟩
        have hro : RoOk ro (fun _ => False) w := fun l hl => ⟨fun h => h, (hi.ro l hl).2⟩
        have hmk : Marks a.defers Ds (fun _ => False) w := ⟨hi.marks.eq, hi.marks.nodup, fun D' hD' => ⟨fun h => h, (hi.marks.at_ D' hD').2⟩⟩
        have runOp : Mono P o (vD D k) (lD D k) (TK ops D T k) (HK D H k) → o.wpIn (Wr ro) 0 P a w (wpAnyIn (Wr ro) 0 P .any ops QQ fuel (listed.setIfInBounds k true)) QQ := by
          rintro ⟨hL, hmono⟩
          refine Oper.wpIn_mono ?_ ⟨fun _ _ => trivial, hmono _ w (fun _ => False) ro Ds a QQ hinv hop hro hmk⟩
          rintro ac' w' ⟨ρ2, v, v', H', g', S', rfl, hv, hi', tr, hv1, hH1⟩
          subst hv1; subst hH1
          obtain ⟨ρ3, hi3⟩ := hi.stepD hp h2 hkm hunk h3 (Left.of hL (hi.fam k (by omega)) hi'.srel tr) hv
          exact ih _ _ _ ρ3 (unl_set hi.size hkl hunk hf) hi3 hIs
        have skipOp : vD D k = undef → lD D k = [] → wpAnyIn (Wr ro) 0 P .any ops QQ fuel (listed.setIfInBounds k true) (a.put o.dst undef) w := by
          intro hv hL
          have hleft : Left (cutR ρ' (HK D H k).length) (HK D H k) w (lD D k) (cutR ρ' (HK D H k).length) w :=
            ⟨by rw [hL, List.append_nil]; exact hi.fam k (by omega), fun _ _ => rfl, rfl, rfl, rfl, Nat.le_refl _, fun _ _ _ => rfl, fun i x h1 hx => by have := (cutR_some hx).1; omega⟩
          obtain ⟨ρ3, hi3⟩ := hi.stepD hp h2 hkm hunk h3 hleft (v' := undef) (by rw [hv]; exact undef_rel _)
          exact ih _ _ _ ρ3 (unl_set hi.size hkl hunk hf) hi3 hIs
        unfold wpOpIn
        simp only [h2]
        cases hg : o.guard with
        | none =>
          have hw : Region.wanted o (yielded ops a.tmps) = true := by simp [Region.wanted, hg]
          simp only [StepM, hg] at hst
          simp only [hw, if_true]
          exact runOp hst
        | some jb =>
          obtain ⟨jj, b⟩ := jb
          simp only [StepM, hg] at hst
          obtain ⟨x, hx, k1, k2⟩ := hst
          have hy : yielded ops a.tmps jj = x := by
            unfold guardAt at hx
            unfold yielded
            cases hd : (ops[jj]?).bind (·.dst) with
            | none => rw [hd] at hx; simp at hx
            | some d =>
              rw [hd] at hx
              simp only [Option.bind_some] at hx ⊢
              have ht : d ∈ o.looksAt ops := List.mem_append_right _ (by simp [hg, hd])
              have h5 := hi.trel.getD d
              rw [(hlook d ht).2] at h5
              cases hT : (TK ops D T k)[d]? with
              | none => rw [hT] at hx; simp at hx
              | some v =>
                rw [hT] at hx
                obtain ⟨hlt, he⟩ := List.getElem?_eq_some_iff.1 hT
                have hlenT : ∀ i, (TK ops D T i).length = T.length := by
                  intro i
                  induction i with
                  | zero => rfl
                  | succ i ih2 => simp only [TK]; cases dstA ops i <;> simp [putT, ih2]
                have hlenS : ∀ i, (TS ops D T listed i).length = T.length := by
                  intro i
                  induction i with
                  | zero => rfl
                  | succ i ih2 =>
                    simp only [TS]
                    split
                    · cases dstA ops i <;> simp [putT, ih2]
                    · exact ih2
                have hlt2 : d < a.tmps.size := by
                  have h6 : (TS ops D T listed m).length = a.tmps.size := by simpa using hi.trel.1
                  have h7 := hlenS m
                  have h8 := hlenT k
                  have h9 : d < T.length := h8 ▸ hlt
                  exact (h6 ▸ h7) ▸ h9
                rw [getT_get?, hT] at h5
                simp only [Array.getD, hlt2, dif_pos, Option.getD_some] at h5
                rw [Array.getElem?_eq_getElem hlt2]
                split at hx
                · rename_i b' hb'
                  simp only [Option.some.injEq] at hb' hx
                  rw [hb'] at h5
                  have : a.tmps[d] = .bool b' := rel_bool h5
                  rw [this]; exact hx
                · rename_i hb'
                  simp only [Option.some.injEq] at hb' hx
                  rw [hb'] at h5
                  obtain ⟨a', ha', _⟩ := rel_tuple h5
                  have : a.tmps[d] = .tuple a' := ha'
                  rw [this]; exact hx
                · cases hx
          by_cases hxb : x = some b
          · have hw : Region.wanted o (yielded ops a.tmps) = true := by simp [Region.wanted, hg, hy, hxb]
            simp only [hw, if_true]
            exact runOp (k1 hxb)
          · have hw : Region.wanted o (yielded ops a.tmps) = false := by simp [Region.wanted, hg, hy, hxb]
            simp only [hw, Bool.false_eq_true, if_false]
            exact ⟨fun _ _ => trivial, skipOp (k2 hxb).1 (k2 hxb).2⟩
theorem InvA.specialD (hi : InvA ops D T H m LV E g S ρ w0 ro Ds ds listed a w ρ') (hp : pairsB ops = true) {j : Nat} {o : Oper} (hLj : (lD D j).all ownRow = true) (hj : ops[j]? = some o) (hjm : j < m) (hun : listed.getD j false = false)
    (hdeps : ∀ e ∈ o.after, Region.binds .any e = true → listed.getD e.on false = true) {i : Nat} {o0 o1 : AObj} (hio : (HK D H j)[i]? = some o0) (ho0 : ownedO o0 = true) (hfl : flatRow o1 = true) (hlv : ∀ b, LiveOwn ρ (H.set i o1) b → LV b)
    (hlvi : ∀ x, ρ i = some x → i < H.length → LV x.blk)
    {ρ2 : Ren} {w' : World} {v' : Value} {S' : Nat → Prop} (hs2 : SRel ρ2 (HK (chgD D H i o1) (H.set i o1) (j + 1)) w') (tr : Trans (cutR ρ' (HK D H j).length) (HK D H j) (fun _ => False) w ρ2 (HK (chgD D H i o1) (H.set i o1) (j + 1)) S' w') (hv : VRel ρ2 (vD D j) v') :
    ∃ ρ3, InvA ops (chgD D H i o1) T (H.set i o1) m LV E g S ρ w0 ro Ds ds (listed.setIfInBounds j true) (a.put o.dst v') w' ρ3 := by
  have hjl : j < listed.size := hi.size ▸ (Array.getElem?_eq_some_iff.1 hj).1
  have hset := getD_set hjl
  have hil : i < (HK D H j).length := (List.getElem?_eq_some_iff.1 hio).1
  have hl : ∀ k, (HK (chgD D H i o1) (H.set i o1) k).length = (HK D H k).length := chgD_len D H i o1
  let ρ3 : Ren := fun i => if (HK D H j).length ≤ i ∧ i < (HK D H (j + 1)).length then ρ2 i else ρ' i
  have hlow : ∀ i, i < (HK D H j).length → ρ3 i = ρ' i := fun i h => by simp only [ρ3]; rw [if_neg (by omega)]
  have hmid : ∀ i, (HK D H j).length ≤ i → i < (HK D H (j + 1)).length → ρ3 i = ρ2 i := fun i h1 h2 => by simp only [ρ3]; rw [if_pos ⟨h1, h2⟩]
  have hhigh : ∀ i, (HK D H (j + 1)).length ≤ i → ρ3 i = ρ' i := fun i h => by simp only [ρ3]; rw [if_neg (by omega)]
  have hlen1 : (HK D H j).length ≤ (HK D H (j + 1)).length := HK_len D H (by omega)
  have h2low : ∀ i, i < (HK D H j).length → ρ2 i = ρ' i := fun i h => (tr.ext i h).trans (cutR_lt h)
  have h2dom : ∀ i x, ρ2 i = some x → i < (HK D H (j + 1)).length := fun i x h => by have := (hs2.dom i x h).1; rwa [hl] at this
  have le3 : ρ'.le ρ3 := fun i x hx => by
    by_cases h1 : (HK D H j).length ≤ i ∧ i < (HK D H (j + 1)).length
    · have := hi.made j hjm hun i h1.1 h1.2; rw [this] at hx; cases hx
    · simp only [ρ3]; rw [if_neg h1]; exact hx
  have le23 : ρ2.le ρ3 := fun i x hx => by
    have h1 := h2dom i x hx
    by_cases h2 : i < (HK D H j).length
    · rw [hlow i h2, ← h2low i h2]; exact hx
    · rw [hmid i (by omega) h1]; exact hx
  have oldblk : ∀ i x, ρ' i = some x → x.blk < w.heap.size := fun i x hx => ((hi.fam m (Nat.le_refl _)).dom i x (by rw [cutR_lt (hi.top i x hx)]; exact hx)).2
  have hs1 := hi.fam j (by omega)
  have ownO : ∀ {ρx : Ren} {o : AObj} {x : Img} {b : Option Obj}, ownedO o = true → ORel ρx o x b → x.own = true := by
    intro ρx o x b h1 h2
    cases o with
    | row c es own => simp only [ownedO] at h1; exact h2.2.1.trans h1
    | map _ _ => exact h2.1
    | iter _ _ _ => exact h2.1
    | tok _ => cases h1
    | dead => cases h1
  have liveO : ∀ {o : AObj}, ownedO o = true → o.dead? = false := fun {o} h => by cases o <;> simp_all [ownedO, AObj.dead?]
  have rowOwn : ∀ {o : AObj}, ownRow o = true → ownedO o = true := fun {o} h => by cases o <;> simp_all [ownedO, ownRow]
  have hnew : ∀ i' x, (HK D H j).length ≤ i' → ρ2 i' = some x → w.heap.size ≤ x.blk ∨ (o1.dead? = true ∧ ∃ xi, ρ' i = some xi ∧ xi.own = true ∧ x.blk = xi.blk) := by
    intro i' x h1 hx
    have hlt := h2dom i' x hx
    obtain ⟨o', ho'⟩ : ∃ o', (HK (chgD D H i o1) (H.set i o1) (j + 1))[i']? = some o' := ⟨_, List.getElem?_eq_getElem (by rw [hl]; exact hlt)⟩
    have ho2 : (HK D H (j + 1))[i']? = some o' := by rw [← chgD_get D H i o1 (j + 1) (show i' ≠ i by omega)]; exact ho'
    have h0 : H.length ≤ (HK D H j).length := HK_len D H (Nat.zero_le j)
    have hown : ownRow o' = true := by
      simp only [HK] at ho2
      rw [List.getElem?_append_right h1] at ho2
      exact List.all_eq_true.1 hLj o' (List.mem_of_getElem? ho2)
    have hxo := ownO (rowOwn hown) (hs2.obj i' x o' hx ho')
    rcases tr.fresh x.blk ⟨i', x, o', hx, ho', ownRow_live hown, hxo, rfl⟩ with h2 | ⟨k, xk, ok, e1, e2, e3, e4, e5⟩
    · exact .inl h2
    · obtain ⟨f1, f2⟩ := cutR_some e1
      have f3 : ρ2 k = some xk := (h2low k f1).trans f2
      by_cases hk : k = i
      · subst hk
        refine .inr ⟨?_, xk, f2, e4, e5.symm⟩
        cases hd : o1.dead? with
        | true => rfl
        | false =>
          have h3 : (HK (chgD D H k o1) (H.set k o1) (j + 1))[k]? = some o1 := chgD_at D H k o1 (j + 1) (by omega)
          have := hs2.inj k i' xk x o1 o' f3 hx h3 ho' hd (ownRow_live hown) e4 e5
          omega
      · have h3 : (HK (chgD D H i o1) (H.set i o1) (j + 1))[k]? = some ok := by rw [chgD_get D H i o1 (j + 1) hk, HK_get D H (j := j) (by omega) f1]; exact e2
        have := hs2.inj k i' xk x ok o' f3 hx h3 ho' e3 (ownRow_live hown) e4 e5
        omega
  have fam3 : ∀ k, k ≤ m → SRel (cutR ρ3 (HK D H k).length) (HK (chgD D H i o1) (H.set i o1) k) w' := by
    intro k hk
    have old := hi.fam k hk
    refine ⟨fun i' x hx => ?_, fun i' x ob hx hob => ?_, fun i1 i2 x x2 ob ob2 hx hx2 hob hob2 hd hd2 hown hbb => ?_⟩
    · obtain ⟨h1, h2⟩ := cutR_some hx
      refine ⟨by rw [hl]; exact h1, ?_⟩
      by_cases hmidi : (HK D H j).length ≤ i' ∧ i' < (HK D H (j + 1)).length
      · rw [hmid i' hmidi.1 hmidi.2] at h2; exact (hs2.dom i' x h2).2
      · have h3 : ρ' i' = some x := by simp only [ρ3] at h2; rwa [if_neg hmidi] at h2
        have := oldblk i' x h3; have := tr.size; omega
    · obtain ⟨h1, h2⟩ := cutR_some hx
      by_cases ei : i' = i
      · subst ei
        rw [chgD_at D H i' o1 k h1] at hob
        cases hob
        have h3 : ρ' i' = some x := by rw [← hlow i' hil]; exact h2
        have h4 : ρ2 i' = some x := (h2low i' hil).trans h3
        exact flatRow_rel hfl (hs2.obj i' x o1 h4 (chgD_at D H i' o1 (j + 1) (by omega)))
      · rw [chgD_get D H i o1 k ei] at hob
        by_cases c1 : i' < (HK D H j).length
        · have h3 : ρ' i' = some x := by rw [← hlow i' c1]; exact h2
          have h4 : ρ2 i' = some x := (h2low i' c1).trans h3
          have hob1 : (HK (chgD D H i o1) (H.set i o1) (j + 1))[i']? = some ob := by rw [chgD_get D H i o1 (j + 1) ei, HK_get D H (j := k) (by omega) h1]; exact hob
          have hor := hs2.obj i' x ob h4 hob1
          have hkk : ∃ k', k' ≤ j ∧ k' ≤ k ∧ i' < (HK D H k').length := by
            rcases Nat.le_total j k with h | h
            · exact ⟨j, Nat.le_refl _, h, c1⟩
            · exact ⟨k, h, Nat.le_refl _, h1⟩
          obtain ⟨k', hk'j, hk'k, hik'⟩ := hkk
          have old' := hi.fam k' (by omega)
          have hob' : (HK D H k')[i']? = some ob := by rw [HK_get D H (j := k) hik' h1]; exact hob
          have hox := old'.obj i' x ob (by rw [cutR_lt hik']; exact h3) hob'
          have lek2 : (cutR ρ' (HK D H k').length).le ρ2 := fun i'' x' h' => by
            obtain ⟨a1, a2⟩ := cutR_some h'
            have := HK_len D H hk'j
            rw [h2low i'' (by omega)]; exact a2
          have lek3 : (cutR ρ' (HK D H k').length).le (cutR ρ3 (HK D H k).length) := fun i'' x' h' => by
            obtain ⟨a1, a2⟩ := cutR_some h'
            have := HK_len D H hk'k
            rw [cutR_lt (by omega)]; exact le3 i'' x' a2
          exact (ORel.restrict lek2 hox hor).mono lek3
        · by_cases c2 : i' < (HK D H (j + 1)).length
          · have hjk : j + 1 ≤ k := by
              rcases Nat.lt_or_ge j k with h | h
              · exact h
              · have := HK_len D H h; omega
            have h4 : ρ2 i' = some x := by rw [← hmid i' (by omega) c2]; exact h2
            have hob1 : (HK (chgD D H i o1) (H.set i o1) (j + 1))[i']? = some ob := by rw [chgD_get D H i o1 (j + 1) ei, HK_get D H (j := k) c2 h1]; exact hob
            refine (hs2.obj i' x ob h4 hob1).mono fun i'' x' h' => ?_
            have := HK_len D H hjk
            have := h2dom i'' x' h'
            rw [cutR_lt (by omega)]; exact le23 i'' x' h'
          · have h3 : ρ' i' = some x := by rw [← hhigh i' (by omega)]; exact h2
            have hc : cutR ρ' (HK D H k).length i' = some x := by rw [cutR_lt h1]; exact h3
            have hor := old.obj i' x ob hc hob
            have h0 : H.length ≤ (HK D H j).length := HK_len D H (Nat.zero_le j)
            by_cases hdd : ob.dead? = true
            · cases ob with
              | dead => trivial
              | _ => cases hdd
            have hno : ¬ LiveOwn (cutR ρ' (HK D H j).length) (HK D H j) x.blk := by
              rintro ⟨i2, x', o', e1, e2, e3, e4, e5⟩
              obtain ⟨f1, f2⟩ := cutR_some e1
              have hjk : j ≤ k := by
                rcases Nat.le_total j k with h | h
                · exact h
                · have := HK_len D H h; omega
              have hjk' := HK_len D H hjk
              have e2' : (HK D H k)[i2]? = some o' := by rw [← HK_get D H (i := j) f1 (by omega)]; exact e2
              have hdob : ob.dead? = false := by simpa using hdd
              have := old.inj i2 i' x' x o' ob (by rw [cutR_lt (by omega)]; exact f2) hc e2' hob e3 hdob e4 e5
              omega
            rw [tr.keep x.blk (oldblk i' x h3) (fun h => h) hno]
            exact hor.mono fun i'' x' h' => by
              obtain ⟨a1, a2⟩ := cutR_some h'
              rw [cutR_lt a1]; exact le3 i'' x' a2
    · obtain ⟨h1, h2⟩ := cutR_some hx
      obtain ⟨k1, k2⟩ := cutR_some hx2
      have cls : ∀ i x, ρ3 i = some x → ((HK D H j).length ≤ i ∧ i < (HK D H (j + 1)).length ∧ ρ2 i = some x) ∨ (ρ' i = some x ∧ x.blk < w.heap.size) := by
        intro i x h
        by_cases c : (HK D H j).length ≤ i ∧ i < (HK D H (j + 1)).length
        · rw [hmid i c.1 c.2] at h
          exact .inl ⟨c.1, c.2, h⟩
        · simp only [ρ3] at h; rw [if_neg c] at h; exact .inr ⟨h, oldblk i x h⟩
      have was : ∀ {i' : Nat} {ob : AObj}, (HK (chgD D H i o1) (H.set i o1) k)[i']? = some ob → ob.dead? = false → i' < (HK D H k).length → ∃ ob', (HK D H k)[i']? = some ob' ∧ ob'.dead? = false := by
        intro i' ob q1 q2 q3
        by_cases ei : i' = i
        · subst ei
          exact ⟨o0, by rw [HK_get D H (j := j) q3 hil]; exact hio, liveO ho0⟩
        · exact ⟨ob, by rw [← chgD_get D H i o1 k ei]; exact q1, q2⟩
      have mixed : ∀ {i1 i2 : Nat} {x x2 : Img} {ob2 : AObj}, ρ2 i1 = some x → (HK D H j).length ≤ i1 → ρ' i2 = some x2 → x2.blk < w.heap.size → (HK (chgD D H i o1) (H.set i o1) k)[i2]? = some ob2 → ob2.dead? = false → i2 < (HK D H k).length → x.blk = x2.blk → False := by
        intro i1 i2 x x2 ob2 q1 q2 q3 q4 q5 q6 q7 q8
        rcases hnew i1 x q2 q1 with h | ⟨hdead, xi, hxi, hxio, hb⟩
        · omega
        · by_cases e2 : i2 = i
          · subst e2
            rw [chgD_at D H i2 o1 k q7] at q5; cases q5
            rw [hdead] at q6; cases q6
          · have oldm := hi.fam m (Nat.le_refl _)
            have hilm : i < (HK D H m).length := by have := HK_len D H (i := j) (j := m) (by omega); omega
            have hi2m : i2 < (HK D H m).length := hi.top i2 x2 q3
            have r1 : (HK D H m)[i]? = some o0 := by rw [HK_get D H (j := j) hilm hil]; exact hio
            have r2 : (HK D H m)[i2]? = some ob2 := by rw [HK_get D H (j := k) hi2m q7, ← chgD_get D H i o1 k e2]; exact q5
            exact e2 (oldm.inj i i2 xi x2 o0 ob2 (by rw [cutR_lt hilm]; exact hxi) (by rw [cutR_lt hi2m]; exact q3) r1 r2 (liveO ho0) q6 hxio (hb.symm.trans q8)).symm
      rcases cls i1 x h2 with ⟨a1, a2, a3⟩ | ⟨a3, a4⟩
      · rcases cls i2 x2 k2 with ⟨b1, b2, b3⟩ | ⟨b3, b4⟩
        · have e1 : (HK (chgD D H i o1) (H.set i o1) (j + 1))[i1]? = some ob := by rw [chgD_get D H i o1 _ (by omega), HK_get D H (j := k) a2 h1, ← chgD_get D H i o1 k (by omega)]; exact hob
          have e2 : (HK (chgD D H i o1) (H.set i o1) (j + 1))[i2]? = some ob2 := by rw [chgD_get D H i o1 _ (by omega), HK_get D H (j := k) b2 k1, ← chgD_get D H i o1 k (by omega)]; exact hob2
          exact hs2.inj i1 i2 x x2 ob ob2 a3 b3 e1 e2 hd hd2 hown hbb
        · exact (mixed a3 a1 b3 b4 hob2 hd2 k1 hbb).elim
      · rcases cls i2 x2 k2 with ⟨b1, b2, b3⟩ | ⟨b3, b4⟩
        · exact (mixed b3 b1 a3 a4 hob hd h1 hbb.symm).elim
        · obtain ⟨c1, c2, c3⟩ := was hob hd h1
          obtain ⟨d1, d2, d3⟩ := was hob2 hd2 k1
          exact old.inj i1 i2 x x2 c1 d1 (by rw [cutR_lt h1]; exact a3) (by rw [cutR_lt k1]; exact b3) c2 d2 c3 d3 hown hbb
  have hno : ∀ b, b < w0.heap.size → ¬ LV b → ¬ LiveOwn (cutR ρ' (HK D H j).length) (HK D H j) b := by
    rintro b hb hno ⟨i', x, o', e1, e2, e3, e4, e5⟩
    obtain ⟨f1, f2⟩ := cutR_some e1
    by_cases c : i' < H.length
    · have h0 : HK D H 0 = H := rfl
      exact hno (hi.live _ ⟨i', x, o', (hi.base i' c) ▸ f2, by have := HK_get D H (i := 0) (j := j) (k := i') (by rw [h0]; exact c) f1; rw [h0] at this; rw [this]; exact e2, e3, e4, e5⟩)
    · rcases hi.fresh i' x (by omega) f2 with h9 | h9
      · omega
      · exact hno (e5 ▸ h9)
  have hk : ∀ b, b < w0.heap.size → ¬ LV b → w'.heap[b]? = w.heap[b]? := fun b hb hl' => tr.keep b (by have := hi.wsize; omega) (fun h => h) (hno b hb hl')
  have hkS : ∀ b, S b → w'.heap[b]? = w.heap[b]? := fun b hb => hk b (hi.bnd b hb) (hi.disj b hb)
  have hd : dstA ops j = o.dst := by simp [dstA, hj]
  have hloop : ∀ (l : Nat) (ob : Obj), w.heap[l]? = some ob → (∀ c e fr, ob ≠ .cells c e fr) → (∀ es ck, ob ≠ .map es ck) → (∀ a b c d, ob ≠ .mapIter a b c d) → w'.heap[l]? = some ob := fun l ob h1 h2 h3 h4 =>
    (tr.keep l (Array.getElem?_eq_some_iff.1 h1).1 (fun h => h) (not_liveOwn_of_loop hs1 h1 h2 h3 h4)).trans h1
  refine ⟨ρ3, ?_⟩
  exact {
    size := by rw [Array.size_setIfInBounds]; exact hi.size
    closed := fun j' o' hj' hl' e he hb => by
      rw [hset] at hl' ⊢
      by_cases ej : j' = j
      · subst ej
        rw [hj] at hj'; cases hj'
        split
        · rfl
        · exact hdeps e he hb
      · rw [if_neg ej] at hl'
        split
        · rfl
        · exact hi.closed j' o' hj' hl' e he hb
    pre := fun j' hj' => by rw [hset, if_neg (by omega)]; exact hi.pre j' hj'
    fam := fun k hk => by rw [hl]; exact fam3 k hk
    top := fun i' x hx => by
      rw [hl]
      by_cases c : (HK D H j).length ≤ i' ∧ i' < (HK D H (j + 1)).length
      · have := HK_len D H (i := j + 1) (j := m) (by omega); omega
      · simp only [ρ3] at hx; rw [if_neg c] at hx; exact hi.top i' x hx
    base := fun i' hi' => by
      simp only [List.length_set] at hi'
      have h0 : H.length ≤ (HK D H j).length := HK_len D H (Nat.zero_le j)
      rw [hlow i' (by omega)]; exact hi.base i' hi'
    made := fun j' hj' hl' i' h1 h2 => by
      rw [hl] at h1 h2
      rw [hset] at hl'
      by_cases ej : j' = j
      · subst ej; rw [if_pos rfl] at hl'; cases hl'
      · rw [if_neg ej] at hl'
        have := hi.made j' hj' hl' i' h1 h2
        have c : ¬ ((HK D H j).length ≤ i' ∧ i' < (HK D H (j + 1)).length) := by
          rintro ⟨c1, c2⟩
          rcases Nat.lt_or_gt_of_ne ej with h | h
          · have := HK_len D H (i := j' + 1) (j := j) (by omega); omega
          · have := HK_len D H (i := j + 1) (j := j') (by omega); omega
        simp only [ρ3]; rw [if_neg c]; exact this
    vals := fun j' hj' hl' => by
      rw [hset] at hl'
      rw [hl, chgD_v]
      by_cases ej : j' = j
      · subst ej
        exact ⟨v', hv.mono fun i' x hx => by have := h2dom i' x hx; rw [cutR_lt (by omega)]; exact le23 i' x hx⟩
      · rw [if_neg ej] at hl'
        exact (hi.vals j' hj' hl').mono fun i' x hx => by
          obtain ⟨a1, a2⟩ := cutR_some hx
          rw [cutR_lt a1]; exact le3 i' x a2
    trel := by
      rw [chgD_TS, TS_set hp hi.closed hj hi.size hun m, if_pos hjm, hd]
      exact TRel.put (ac := a) (hi.trel.mono le3) o.dst (hv.mono le23)
    j := E.stable g S w w' hi.j hkS tr.size tr.os tr.tape tr.out
    bnd := hi.bnd
    disj := hi.disj
    live := hlv
    os := tr.os.trans hi.os
    tape := tr.tape.trans hi.tape
    out := tr.out.trans hi.out
    wsize := Nat.le_trans hi.wsize tr.size
    keep := fun b hb hl' => (hk b hb hl').trans (hi.keep b hb hl')
    fresh := fun i' x h1 hx => by
      simp only [List.length_set] at h1
      by_cases c : (HK D H j).length ≤ i' ∧ i' < (HK D H (j + 1)).length
      · rw [hmid i' c.1 c.2] at hx
        have := hi.wsize
        rcases hnew i' x c.1 hx with h | ⟨_, xi, hxi, _, hb⟩
        · exact .inl (by omega)
        · rw [hb]
          by_cases c2 : i < H.length
          · exact .inr (hlvi xi ((hi.base i c2) ▸ hxi) c2)
          · exact hi.fresh i xi (by omega) hxi
      · simp only [ρ3] at hx; rw [if_neg c] at hx; exact hi.fresh i' x h1 hx
    ro := fun l hl' => by
      obtain ⟨h1, r, h2⟩ := hi.ro l hl'
      exact ⟨h1, r, hloop l _ h2 (fun _ _ _ e => by cases e) (fun _ _ e => by cases e) (fun _ _ _ _ e => by cases e)⟩
    marks := by
      rw [put_defers]
      exact ⟨hi.marks.eq, hi.marks.nodup, fun D' hD' => ⟨(hi.marks.at_ D' hD').1, hloop D' _ (hi.marks.at_ D' hD').2 (fun _ _ _ e => by cases e) (fun _ _ e => by cases e) (fun _ _ _ _ e => by cases e)⟩⟩
    defers := by rw [put_defers]; exact hi.defers }
end
section
variable {γ : Type} {P : Program} {E : Env γ} {ops : Array Oper} {T : List Value} {m : Nat}
  {g : γ} {S : Nat → Prop} {ρ : Ren} {w0 : World} {ro : Option Nat} {Ds : List Nat} {ds : List Deferred}
theorem PhJ.sound (hb : backB ops = true) (hp : pairsB ops = true) (hsuf : sufB ops m = true) (hmn : m ≤ ops.size) {H0 : AHeap} {Q : Exit → List Value → AHeap → γ → Prop} {QQ : Exit → Act → World → Prop}
    (hdom : ∀ i x, ρ i = some x → i < H0.length) (htd : ∀ t, Def ρ (getT T t)) (hQ : ∀ e a w, Post E Q ρ H0 S w0 Ds e a w → QQ e a w) :
    ∀ (bs ex : List Nat) (D : List (Value × AHeap)) (H : AHeap), H0.length = H.length → (∀ b, LiveOwn ρ H b → LiveOwn ρ H0 b) → (∀ s ∈ ex, s < m) →
      PhJ P ops m T (fun T1 H1 => OpsJ P E ops (Q .normal) (ops.toList.drop m) T1 H1 g) bs ex D H →
      ∀ (fuel : Nat) (listed : Array Bool) (a : Act) (w1 : World) (ρ' : Ren), unl ops listed ≤ fuel → InvA ops D T H m (LiveOwn ρ H0) E g S ρ w0 ro Ds ds listed a w1 ρ' →
        (∀ b ∈ bs, listed.getD b false = false) → (∀ s ∈ ex, listed.getD s false = true) → wpAnyIn (Wr ro) 0 P .any ops QQ fuel listed a w1 := by
  intro bs
  induction bs with
  | nil =>
    intro ex D H hl0 hLV hexm h fuel listed a w1 ρ' hf hia _ hex
    obtain ⟨hdat, hR⟩ := h
    refine head_anyD hb hp hsuf hmn (H0 := H0) hl0 (fun i x hx => by rw [← hl0]; exact hdom i x hx) htd (fun listed => ∀ s ∈ ex, listed.getD s false = true) ?_ (R := Q .normal) (fun _ _ _ h => h) (fun _ _ _ => hR) hQ fuel listed a w1 ρ' hf hia hex
    intro j o listed hjm ho hz hcl hun hdeps hI
    refine .inl ⟨hdat j o hjm ho fun s hs => ?_, fun s hs => ?_⟩
    · refine ⟨fun e => (by rw [← e, hI s hs] at hun; cases hun), ?_⟩
      cases h9 : ancB ops ops.size s j with
      | false => rfl
      | true =>
        obtain ⟨os, hos⟩ : ∃ o, ops[s]? = some o := ⟨_, Array.getElem?_eq_getElem (by have := hexm s hs; omega)⟩
        have := anc_listed hcl ops.size s j os hos (hcl s os hos (hI s hs)) h9
        rw [hun] at this; cases this
    · rw [getD_set (by rw [hz]; exact (Array.getElem?_eq_some_iff.1 ho).1)]
      split
      · rfl
      · exact hI s hs
  | cons b bs ih =>
    intro ex D H hl0 hLV hexm h fuel listed a w1 ρ' hf hia hbs hex
    obtain ⟨hbm, hdat, hchain, i, o0, o1, hio, ho0, hfl, hspec, hnext⟩ := h
    have hdomH : ∀ i x, ρ i = some x → i < H.length := fun i x hx => by rw [← hl0]; exact hdom i x hx
    have hilb : i < (HK D H b).length := (List.getElem?_eq_some_iff.1 hio).1
    have hH0 : HK D H 0 = H := rfl
    have hiH : i < H.length → H[i]? = some o0 ∧ ownedO o0 = true := fun hlt => ⟨by have := HK_get D H (i := 0) (j := b) (k := i) (by rw [hH0]; exact hlt) hilb; rw [hH0] at this; rw [this]; exact hio, ho0⟩
    refine head_anyD hb hp hsuf hmn (H0 := H0) hl0 hdomH htd (fun listed => (∀ b' ∈ b :: bs, listed.getD b' false = false) ∧ ∀ s ∈ ex, listed.getD s false = true) ?_ (R := Q .normal) (fun _ _ _ h => h)
      (fun listed h1 h2 => by have h3 := h1.1 b (by simp); rw [h2 b hbm] at h3; cases h3) hQ fuel listed a w1 ρ' hf hia ⟨hbs, hex⟩
    intro j o listed hjm ho hz hcl hun hdeps hI
    by_cases ejb : j = b
    · refine .inr fun fuel a w1 ρ' hf hia => ?_
      subst ejb
      obtain ⟨hgb, hLb, hopb⟩ := hspec o ho
      have hkl : j < ops.size := (Array.getElem?_eq_some_iff.1 ho).1
      have hop := hia.opRel hp hmn hdomH htd ho hjm hun hdeps
      have hinv : Inv trivE (cutR ρ' (HK D H j).length) (HK D H j) () (fun _ => False) w1 := ⟨hia.fam j (by omega), trivial, fun _ h => h.elim, fun _ h => h.elim⟩
      have hro : RoOk ro (fun _ => False) w1 := fun l hl => ⟨fun h => h, (hia.ro l hl).2⟩
      have hmk1 : Marks a.defers Ds (fun _ => False) w1 := ⟨hia.marks.eq, hia.marks.nodup, fun D' hD' => ⟨fun h => h, (hia.marks.at_ D' hD').2⟩⟩
      unfold wpOpIn
      simp only [ho]
      have hw : Region.wanted o (yielded ops a.tmps) = true := by simp [Region.wanted, hgb]
      simp only [hw, if_true]
      refine Oper.wpIn_mono ?_ ⟨fun _ _ => trivial, hopb _ w1 (fun _ => False) ro Ds a QQ hinv hop hro hmk1⟩
      rintro ac' w' ⟨ρ2, v, v', H', g', S', rfl, hv, hi', tr, hv1, hH1⟩
      subst hv1; subst hH1
      have hHb : HK (chgD D H i o1) (H.set i o1) (j + 1) = (HK D H j).set i o1 ++ lD D j := by
        rw [chgD_HK, HK, List.set_append_left _ _ hilb]
      obtain ⟨ρ3, hi3⟩ := hia.specialD hp hLb ho hjm hun hdeps hio ho0 hfl (fun b hl => hLV b (hl.sub hiH)) (fun x hx hlt => by
          obtain ⟨q1, q2⟩ := hiH hlt
          have hx' : cutR ρ' (HK D H j).length i = some x := by rw [cutR_lt hilb, hia.base i hlt]; exact hx
          have hor := (hia.fam j (by omega)).obj i x o0 hx' hio
          refine hLV _ ⟨i, x, o0, hx, q1, by cases o0 <;> simp_all [ownedO, AObj.dead?], ?_, rfl⟩
          cases o0 with
          | row c es own => simp only [ownedO] at ho0; exact hor.2.1.trans ho0
          | map _ _ => exact hor.1
          | iter _ _ _ => exact hor.1
          | tok _ => cases ho0
          | dead => cases ho0) (by rw [hHb]; exact hi'.srel) (by rw [hHb]; exact tr) hv
      refine ih (j :: ex) (chgD D H i o1) (H.set i o1) (by rw [List.length_set]; exact hl0) (fun b hl => hLV b (hl.sub hiH)) (fun s hs => ?_) hnext fuel _ _ _ ρ3 (unl_set hz hkl hun hf) hi3 (fun b' hb' => ?_) (fun s hs => ?_)
      · rcases List.mem_cons.1 hs with rfl | hs
        · exact hjm
        · exact hexm s hs
      · rw [getD_set (by rw [hz]; exact hkl)]
        have h1 := hI.1 b' (by simp [hb'])
        split
        · rename_i e
          have := hchain b' hb'
          have h2 := anc_lt hb _ _ _ this
          omega
        · exact h1
      · rw [getD_set (by rw [hz]; exact hkl)]
        split
        · rfl
        · rename_i e
          rcases List.mem_cons.1 hs with rfl | hs
          · exact absurd rfl e
          · exact hI.2 s hs
    · have nbeh : ancB ops ops.size j b = false := by
        cases h9 : ancB ops ops.size j b with
        | false => rfl
        | true =>
          have := anc_listed hcl ops.size j b o ho hdeps h9
          rw [hI.1 b (by simp)] at this; cases this
      have nin : j ∉ bs := fun hin => by rw [hchain j hin] at nbeh; cases nbeh
      refine .inl ⟨hdat j o hjm ho ejb nbeh nin fun s hs => ?_, fun b' hb' => ?_, fun s hs => ?_⟩
      · refine ⟨fun e => (by rw [← e, hI.2 s hs] at hun; cases hun), ?_⟩
        cases h9 : ancB ops ops.size s j with
        | false => rfl
        | true =>
          obtain ⟨os, hos⟩ : ∃ o, ops[s]? = some o := ⟨_, Array.getElem?_eq_getElem (by have := hexm s hs; omega)⟩
          have := anc_listed hcl ops.size s j os hos (hcl s os hos (hI.2 s hs)) h9
          rw [hun] at this; cases this
      · rw [getD_set (by rw [hz]; exact (Array.getElem?_eq_some_iff.1 ho).1)]
        split
        · rename_i e
          rcases List.mem_cons.1 hb' with h | h
          · omega
          · exact absurd (e ▸ h) nin
        · exact hI.1 b' hb'
      · rw [getD_set (by rw [hz]; exact (Array.getElem?_eq_some_iff.1 ho).1)]
        split
        · rfl
        · exact hI.2 s hs
end
theorem WPJ.drawP {γ : Type} {P : Program} {E : Env γ} {T : List Value} {H : AHeap} {g : γ} {id : Nat} {ops : Array Oper} {Q : Exit → List Value → AHeap → γ → Prop} (m : Nat) (bs : List Nat) (D : List (Value × AHeap)) (hm : P.follows .mixedOrders = true)
    (hb : backB ops = true) (hp : pairsB ops = true) (hsuf : sufB ops m = true) (hmn : m ≤ ops.size)
    (h : PhJ P ops m T (fun T1 H1 => OpsJ P E ops (Q .normal) (ops.toList.drop m) T1 H1 g) bs [] D H) : WPJ P E (.region id ops true) Q T H g := by
  intro ρ w S ro Ds ac hi ht hr hmk
  refine wpIn_region_any hm ?_
  have hH0 : HK D H 0 = H := rfl
  have hs1 : SRel ρ H w.drew := hi.srel.drew
  have hgetF : ∀ k, (Array.replicate ops.size false).getD k false = false := fun k => by simp [Array.getD]
  have hTS : ∀ i, TS ops D T (Array.replicate ops.size false) i = T := by
    intro i
    induction i with
    | zero => rfl
    | succ i ih => simp only [TS, hgetF]; exact ih
  have hdomH : ∀ i x, ρ i = some x → i < H.length := fun i x hx => (hs1.dom i x hx).1
  have htd : ∀ t, Def ρ (getT T t) := fun t => ⟨_, ht.getD t⟩
  have hQ : ∀ e a w1, Post E Q ρ H S w.drew Ds e a w1 → Post E Q ρ H S w Ds e a w1 := fun e a w1 hp1 => hp1.from ((Step.drew ρ H w).trans' S) (fun _ h => .inl h)
  refine PhJ.sound (g := g) (ρ := ρ) (w0 := w.drew) (ds := ac.defers) (Ds := Ds) hb hp hsuf hmn hdomH htd hQ bs [] D H rfl (fun _ h => h) (fun s (hs : s ∈ ([] : List Nat)) => nomatch hs) h ops.size _ ac w.drew ρ ?_ ?_ (fun b _ => hgetF b) (fun s (hs : s ∈ ([] : List Nat)) => nomatch hs)
  · unfold unl; exact Nat.le_trans (List.length_filter_le _ _) (by simp)
  · exact {
      size := by simp
      closed := fun j o _ hl => by rw [hgetF] at hl; cases hl
      pre := fun j _ => hgetF j
      fam := fun k _ => by
        have hl0 : H.length ≤ (HK D H k).length := HK_len D H (Nat.zero_le k)
        have hg0 : ∀ i, i < H.length → (HK D H k)[i]? = H[i]? := fun i hi => (HK_get D H (i := 0) (j := k) hi (by omega)).symm
        refine ⟨fun i x hx => ?_, fun i x o hx ho => ?_, fun i j x y o o' hx hy ho ho' hd hd' hown hbb => ?_⟩
        · obtain ⟨h1, h2⟩ := cutR_some hx
          exact ⟨h1, (hs1.dom i x h2).2⟩
        · obtain ⟨h1, h2⟩ := cutR_some hx
          have hlt := (hs1.dom i x h2).1
          rw [hg0 i hlt] at ho
          refine (hs1.obj i x o h2 ho).mono fun i' x' h' => ?_
          have := (hs1.dom i' x' h').1
          rw [cutR_lt (by omega)]; exact h'
        · obtain ⟨h1, h2⟩ := cutR_some hx
          obtain ⟨h3, h4⟩ := cutR_some hy
          rw [hg0 i (hs1.dom i x h2).1] at ho
          rw [hg0 j (hs1.dom j y h4).1] at ho'
          exact hs1.inj i j x y o o' h2 h4 ho ho' hd hd' hown hbb
      top := fun i x hx => by have := (hs1.dom i x hx).1; have := HK_len D H (Nat.zero_le m); rw [hH0] at this; omega
      base := fun _ _ => rfl
      made := fun j _ _ i h1 _ => by
        cases hx : ρ i with
        | none => rfl
        | some x => have := (hs1.dom i x hx).1; have := HK_len D H (Nat.zero_le j); rw [hH0] at this; omega
      vals := fun j _ hl => by rw [hgetF] at hl; cases hl
      trel := by rw [hTS]; exact ht
      j := E.stable g S w w.drew hi.j (fun _ _ => rfl) (Nat.le_refl _) rfl rfl rfl
      bnd := hi.bnd
      disj := hi.disj
      live := fun _ h => h
      os := rfl
      tape := rfl
      out := rfl
      wsize := Nat.le_refl _
      keep := fun _ _ _ => rfl
      fresh := fun i x h1 hx => by have := (hs1.dom i x hx).1; omega
      ro := hr
      marks := ⟨hmk.eq, hmk.nodup, hmk.at_⟩
      defers := rfl }
end Go.Abs
