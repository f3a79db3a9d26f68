import Derived.Test.YtehobnpoeodhkaaSb
namespace Go.Abs
open Go
set_option maxHeartbeats 1600000

/-! ### A region whose order Go leaves open, with two operations near its end that come in either order -/
def sufX (ops : Array Oper) (m s : Nat) : Bool := (List.range ops.size).all fun j => decide (j < m) || (List.range j).all fun k => ancB ops ops.size j k || (decide (j = s + 1) && decide (k = s)) || (decide (j = s + 2) && decide (k = s + 1))
theorem sufX_spec {ops : Array Oper} {m s : Nat} (h : sufX ops m s = true) {j k : Nat} (hj : j < ops.size) (hm : m ≤ j) (hk : k < j) (hne : ¬ (j = s + 1 ∧ k = s)) (hne2 : ¬ (j = s + 2 ∧ k = s + 1)) : ancB ops ops.size j k = true := by
  have h1 := List.all_eq_true.1 h j (List.mem_range.2 hj)
  simp only [Bool.or_eq_true, decide_eq_true_eq] at h1
  have h2 := List.all_eq_true.1 (h1.resolve_left (by omega)) k (List.mem_range.2 hk)
  simp only [Bool.or_eq_true, Bool.and_eq_true, decide_eq_true_eq] at h2
  exact (h2.resolve_right hne2).resolve_right hne
/-- two operations that make a value each, in either order; then the rest -/
def PairJ (P : Program) {γ : Type} (E : Env γ) (ops : Array Oper) (s : Nat) (R : List Value → AHeap → γ → Prop) (T : List Value) (H : AHeap) (g : γ) : Prop :=
  ∃ o0 o1 o2 u v x, ops[s]? = some o0 ∧ ops[s + 1]? = some o1 ∧ ops[s + 2]? = some o2 ∧ o0.guard = none ∧ o1.guard = none ∧ o2.guard = none ∧ isDefer o0.op = false ∧ isDefer o1.op = false ∧ isDefer o2.op = false ∧
    Runs P o0 u H T H ∧ Runs P o1 v H (putT T o0.dst u) H ∧ Runs P o1 v H T H ∧ Runs P o0 u H (putT T o1.dst v) H ∧ putT (putT T o1.dst v) o0.dst u = putT (putT T o0.dst u) o1.dst v ∧
    Runs P o2 x H (putT T o0.dst u) H ∧ Runs P o1 v H (putT (putT T o0.dst u) o2.dst x) H ∧ putT (putT (putT T o0.dst u) o2.dst x) o1.dst v = putT (putT (putT T o0.dst u) o1.dst v) o2.dst x ∧
    OpsJ P E ops R (ops.toList.drop (s + 2)) (putT (putT T o0.dst u) o1.dst v) H g ∧ OpsJ P E ops R (ops.toList.drop (s + 3)) (putT (putT (putT T o0.dst u) o1.dst v) o2.dst x) H g

theorem PairJ.at_ {P : Program} {γ : Type} {E : Env γ} {ops : Array Oper} {s : Nat} {R : List Value → AHeap → γ → Prop} {T : List Value} {H : AHeap} {g : γ} (h : PairJ P E ops s R T H g) : OpsJ P E ops (PairJ P E ops s R) [] T H g := h
theorem PairJ.intro {P : Program} {γ : Type} {E : Env γ} {ops : Array Oper} {s : Nat} {R : List Value → AHeap → γ → Prop} {T : List Value} {H : AHeap} {g : γ} {o0 o1 o2 : Oper} {u v x : Value} (q0 : ops[s]? = some o0) (q1 : ops[s + 1]? = some o1) (q2 : ops[s + 2]? = some o2)
    (g0 : o0.guard = none) (g1 : o1.guard = none) (g2 : o2.guard = none) (d0 : isDefer o0.op = false) (d1 : isDefer o1.op = false) (d2 : isDefer o2.op = false)
    (r0 : Runs P o0 u H T H) (r01 : Runs P o1 v H (putT T o0.dst u) H) (r1 : Runs P o1 v H T H) (r10 : Runs P o0 u H (putT T o1.dst v) H) (c1 : putT (putT T o1.dst v) o0.dst u = putT (putT T o0.dst u) o1.dst v)
    (r02 : Runs P o2 x H (putT T o0.dst u) H) (r021 : Runs P o1 v H (putT (putT T o0.dst u) o2.dst x) H) (r012 : Runs P o2 x H (putT (putT T o0.dst u) o1.dst v) H) (c2 : putT (putT (putT T o0.dst u) o2.dst x) o1.dst v = putT (putT (putT T o0.dst u) o1.dst v) o2.dst x)
    (h : OpsJ P E ops R (ops.toList.drop (s + 3)) (putT (putT (putT T o0.dst u) o1.dst v) o2.dst x) H g) : PairJ P E ops s R T H g := by
  refine ⟨o0, o1, o2, u, v, x, q0, q1, q2, g0, g1, g2, d0, d1, d2, r0, r01, r1, r10, c1, r02, r021, c2, ?_, h⟩
  obtain ⟨hl, he⟩ := Array.getElem?_eq_some_iff.1 q2
  have hl' : s + 2 < ops.toList.length := by simpa using hl
  have hd : ops.toList.drop (s + 2) = o2 :: ops.toList.drop (s + 3) := by
    rw [List.drop_eq_getElem_cons hl']
    congr 1
  rw [hd]
  simp only [OpsJ, g2]
  exact OpJ.of_runs r012 (fun c e => by rw [e] at d2; cases d2) h

section
variable {γ : Type} {P : Program} {E : Env γ} {ops : Array Oper} {D : List (Value × AHeap)} {T : List Value} {H : AHeap} {m : Nat} {LV : Nat → Prop}
  {g : γ} {S : Nat → Prop} {ρ : Ren} {w0 : World} {ro : Option Nat} {Ds : List Nat} {ds : List Deferred} {listed : Array Bool} {a : Act} {w : World} {ρ' : Ren}
theorem tail_anyP (hb : backB ops = true) (hsuf : ∀ k j, m ≤ j → j < k → k < ops.size → ancB ops ops.size k j = true) {R : List Value → AHeap → γ → Prop} {Q : Exit → List Value → AHeap → γ → Prop} (hRQ : ∀ T H g, R T H g → Q .normal T H g) :
    ∀ (fuel j : Nat) (listed : Array Bool), unl ops listed ≤ fuel → m ≤ j → listed.size = ops.size → (∀ k, listed.getD k false = true ↔ k < j) →
    ∀ (T1 : List Value) (H1 : AHeap) (g1 : γ), OpsJ P E ops R (ops.toList.drop j) T1 H1 g1 → ∀ (ρ1 : Ren) (w1 : World) (S1 : Nat → Prop) (Ds1 : List Nat) (a1 : Act), Inv E ρ1 H1 g1 S1 w1 → TRel ρ1 T1 a1.tmps → RoOk ro S1 w1 → Marks a1.defers Ds1 S1 w1 →
      ∀ (QQ : Exit → Act → World → Prop), (∀ e a w, Post E Q ρ1 H1 S1 w1 Ds1 e a w → QQ e a w) → wpAnyIn (Wr ro) 0 P .any ops QQ fuel listed a1 w1
  | 0, j, listed, hf, hm, hz, hl, T1, H1, g1, h, ρ1, w1, S1, Ds1, a1, hi, ht, hr, hmk, QQ, hQ => by
    have hj : ops.toList.drop j = [] := by
      apply List.drop_eq_nil_of_le
      simp only [Array.length_toList]
      exact Nat.le_of_not_lt fun h1 => by have := (hl j).1 (unl_zero hf h1); omega
    rw [hj] at h
    refine ⟨?_, hQ _ _ _ ⟨ρ1, T1, H1, g1, S1, Ds1, hi, ht, .refl _ _ _ _, ⟨hmk, fun _ h => .inl h⟩, hRQ _ _ _ h⟩⟩
    apply List.eq_nil_iff_forall_not_mem.2
    intro k hk
    obtain ⟨h1, o, h2, _⟩ := mem_ready.1 hk
    have hkl : k < ops.size := (Array.getElem?_eq_some_iff.1 h2).1
    have h3 := unl_zero hf hkl
    have : k < listed.size := by omega
    simp only [Array.getD, this, dif_pos] at h1 h3
    rw [h3] at h1; cases h1
  | fuel + 1, j, listed, hf, hm, hz, hl, T1, H1, g1, h, ρ1, w1, S1, Ds1, a1, hi, ht, hr, hmk, QQ, hQ => by
    refine ⟨fun h0 => ?_, fun k hk => ?_⟩
    · have hj : ops.toList.drop j = [] := by
        apply List.drop_eq_nil_of_le
        simp only [Array.length_toList]
        exact Nat.le_of_not_lt fun h1 => by have := (hl j).1 (first_ready hb hz h0 j h1); omega
      rw [hj] at h
      exact hQ _ _ _ ⟨ρ1, T1, H1, g1, S1, Ds1, hi, ht, .refl _ _ _ _, ⟨hmk, fun _ h => .inl h⟩, hRQ _ _ _ h⟩
    · obtain ⟨h1, o, h2, h3⟩ := mem_ready.1 hk
      have hkl : k < ops.size := (Array.getElem?_eq_some_iff.1 h2).1
      have hkz : k < listed.size := by omega
      have hun : ¬ k < j := fun hlt => by
        have := (hl k).2 hlt
        simp only [Array.getD, hkz, dif_pos] at h1 this
        rw [this] at h1; cases h1
      have hcl : Closed ops listed := fun j' o' hj' hl' e he hbn => (hl _).2 (by have := backB_spec hb hj' e he hbn; have := (hl j').1 hl'; omega)
      have hkj : k = j := by
        rcases Nat.lt_or_ge j k with h4 | h4
        · have := (hl j).1 (anc_listed hcl ops.size k j o h2 h3 (hsuf k j hm h4 hkl)); omega
        · omega
      subst hkj
      have hunk : listed.getD k false = false := by
        cases hq : listed.getD k false with
        | false => rfl
        | true => exact absurd ((hl k).1 hq) hun
      have hdrop : ops.toList.drop k = o :: ops.toList.drop (k + 1) := by
        have hk' : k < ops.toList.length := by simpa using hkl
        have := List.drop_eq_getElem_cons hk'
        rw [this]
        congr 1
        obtain ⟨_, he⟩ := Array.getElem?_eq_some_iff.1 h2
        simpa using he
      rw [hdrop] at h
      have hl' : ∀ k', (listed.setIfInBounds k true).getD k' false = true ↔ k' < k + 1 := by
        intro k'
        rw [getD_set hkz]
        by_cases e : k' = k
        · subst e; simp
        · rw [if_neg e, hl k']; omega
      have go : ∀ ac' w', (∃ ρ' v v' H' g' S', ac' = a1.put o.dst v' ∧ VRel ρ' v v' ∧ Inv E ρ' H' g' S' w' ∧ Trans ρ1 H1 S1 w1 ρ' H' S' w' ∧ OpsJ P E ops R (ops.toList.drop (k + 1)) (putT T1 o.dst v) H' g') →
          wpAnyIn (Wr ro) 0 P .any ops QQ fuel (listed.setIfInBounds k true) ac' w' := by
        rintro ac' w' ⟨ρ', v, v', H', g', S', rfl, hv, hi', tr, hk'⟩
        exact tail_anyP hb hsuf hRQ fuel (k + 1) _ (unl_set hz hkl hunk hf) (by omega) (by rw [Array.size_setIfInBounds]; exact hz) hl' _ _ _ hk' ρ' w' S' Ds1 _ hi' ((ht.mono (tr.le hi.srel)).put o.dst hv) (hr.trans hi.srel tr)
          (by rw [put_defers]; exact hmk.trans hi.srel tr) QQ fun e a w hp => hQ e a w (hp.from tr (fun _ h => .inl h))
      unfold wpOpIn
      simp only [h2]
      cases hg : o.guard with
      | none =>
        have hw : Region.wanted o (yielded ops a1.tmps) = true := by simp [Region.wanted, hg]
        simp only [OpsJ, hg] at h
        simp only [hw, if_true]
        exact Oper.wpIn_mono go ⟨fun _ _ => trivial, h ρ1 w1 S1 ro Ds1 a1 QQ hi (ht.op _) hr hmk⟩
      | some jb =>
        obtain ⟨jj, b⟩ := jb
        simp only [OpsJ, hg] at h
        obtain ⟨x, hx, k1, k2⟩ := h
        have hy := guardAt_spec ht hx
        by_cases hxb : x = some b
        · have hw : Region.wanted o (yielded ops a1.tmps) = true := by simp [Region.wanted, hg, hy, hxb]
          simp only [hw, if_true]
          exact Oper.wpIn_mono go ⟨fun _ _ => trivial, k1 hxb ρ1 w1 S1 ro Ds1 a1 QQ hi (ht.op _) hr hmk⟩
        · have hw : Region.wanted o (yielded ops a1.tmps) = false := by simp [Region.wanted, hg, hy, hxb]
          simp only [hw, Bool.false_eq_true, if_false]
          exact ⟨fun _ _ => trivial, go _ _ ⟨ρ1, undef, undef, H1, g1, S1, rfl, undef_rel _, hi, .refl _ _ _ _, k2 hxb⟩⟩
/-- one operation that may come now, and has no guard -/
theorem step_now {fuel k : Nat} {listed : Array Bool} {T1 : List Value} {H1 : AHeap} {g1 : γ} {ρ1 : Ren} {w1 : World} {S1 : Nat → Prop} {Ds1 : List Nat} {a1 : Act} {o : Oper} {u : Value} {QQ : Exit → Act → World → Prop} (h2 : ops[k]? = some o) (hg : o.guard = none) (hd : isDefer o.op = false) (hr0 : Runs P o u H1 T1 H1)
    (hi : Inv E ρ1 H1 g1 S1 w1) (ht : TRel ρ1 T1 a1.tmps) (hr : RoOk ro S1 w1) (hmk : Marks a1.defers Ds1 S1 w1)
    (hk : ∀ ρ' w' S' a', Inv E ρ' H1 g1 S' w' → TRel ρ' (putT T1 o.dst u) a'.tmps → RoOk ro S' w' → Marks a'.defers Ds1 S' w' → Trans ρ1 H1 S1 w1 ρ' H1 S' w' → wpAnyIn (Wr ro) 0 P .any ops QQ fuel (listed.setIfInBounds k true) a' w') :
    wpOpIn (Wr ro) 0 P ops QQ k (wpAnyIn (Wr ro) 0 P .any ops QQ fuel (listed.setIfInBounds k true)) a1 w1 := by
  have hj : OpJ P E o (fun v H' g' => v = u ∧ H' = H1 ∧ g' = g1) T1 H1 g1 := OpJ.of_runs hr0 (fun c e => by rw [e] at hd; cases hd) ⟨rfl, rfl, rfl⟩
  have go : ∀ ac' w', (∃ ρ' v v' H' g' S', ac' = a1.put o.dst v' ∧ VRel ρ' v v' ∧ Inv E ρ' H' g' S' w' ∧ Trans ρ1 H1 S1 w1 ρ' H' S' w' ∧ (v = u ∧ H' = H1 ∧ g' = g1)) →
      wpAnyIn (Wr ro) 0 P .any ops QQ fuel (listed.setIfInBounds k true) ac' w' := by
    rintro ac' w' ⟨ρ', v, v', H', g', S', rfl, hv, hi', tr, rfl, rfl, rfl⟩
    exact hk ρ' w' S' _ hi' ((ht.mono (tr.le hi.srel)).put o.dst hv) (hr.trans hi.srel tr) (by rw [put_defers]; exact hmk.trans hi.srel tr) tr
  unfold wpOpIn
  simp only [h2]
  have hw : Region.wanted o (yielded ops a1.tmps) = true := by simp [Region.wanted, hg]
  simp only [hw, if_true]
  exact Oper.wpIn_mono go ⟨fun _ _ => trivial, hj ρ1 w1 S1 ro Ds1 a1 QQ hi (ht.op _) hr hmk⟩
theorem ready_of {listed : Array Bool} {k : Nat} (hz : listed.size = ops.size) (hk : k ∈ Region.ready .any ops listed) : k < ops.size ∧ listed.getD k false = false ∧ ∃ o, ops[k]? = some o ∧ ∀ e ∈ o.after, Region.binds .any e = true → listed.getD e.on false = true := by
  obtain ⟨h1, o, h2, h3⟩ := mem_ready.1 hk
  have hkl : k < ops.size := (Array.getElem?_eq_some_iff.1 h2).1
  have hkz : k < listed.size := by omega
  refine ⟨hkl, ?_, o, h2, h3⟩
  simp only [Array.getD, hkz, dif_pos] at h1 ⊢; exact h1
theorem tail_anyX {s : Nat} (hms : m ≤ s) (hs2 : s + 2 < ops.size) (hb : backB ops = true) (hsuf : sufX ops m s = true) {R : List Value → AHeap → γ → Prop} {Q : Exit → List Value → AHeap → γ → Prop} (hRQ : ∀ T H g, R T H g → Q .normal T H g) :
    ∀ (fuel j : Nat) (listed : Array Bool), unl ops listed ≤ fuel → m ≤ j → j ≤ s → listed.size = ops.size → (∀ k, listed.getD k false = true ↔ k < j) →
    ∀ (T1 : List Value) (H1 : AHeap) (g1 : γ), OpsJ P E ops (PairJ P E ops s R) ((ops.toList.drop j).take (s - j)) T1 H1 g1 → ∀ (ρ1 : Ren) (w1 : World) (S1 : Nat → Prop) (Ds1 : List Nat) (a1 : Act), Inv E ρ1 H1 g1 S1 w1 → TRel ρ1 T1 a1.tmps → RoOk ro S1 w1 → Marks a1.defers Ds1 S1 w1 →
      ∀ (QQ : Exit → Act → World → Prop), (∀ e a w, Post E Q ρ1 H1 S1 w1 Ds1 e a w → QQ e a w) → wpAnyIn (Wr ro) 0 P .any ops QQ fuel listed a1 w1
  | 0, j, listed, hf, hm, hjs, hz, hl, T1, H1, g1, h, ρ1, w1, S1, Ds1, a1, hi, ht, hr, hmk, QQ, hQ => by
    have := (hl s).1 (unl_zero hf (by omega))
    omega
  | fuel + 1, j, listed, hf, hm, hjs, hz, hl, T1, H1, g1, h, ρ1, w1, S1, Ds1, a1, hi, ht, hr, hmk, QQ, hQ => by
    refine ⟨fun h0 => ?_, fun k hk => ?_⟩
    · have := (hl s).1 (first_ready hb hz h0 s (by omega))
      omega
    · obtain ⟨hkl, hunk, o, h2, h3⟩ := ready_of hz hk
      have hkz : k < listed.size := by omega
      have hun : ¬ k < j := fun hlt => by rw [(hl k).2 hlt] at hunk; cases hunk
      have hcl : Closed ops listed := fun j' o' hj' hl' e he hbn => (hl _).2 (by have := backB_spec hb hj' e he hbn; have := (hl j').1 hl'; omega)
      have hset : ∀ k', (listed.setIfInBounds k true).getD k' false = if k' = k then true else listed.getD k' false := fun k' => getD_set hkz k'
      have hf2 := unl_set hz hkl hunk hf
      have hz2 : (listed.setIfInBounds k true).size = ops.size := by rw [Array.size_setIfInBounds]; exact hz
      rcases Nat.lt_or_ge j s with hjlt | hjge
      · have hkj : k = j := by
          rcases Nat.lt_or_ge j k with h4 | h4
          · have := (hl j).1 (anc_listed hcl ops.size k j o h2 h3 (sufX_spec hsuf hkl (by omega) h4 (by omega) (by omega))); omega
          · omega
        subst hkj
        have hdrop : (ops.toList.drop k).take (s - k) = o :: (ops.toList.drop (k + 1)).take (s - (k + 1)) := by
          have hk' : k < ops.toList.length := by simpa using hkl
          rw [List.drop_eq_getElem_cons hk', show s - k = (s - (k + 1)) + 1 by omega, List.take_succ_cons]
          congr 1
          obtain ⟨_, he⟩ := Array.getElem?_eq_some_iff.1 h2
          simpa using he
        rw [hdrop] at h
        have hl' : ∀ k', (listed.setIfInBounds k true).getD k' false = true ↔ k' < k + 1 := by
          intro k'
          rw [hset]
          by_cases e : k' = k
          · subst e; simp
          · rw [if_neg e, hl k']; omega
        have go : ∀ ac' w', (∃ ρ' v v' H' g' S', ac' = a1.put o.dst v' ∧ VRel ρ' v v' ∧ Inv E ρ' H' g' S' w' ∧ Trans ρ1 H1 S1 w1 ρ' H' S' w' ∧ OpsJ P E ops (PairJ P E ops s R) ((ops.toList.drop (k + 1)).take (s - (k + 1))) (putT T1 o.dst v) H' g') →
            wpAnyIn (Wr ro) 0 P .any ops QQ fuel (listed.setIfInBounds k true) ac' w' := by
          rintro ac' w' ⟨ρ', v, v', H', g', S', rfl, hv, hi', tr, hk'⟩
          exact tail_anyX hms hs2 hb hsuf hRQ fuel (k + 1) _ hf2 (by omega) (by omega) hz2 hl' _ _ _ hk' ρ' w' S' Ds1 _ hi' ((ht.mono (tr.le hi.srel)).put o.dst hv) (hr.trans hi.srel tr)
            (by rw [put_defers]; exact hmk.trans hi.srel tr) QQ fun e a w hp => hQ e a w (hp.from tr (fun _ h => .inl h))
        unfold wpOpIn
        simp only [h2]
        cases hg : o.guard with
        | none =>
          have hw : Region.wanted o (yielded ops a1.tmps) = true := by simp [Region.wanted, hg]
          simp only [OpsJ, hg] at h
          simp only [hw, if_true]
          exact Oper.wpIn_mono go ⟨fun _ _ => trivial, h ρ1 w1 S1 ro Ds1 a1 QQ hi (ht.op _) hr hmk⟩
        | some jb =>
          obtain ⟨jj, b⟩ := jb
          simp only [OpsJ, hg] at h
          obtain ⟨x, hx, k1, k2⟩ := h
          have hy := guardAt_spec ht hx
          by_cases hxb : x = some b
          · have hw : Region.wanted o (yielded ops a1.tmps) = true := by simp [Region.wanted, hg, hy, hxb]
            simp only [hw, if_true]
            exact Oper.wpIn_mono go ⟨fun _ _ => trivial, k1 hxb ρ1 w1 S1 ro Ds1 a1 QQ hi (ht.op _) hr hmk⟩
          · have hw : Region.wanted o (yielded ops a1.tmps) = false := by simp [Region.wanted, hg, hy, hxb]
            simp only [hw, Bool.false_eq_true, if_false]
            exact ⟨fun _ _ => trivial, go _ _ ⟨ρ1, undef, undef, H1, g1, S1, rfl, undef_rel _, hi, .refl _ _ _ _, k2 hxb⟩⟩
      · obtain rfl : j = s := by omega
        rw [Nat.sub_self, List.take_zero] at h
        obtain ⟨o0, o1, o2, u, v, x, q0, q1, q2, gd0, gd1, gd2, df0, df1, df2, r0, r01, r1, r10, hcomm, r02, r021, hcomm2, hrest, hrest3⟩ := h
        have rest : ∀ (fuel : Nat) (listed : Array Bool), unl ops listed ≤ fuel → listed.size = ops.size → (∀ k, listed.getD k false = true ↔ k < j + 2) → ∀ ρ' w' S' a', Inv E ρ' H1 g1 S' w' → TRel ρ' (putT (putT T1 o0.dst u) o1.dst v) a'.tmps → RoOk ro S' w' → Marks a'.defers Ds1 S' w' → Trans ρ1 H1 S1 w1 ρ' H1 S' w' → wpAnyIn (Wr ro) 0 P .any ops QQ fuel listed a' w' :=
          fun fuel listed hf hz hl ρ' w' S' a' hi' ht' hr' hmk' tr => tail_anyP (m := j + 2) hb (fun k j' h1 h2 h3 => sufX_spec hsuf h3 (by omega) h2 (by omega) (by omega)) hRQ fuel (j + 2) listed hf (Nat.le_refl _) hz hl _ _ _ hrest ρ' w' S' Ds1 a' hi' ht' hr' hmk' QQ fun e a w hp => hQ e a w (hp.from tr (fun _ h => .inl h))
        have rest3 : ∀ (fuel : Nat) (listed : Array Bool), unl ops listed ≤ fuel → listed.size = ops.size → (∀ k, listed.getD k false = true ↔ k < j + 3) → ∀ ρ' w' S' a', Inv E ρ' H1 g1 S' w' → TRel ρ' (putT (putT (putT T1 o0.dst u) o1.dst v) o2.dst x) a'.tmps → RoOk ro S' w' → Marks a'.defers Ds1 S' w' → Trans ρ1 H1 S1 w1 ρ' H1 S' w' → wpAnyIn (Wr ro) 0 P .any ops QQ fuel listed a' w' :=
          fun fuel listed hf hz hl ρ' w' S' a' hi' ht' hr' hmk' tr => tail_anyP (m := j + 3) hb (fun k j' h1 h2 h3 => sufX_spec hsuf h3 (by omega) h2 (by omega) (by omega)) hRQ fuel (j + 3) listed hf (Nat.le_refl _) hz hl _ _ _ hrest3 ρ' w' S' Ds1 a' hi' ht' hr' hmk' QQ fun e a w hp => hQ e a w (hp.from tr (fun _ h => .inl h))
        have hk2 : k = j ∨ k = j + 1 := by
          rcases Nat.lt_or_ge (j + 1) k with h4 | h4
          · have := (hl j).1 (anc_listed hcl ops.size k j o h2 h3 (sufX_spec hsuf hkl (by omega) (by omega) (by omega) (by omega))); omega
          · omega
        rcases hk2 with rfl | rfl
        · obtain rfl : o0 = o := by rw [q0] at h2; exact Option.some.inj h2
          refine step_now h2 gd0 df0 r0 hi ht hr hmk fun ρ2 w2 S2 a2 hi2 ht2 hr2 hmk2 tr2 => ?_
          have hl2 : ∀ k', (listed.setIfInBounds k true).getD k' false = true ↔ k' < k + 1 := fun k' => by
            rw [hset]
            by_cases e : k' = k
            · subst e; simp
            · rw [if_neg e, hl k']; omega
          generalize listed.setIfInBounds k true = L2 at *
          cases fuel with
          | zero => have := (hl2 (k + 1)).1 (unl_zero hf2 (by omega)); omega
          | succ fuel =>
            refine ⟨fun h0 => ?_, fun k2 hk2 => ?_⟩
            · have := (hl2 (k + 1)).1 (first_ready hb hz2 h0 (k + 1) (by omega)); omega
            · obtain ⟨hkl2, hunk2, o9, h22, h32⟩ := ready_of hz2 hk2
              have hcl2 : Closed ops L2 := fun j' o' hj' hl' e he hbn => (hl2 _).2 (by have := backB_spec hb hj' e he hbn; have := (hl2 j').1 hl'; omega)
              have hun2 : ¬ k2 < k + 1 := fun hlt => by rw [(hl2 k2).2 hlt] at hunk2; cases hunk2
              have hk3 : k2 = k + 1 ∨ k2 = k + 2 := by
                rcases Nat.lt_or_ge (k + 2) k2 with h4 | h4
                · have := (hl2 (k + 1)).1 (anc_listed hcl2 ops.size k2 (k + 1) o9 h22 h32 (sufX_spec hsuf hkl2 (by omega) (by omega) (by omega) (by omega))); omega
                · omega
              rcases hk3 with rfl | rfl
              · refine step_now q1 gd1 df1 r01 hi2 ht2 hr2 hmk2 fun ρ3 w3 S3 a3 hi3 ht3 hr3 hmk3 tr3 => ?_
                refine rest fuel _ (unl_set hz2 hkl2 hunk2 hf2) (by rw [Array.size_setIfInBounds]; exact hz2) (fun k' => ?_) ρ3 w3 S3 a3 hi3 ht3 hr3 hmk3 (tr2.trans tr3)
                rw [getD_set (by omega)]
                by_cases e : k' = k + 1
                · subst e; simp
                · rw [if_neg e, hl2 k']; omega
              · refine step_now q2 gd2 df2 r02 hi2 ht2 hr2 hmk2 fun ρ3 w3 S3 a3 hi3 ht3 hr3 hmk3 tr3 => ?_
                have hl3 : ∀ k', (L2.setIfInBounds (k + 2) true).getD k' false = true ↔ k' < k + 1 ∨ k' = k + 2 := fun k' => by
                  rw [getD_set (by omega)]
                  by_cases e : k' = k + 2
                  · subst e; simp
                  · rw [if_neg e, hl2 k']; omega
                have hf3 := unl_set hz2 hkl2 hunk2 hf2
                have hz3 : (L2.setIfInBounds (k + 2) true).size = ops.size := by rw [Array.size_setIfInBounds]; exact hz2
                generalize L2.setIfInBounds (k + 2) true = L3 at *
                cases fuel with
                | zero => have := (hl3 (k + 1)).1 (unl_zero hf3 (by omega)); omega
                | succ fuel =>
                  refine ⟨fun h0 => ?_, fun k3 hk3 => ?_⟩
                  · have := (hl3 (k + 1)).1 (first_ready hb hz3 h0 (k + 1) (by omega)); omega
                  · obtain ⟨hkl3, hunk3, o8, h23, h33⟩ := ready_of hz3 hk3
                    have hcl3 : Closed ops L3 := fun j' o' hj' hl' e he hbn => by
                      rcases (hl3 j').1 hl' with h5 | h5
                      · exact (hl3 _).2 (.inl (by have := backB_spec hb hj' e he hbn; omega))
                      · subst h5
                        have h6 : o' = o9 := by rw [h22] at hj'; exact (Option.some.inj hj').symm
                        subst h6
                        exact (hl3 _).2 (.inl ((hl2 _).1 (h32 e he hbn)))
                    have hun3 : ¬ (k3 < k + 1 ∨ k3 = k + 2) := fun hlt => by rw [(hl3 k3).2 hlt] at hunk3; cases hunk3
                    obtain rfl : k3 = k + 1 := by
                      rcases Nat.lt_or_ge (k + 2) k3 with h4 | h4
                      · have := (hl3 (k + 1)).1 (anc_listed hcl3 ops.size k3 (k + 1) o8 h23 h33 (sufX_spec hsuf hkl3 (by omega) (by omega) (by omega) (by omega))); omega
                      · omega
                    refine step_now q1 gd1 df1 r021 hi3 ht3 hr3 hmk3 fun ρ4 w4 S4 a4 hi4 ht4 hr4 hmk4 tr4 => ?_
                    rw [hcomm2] at ht4
                    refine rest3 fuel _ (unl_set hz3 hkl3 hunk3 hf3) (by rw [Array.size_setIfInBounds]; exact hz3) (fun k' => ?_) ρ4 w4 S4 a4 hi4 ht4 hr4 hmk4 ((tr2.trans tr3).trans tr4)
                    rw [getD_set (by omega)]
                    by_cases e : k' = k + 1
                    · subst e; simp
                    · rw [if_neg e, hl3 k']; omega
        · obtain rfl : o1 = o := by rw [q1] at h2; exact Option.some.inj h2
          refine step_now h2 gd1 df1 r1 hi ht hr hmk fun ρ2 w2 S2 a2 hi2 ht2 hr2 hmk2 tr2 => ?_
          have hl2 : ∀ k', (listed.setIfInBounds (j + 1) true).getD k' false = true ↔ k' < j ∨ k' = j + 1 := fun k' => by
            rw [hset]
            by_cases e : k' = j + 1
            · subst e; simp
            · rw [if_neg e, hl k']; omega
          generalize listed.setIfInBounds (j + 1) true = L2 at *
          cases fuel with
          | zero => have := (hl2 j).1 (unl_zero hf2 (by omega)); omega
          | succ fuel =>
            refine ⟨fun h0 => ?_, fun k2 hk2 => ?_⟩
            · have := (hl2 j).1 (first_ready hb hz2 h0 j (by omega)); omega
            · obtain ⟨hkl2, hunk2, o2, h22, h32⟩ := ready_of hz2 hk2
              have hcl2 : Closed ops L2 := fun j' o' hj' hl' e he hbn => by
                rcases (hl2 j').1 hl' with h5 | h5
                · exact (hl2 _).2 (.inl (by have := backB_spec hb hj' e he hbn; omega))
                · subst h5
                  have h6 : o' = o1 := by rw [h2] at hj'; exact (Option.some.inj hj').symm
                  subst h6
                  exact (hl2 _).2 (.inl ((hl _).1 (h3 e he hbn)))
              have hun2 : ¬ (k2 < j ∨ k2 = j + 1) := fun hlt => by rw [(hl2 k2).2 hlt] at hunk2; cases hunk2
              obtain rfl : k2 = j := by
                rcases Nat.lt_or_ge (j + 1) k2 with h4 | h4
                · have := (hl2 j).1 (anc_listed hcl2 ops.size k2 j o2 h22 h32 (sufX_spec hsuf hkl2 (by omega) (by omega) (by omega) (by omega))); omega
                · omega
              refine step_now q0 gd0 df0 r10 hi2 ht2 hr2 hmk2 fun ρ3 w3 S3 a3 hi3 ht3 hr3 hmk3 tr3 => ?_
              rw [hcomm] at ht3
              refine rest fuel _ (unl_set hz2 hkl2 hunk2 hf2) (by rw [Array.size_setIfInBounds]; exact hz2) (fun k' => ?_) ρ3 w3 S3 a3 hi3 ht3 hr3 hmk3 (tr2.trans tr3)
              rw [getD_set (by omega)]
              by_cases e : k' = k2
              · subst e; simp
              · rw [if_neg e, hl2 k']; omega

theorem head_anyX {s : Nat} (hms : m ≤ s) (hs2 : s + 2 < ops.size) (hb : backB ops = true) (hp : pairsB ops = true) (hsuf : sufX ops m s = true) (hmn : m ≤ ops.size) (hrows : ∀ k, k < m → (lD D k).all ownRow = true) {H0 : AHeap} (hl0 : H0.length = H.length) (hdom : ∀ i x, ρ i = some x → i < H.length) (htd : ∀ t, Def ρ (getT T t))
    {QQ : Exit → Act → World → Prop} (I : Array Bool → Prop) (hdat : ∀ (j : Nat) (o : Oper) (listed : Array Bool), j < m → ops[j]? = some o → listed.size = ops.size → Closed ops listed → listed.getD j false = false → (∀ e ∈ o.after, Region.binds .any e = true → listed.getD e.on false = true) → I listed →
      (StepM P ops o (vD D j) (lD D j) (TK ops D T j) (HK D H j) ∧ I (listed.setIfInBounds j true)) ∨
      (∀ (fuel : Nat) (a : Act) (w : World) (ρ' : Ren), unl ops listed ≤ fuel + 1 → InvA ops D T H m (LiveOwn ρ H0) E g S ρ w0 ro Ds ds listed a w ρ' → wpOpIn (Wr ro) 0 P ops QQ j (wpAnyIn (Wr ro) 0 P .any ops QQ fuel (listed.setIfInBounds j true)) a w)) {R : List Value → AHeap → γ → Prop} {Q : Exit → List Value → AHeap → γ → Prop} (hRQ : ∀ T H g, R T H g → Q .normal T H g)
    (hR : ∀ listed : Array Bool, I listed → (∀ j, j < m → listed.getD j false = true) → OpsJ P E ops (PairJ P E ops s R) ((ops.toList.drop m).take (s - m)) (TK ops D T m) (HK D H m) g) (hQ : ∀ e a w, Post E Q ρ H0 S w0 Ds e a w → QQ e a w) :
    ∀ (fuel : Nat) (listed : Array Bool) (a : Act) (w : World) (ρ' : Ren), unl ops listed ≤ fuel →
      InvA ops D T H m (LiveOwn ρ H0) E g S ρ w0 ro Ds ds listed a w ρ' → I listed → wpAnyIn (Wr ro) 0 P .any ops QQ fuel listed a w := by
  have over : ∀ (fuel : Nat) (listed : Array Bool) (a : Act) (w : World) (ρ' : Ren), unl ops listed ≤ fuel → InvA ops D T H m (LiveOwn ρ H0) E g S ρ w0 ro Ds ds listed a w ρ' → I listed → (∀ j, j < m → listed.getD j false = true) → wpAnyIn (Wr ro) 0 P .any ops QQ fuel listed a w := by
    intro fuel listed a w ρ' hf hi hIl hall
    obtain ⟨h1, h2, h3⟩ := hi.over hl0 hall
    refine tail_anyX hms hs2 hb hsuf hRQ fuel m listed hf (Nat.le_refl _) hms hi.size (fun k => ⟨fun h => ?_, hall k⟩) _ _ _ (hR listed hIl hall) ρ' w S Ds a h1 h2 hi.ro hi.marks QQ fun e a w hp => hQ _ _ _ (hp.from h3 fun _ h => .inl h)
    rcases Nat.lt_or_ge k m with hk | hk
    · exact hk
    · rw [hi.pre k hk] at h; cases h
  intro fuel
  induction fuel with
  | zero =>
    intro listed a w ρ' hf hi hIl
    exact over 0 listed a w ρ' hf hi hIl fun j hj => unl_zero hf (by omega)
  | succ fuel ih =>
    intro listed a w ρ' hf hi hIl
    by_cases hall : ∀ j, j < m → listed.getD j false = true
    · exact over (fuel + 1) listed a w ρ' hf hi hIl hall
    · obtain ⟨j0, hj0, hun0⟩ : ∃ j0, j0 < m ∧ listed.getD j0 false = false := by
        apply Classical.byContradiction
        intro hno
        refine hall fun j hj => ?_
        cases hq : listed.getD j false with
        | true => rfl
        | false => exact absurd ⟨j, hj, hq⟩ hno
      refine ⟨fun h0 => ?_, fun k hk => ?_⟩
      · have := first_ready hb hi.size h0 j0 (by omega)
        rw [hun0] at this; cases this
      · obtain ⟨h1, o, h2, h3⟩ := mem_ready.1 hk
        have hkl : k < ops.size := (Array.getElem?_eq_some_iff.1 h2).1
        have hkz : k < listed.size := by rw [hi.size]; exact hkl
        have hunk : listed.getD k false = false := by
          simp only [Array.getD, hkz, dif_pos] at h1 ⊢; exact h1
        have hkm : k < m := by
          rcases Nat.lt_or_ge k m with h4 | h4
          · exact h4
          · have := anc_listed hi.closed ops.size k j0 o h2 h3 (sufX_spec hsuf hkl h4 (by omega) (by omega) (by omega))
            rw [hun0] at this; cases this
        rcases hdat k o listed hkm h2 hi.size hi.closed hunk h3 hIl with ⟨hst, hIs⟩ | hsp
        rotate_left
        · exact hsp fuel a w ρ' hf hi
        have hlook := fun t ht => look_same (D := D) (T := T) hp hi.closed h2 hkm hmn hunk h3 (t := t) ht
        have lek : (cutR ρ' (HK D H k).length).le ρ' := cutR_le _ _
        -- the operands' names are known
        have hdef : ∀ t, t ∈ o.looksAt ops → Def (cutR ρ' (HK D H k).length) (getT (TK ops D T k) t) := by
          intro t ht
          have hw := (hlook t ht).1
          have : ∀ i, i ≤ k → Def (cutR ρ' (HK D H k).length) (getT (TK ops D T i) t) := by
            intro i
            induction i with
            | zero =>
              intro _
              refine (htd t).mono fun i x hx => ?_
              have hlt := hdom i x hx
              have := HK_len D H (Nat.zero_le k)
              have h0 : HK D H 0 = H := rfl
              rw [h0] at this
              rw [cutR_lt (by omega), hi.base i hlt]; exact hx
            | succ i ih2 =>
              intro hik
              simp only [TK]
              by_cases hd : dstA ops i = some t
              · have hdv := hi.vals i (by omega) (hw i (by omega) hd)
                have hdv' : Def (cutR ρ' (HK D H k).length) (vD D i) := hdv.mono (cutR_mono ρ' (HK_len D H hik))
                rw [hd]
                rw [getT_get?]
                simp only [putT]
                rw [List.getElem?_set_self']
                cases (TK ops D T i)[t]? with
                | none => exact ⟨undef, undef_rel _⟩
                | some _ => exact hdv'
              · rw [getT_put hd]; exact ih2 (by omega)
          exact this k (Nat.le_refl _)
        have hop : OpRel (cutR ρ' (HK D H k).length) (TK ops D T k) a o.op := ⟨fun x hx => by
          cases x with
          | tmp t =>
            have ht : t ∈ o.looksAt ops := List.mem_append_left _ (List.mem_filterMap.2 ⟨.tmp t, hx, rfl⟩)
            have h5 := hi.trel.getD t
            rw [(hlook t ht).2] at h5
            obtain ⟨v1, hv1⟩ := hdef t ht
            exact hv1.restrict lek h5
          | const v => exact constT_rel _ v
          | global i => exact .wild _
          | func f => exact .func rfl (fun _ h => absurd h (Nat.not_lt_zero _)) rfl (fun _ h => absurd h (Nat.not_lt_zero _))⟩
        have hinv : Inv trivE (cutR ρ' (HK D H k).length) (HK D H k) () (fun _ => False) w := ⟨hi.fam k (by omega), trivial, fun _ h => h.elim, fun _ h => h.elim⟩
        have hro : RoOk ro (fun _ => False) w := fun l hl => ⟨fun h => h, (hi.ro l hl).2⟩
        have hmk : Marks a.defers Ds (fun _ => False) w := ⟨hi.marks.eq, hi.marks.nodup, fun D' hD' => ⟨fun h => h, (hi.marks.at_ D' hD').2⟩⟩
        have runOp : Mono P o (vD D k) (lD D k) (TK ops D T k) (HK D H k) → o.wpIn (Wr ro) 0 P a w (wpAnyIn (Wr ro) 0 P .any ops QQ fuel (listed.setIfInBounds k true)) QQ := by
          rintro ⟨hL, hmono⟩
          refine Oper.wpIn_mono ?_ ⟨fun _ _ => trivial, hmono _ w (fun _ => False) ro Ds a QQ hinv hop hro hmk⟩
          rintro ac' w' ⟨ρ2, v, v', H', g', S', rfl, hv, hi', tr, hv1, hH1⟩
          subst hv1; subst hH1
          obtain ⟨ρ3, hi3⟩ := hi.step hp hrows h2 hkm hunk h3 (Left.of hL (hi.fam k (by omega)) hi'.srel tr) hv
          exact ih _ _ _ ρ3 (unl_set hi.size hkl hunk hf) hi3 hIs
        have skipOp : vD D k = undef → lD D k = [] → wpAnyIn (Wr ro) 0 P .any ops QQ fuel (listed.setIfInBounds k true) (a.put o.dst undef) w := by
          intro hv hL
          have hleft : Left (cutR ρ' (HK D H k).length) (HK D H k) w (lD D k) (cutR ρ' (HK D H k).length) w :=
            ⟨by rw [hL, List.append_nil]; exact hi.fam k (by omega), fun _ _ => rfl, rfl, rfl, rfl, Nat.le_refl _, fun _ _ _ => rfl, fun i x h1 hx => by have := (cutR_some hx).1; omega⟩
          obtain ⟨ρ3, hi3⟩ := hi.step hp hrows h2 hkm hunk h3 hleft (v' := undef) (by rw [hv]; exact undef_rel _)
          exact ih _ _ _ ρ3 (unl_set hi.size hkl hunk hf) hi3 hIs
        unfold wpOpIn
        simp only [h2]
        cases hg : o.guard with
        | none =>
          have hw : Region.wanted o (yielded ops a.tmps) = true := by simp [Region.wanted, hg]
          simp only [StepM, hg] at hst
          simp only [hw, if_true]
          exact runOp hst
        | some jb =>
          obtain ⟨jj, b⟩ := jb
          simp only [StepM, hg] at hst
          obtain ⟨x, hx, k1, k2⟩ := hst
          -- the guard reads as it does in the text's order
          have hy : yielded ops a.tmps jj = x := by
            unfold guardAt at hx
            unfold yielded
            cases hd : (ops[jj]?).bind (·.dst) with
            | none => rw [hd] at hx; simp at hx
            | some d =>
              rw [hd] at hx
              simp only [Option.bind_some] at hx ⊢
              have ht : d ∈ o.looksAt ops := List.mem_append_right _ (by simp [hg, hd])
              have h5 := hi.trel.getD d
              rw [(hlook d ht).2] at h5
              cases hT : (TK ops D T k)[d]? with
              | none => rw [hT] at hx; simp at hx
              | some v =>
                rw [hT] at hx
                obtain ⟨hlt, he⟩ := List.getElem?_eq_some_iff.1 hT
                have hlenT : ∀ i, (TK ops D T i).length = T.length := by
                  intro i
                  induction i with
                  | zero => rfl
                  | succ i ih2 => simp only [TK]; cases dstA ops i <;> simp [putT, ih2]
                have hlenS : ∀ i, (TS ops D T listed i).length = T.length := by
                  intro i
                  induction i with
                  | zero => rfl
                  | succ i ih2 =>
                    simp only [TS]
                    split
                    · cases dstA ops i <;> simp [putT, ih2]
                    · exact ih2
                have hlt2 : d < a.tmps.size := by
                  have h6 : (TS ops D T listed m).length = a.tmps.size := by simpa using hi.trel.1
                  have h7 := hlenS m
                  have h8 := hlenT k
                  have h9 : d < T.length := h8 ▸ hlt
                  exact (h6 ▸ h7) ▸ h9
                rw [getT_get?, hT] at h5
                simp only [Array.getD, hlt2, dif_pos, Option.getD_some] at h5
                rw [Array.getElem?_eq_getElem hlt2]
                split at hx
                · rename_i b' hb'
                  simp only [Option.some.injEq] at hb' hx
                  rw [hb'] at h5
                  have : a.tmps[d] = .bool b' := rel_bool h5
                  rw [this]; exact hx
                · rename_i hb'
                  simp only [Option.some.injEq] at hb' hx
                  rw [hb'] at h5
                  obtain ⟨a', ha', _⟩ := rel_tuple h5
                  have : a.tmps[d] = .tuple a' := ha'
                  rw [this]; exact hx
                · cases hx
          by_cases hxb : x = some b
          · have hw : Region.wanted o (yielded ops a.tmps) = true := by simp [Region.wanted, hg, hy, hxb]
            simp only [hw, if_true]
            exact runOp (k1 hxb)
          · have hw : Region.wanted o (yielded ops a.tmps) = false := by simp [Region.wanted, hg, hy, hxb]
            simp only [hw, Bool.false_eq_true, if_false]
            exact ⟨fun _ _ => trivial, skipOp (k2 hxb).1 (k2 hxb).2⟩
end
theorem WPJ.drawX {γ : Type} {P : Program} {E : Env γ} {T : List Value} {H : AHeap} {g : γ} {id : Nat} {ops : Array Oper} {Q : Exit → List Value → AHeap → γ → Prop} (m s : Nat) (hms : m ≤ s) (hs2 : s + 2 < ops.size) (hm : P.follows .mixedOrders = true)
    (hb : backB ops = true) (hp : pairsB ops = true) (hsuf : sufX ops m s = true) (hmn : m ≤ ops.size)
    (h : MonoJ P ops (fun T1 H1 => OpsJ P E ops (PairJ P E ops s (Q .normal)) ((ops.toList.drop m).take (s - m)) T1 H1 g) m ops.toList T H) : WPJ P E (.region id ops true) Q T H g := by
  intro ρ w S ro Ds ac hi ht hr hmk
  refine wpIn_region_any hm ?_
  obtain ⟨D, hDm, hD⟩ := MonoJ.data m 0 ops.toList T H (fun j => by simp) (by simpa using hmn) h
  obtain ⟨hdat, hR⟩ := hD [] T H rfl rfl rfl
  simp only [List.nil_append, Nat.zero_add] at hdat hR
  have hrows : ∀ k, k < m → (lD D k).all ownRow = true := by
    intro k hk
    obtain ⟨o, ho⟩ : ∃ o, ops[k]? = some o := ⟨_, Array.getElem?_eq_getElem (by omega)⟩
    have hs := hdat k o (Nat.zero_le _) hk ho
    unfold StepM at hs
    cases hg : o.guard with
    | none => simp only [hg] at hs; exact hs.1
    | some jb =>
      obtain ⟨j, b⟩ := jb
      simp only [hg] at hs
      obtain ⟨x, _, k1, k2⟩ := hs
      by_cases hxb : x = some b
      · exact (k1 hxb).1
      · rw [(k2 hxb).2]; rfl
  have hs1 : SRel ρ H w.drew := hi.srel.drew
  have hgetF : ∀ k, (Array.replicate ops.size false).getD k false = false := fun k => by simp [Array.getD]
  have hTS : ∀ i, TS ops D T (Array.replicate ops.size false) i = T := by
    intro i
    induction i with
    | zero => rfl
    | succ i ih => simp only [TS, hgetF]; exact ih
  refine head_anyX (s := s) hms hs2 (ρ := ρ) (w0 := w.drew) (ds := ac.defers) (Ds := Ds) hb hp hsuf hmn hrows (H0 := H) rfl (fun i x hx => (hs1.dom i x hx).1) (fun t => ⟨_, ht.getD t⟩) (fun _ => True) (fun j o _ hj ho _ _ _ _ _ => .inl ⟨hdat j o (Nat.zero_le _) hj ho, trivial⟩) (R := Q .normal) (fun _ _ _ h => h) (fun _ _ _ => hR)
    (QQ := Post E Q ρ H S w Ds) (fun e a w1 hp1 => hp1.from ((Step.drew ρ H w).trans' S) (fun _ h => .inl h)) ops.size _ ac w.drew ρ ?_ ?_ trivial
  · unfold unl; exact Nat.le_trans (List.length_filter_le _ _) (by simp)
  · exact {
      size := by simp
      closed := fun j o _ hl => by rw [hgetF] at hl; cases hl
      pre := fun j _ => hgetF j
      fam := fun k _ => by
        have hl0 : H.length ≤ (HK D H k).length := HK_len D H (Nat.zero_le k)
        have hg0 : ∀ i, i < H.length → (HK D H k)[i]? = H[i]? := fun i hi => (HK_get D H (i := 0) (j := k) hi (by omega)).symm
        refine ⟨fun i x hx => ?_, fun i x o hx ho => ?_, fun i j x y o o' hx hy ho ho' hd hd' hown hbb => ?_⟩
        · obtain ⟨h1, h2⟩ := cutR_some hx
          exact ⟨h1, (hs1.dom i x h2).2⟩
        · obtain ⟨h1, h2⟩ := cutR_some hx
          have hlt := (hs1.dom i x h2).1
          rw [hg0 i hlt] at ho
          refine (hs1.obj i x o h2 ho).mono fun i' x' h' => ?_
          have := (hs1.dom i' x' h').1
          rw [cutR_lt (by omega)]; exact h'
        · obtain ⟨h1, h2⟩ := cutR_some hx
          obtain ⟨h3, h4⟩ := cutR_some hy
          rw [hg0 i (hs1.dom i x h2).1] at ho
          rw [hg0 j (hs1.dom j y h4).1] at ho'
          exact hs1.inj i j x y o o' h2 h4 ho ho' hd hd' hown hbb
      top := fun i x hx => by have := (hs1.dom i x hx).1; have := HK_len D H (Nat.zero_le m); have h0 : HK D H 0 = H := rfl; rw [h0] at this; omega
      base := fun _ _ => rfl
      made := fun j _ _ i h1 _ => by
        cases hx : ρ i with
        | none => rfl
        | some x => have := (hs1.dom i x hx).1; have := HK_len D H (Nat.zero_le j); have h0 : HK D H 0 = H := rfl; rw [h0] at this; omega
      vals := fun j _ hl => by rw [hgetF] at hl; cases hl
      trel := by rw [hTS]; exact ht
      j := E.stable g S w w.drew hi.j (fun _ _ => rfl) (Nat.le_refl _) rfl rfl rfl
      bnd := hi.bnd
      disj := hi.disj
      live := fun _ h => h
      os := rfl
      tape := rfl
      out := rfl
      wsize := Nat.le_refl _
      keep := fun _ _ _ => rfl
      fresh := fun i x h1 hx => by have := (hs1.dom i x hx).1; omega
      ro := hr
      marks := ⟨hmk.eq, hmk.nodup, hmk.at_⟩
      defers := rfl }
end Go.Abs
