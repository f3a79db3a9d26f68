import Derived.Test.YtjbiidlmpaibkaaGsp
namespace Go.Abs
open Go
def mayB (ops : Array Oper) (m : Nat) (no ex : List Nat) : List Nat := (List.range m).filter fun j => !no.contains j && no.all (fun b => !ancB ops ops.size j b) && ex.all fun s => s != j && !ancB ops ops.size s j
def StepsJ (P : Program) (ops : Array Oper) (D : List (Value × AHeap)) (T : List Value) (H : AHeap) : List Nat → Prop
  | [] => True
  | j :: js => (∃ o, ops[j]? = some o ∧ StepM P ops o (vD D j) (lD D j) (TK ops D T j) (HK D H j)) ∧ StepsJ P ops D T H js
theorem StepsJ.at_ {P : Program} {ops : Array Oper} {D : List (Value × AHeap)} {T : List Value} {H : AHeap} : ∀ {js : List Nat}, StepsJ P ops D T H js → ∀ j ∈ js, ∀ o, ops[j]? = some o → StepM P ops o (vD D j) (lD D j) (TK ops D T j) (HK D H j)
  | [], _, j, hj, _, _ => by cases hj
  | k :: js, h, j, hj, o, ho => by
    rcases List.mem_cons.1 hj with rfl | hj
    · obtain ⟨⟨o', h1, h2⟩, _⟩ := h
      rw [ho] at h1; cases h1; exact h2
    · exact StepsJ.at_ h.2 j hj o ho
theorem mem_may {ops : Array Oper} {m : Nat} {no ex : List Nat} {j : Nat} (hj : j < m) (h1 : j ∉ no) (h2 : ∀ b ∈ no, ancB ops ops.size j b = false) (h3 : ∀ s ∈ ex, s ≠ j ∧ ancB ops ops.size s j = false) : j ∈ mayB ops m no ex := by
  unfold mayB
  rw [List.mem_filter]
  refine ⟨List.mem_range.2 hj, ?_⟩
  simp only [Bool.and_eq_true, Bool.not_eq_true', List.all_eq_true, bne_iff_ne, ne_eq]
  refine ⟨⟨?_, fun b hb => h2 b hb⟩, fun s hs => ⟨(h3 s hs).1, (h3 s hs).2⟩⟩
  cases h : no.contains j with
  | false => rfl
  | true => exact absurd (List.contains_iff_mem.1 h) h1
theorem PhJ.last {P : Program} {ops : Array Oper} {m : Nat} {T : List Value} {R : List Value → AHeap → Prop} {ex : List Nat} {D : List (Value × AHeap)} {H : AHeap} (js : List Nat) (hjs : mayB ops m [] ex = js)
    (hs : StepsJ P ops D T H js) (hR : R (TK ops D T m) (HK D H m)) : PhJ P ops m T R [] ex D H :=
  ⟨fun j o hj ho hx => hs.at_ j (hjs ▸ mem_may hj (by simp) (fun _ h => by cases h) hx) o ho, hR⟩
theorem PhJ.next {P : Program} {ops : Array Oper} {m b : Nat} {bs : List Nat} {T : List Value} {R : List Value → AHeap → Prop} {ex : List Nat} {D : List (Value × AHeap)} {H : AHeap} (js : List Nat) (i : Nat) (o0 o1 : AObj) (hjs : mayB ops m (b :: bs) ex = js) (hbm : b < m)
    (hch : bs.all (fun b' => ancB ops ops.size b' b && (List.range m).all fun j => !ancB ops ops.size j b' || ancB ops ops.size j b) = true)
    (hs : StepsJ P ops D T H js) (hio : (HK D H b)[i]? = some o0) (ho0 : ownedO o0 = true) (hfl : flatRow o1 = true) (hsp : ∃ ob, ops[b]? = some ob ∧ SpecM P i o1 ob (vD D b) (lD D b) (TK ops D T b) (HK D H b)) (hn : PhJ P ops m T R bs (b :: ex) (chgD D H i o1) (H.set i o1)) :
    PhJ P ops m T R (b :: bs) ex D H := by
  have hch' : ∀ b' ∈ bs, ancB ops ops.size b' b = true ∧ ∀ j, j < m → ancB ops ops.size j b' = true → ancB ops ops.size j b = true := fun b' hb' => by
    have := List.all_eq_true.1 hch b' hb'
    simp only [Bool.and_eq_true, List.all_eq_true, Bool.or_eq_true, Bool.not_eq_true', List.mem_range] at this
    exact ⟨this.1, fun j hj h => (this.2 j hj).resolve_left (by rw [h]; simp)⟩
  refine ⟨hbm, fun j o hj ho hjb hab hin hx => hs.at_ j (hjs ▸ mem_may hj ?_ ?_ hx) o ho, fun b' hb' => (hch' b' hb').1, i, o0, o1, hio, ho0, hfl, fun ob hob => ?_, hn⟩
  · simp [hjb, hin]
  · intro b' hb'
    rcases List.mem_cons.1 hb' with rfl | hb'
    · exact hab
    · cases h : ancB ops ops.size j b' with
      | false => rfl
      | true => rw [(hch' b' hb').2 j hj h] at hab; cases hab
  · obtain ⟨o', h1, h2⟩ := hsp
    rw [hob] at h1; cases h1; exact h2
structure Mut where
  b : Nat
  i : Nat
  o0 : AObj
  o1 : AObj
inductive Ph where
  | read (ps : List Nat)
  | turn (p : Nat)
def mutH : List Mut → AHeap → AHeap
  | [], H => H
  | μ :: ms, H => mutH ms (H.set μ.i μ.o1)
def MutsOk : List Mut → Prop
  | [] => True
  | μ :: ms => ownedO μ.o0 = true ∧ flatRow μ.o1 = true ∧ MutsOk ms
def phaseB (ops : Array Oper) (m : Nat) (bs : List Nat) (j : Nat) : Ph :=
  match bs.findIdx? (· == j) with
  | some p => .turn p
  | none => .read ((List.range (bs.length + 1)).filter fun p => (mayB ops m (bs.drop p) (bs.take p).reverse).contains j)
def phasesB (ops : Array Oper) (m : Nat) (bs : List Nat) : List Ph := (List.range m).map (phaseB ops m bs)
def chainB (ops : Array Oper) (m : Nat) : List Nat → Bool
  | [] => true
  | b :: bs => decide (b < m) && bs.all (fun b' => ancB ops ops.size b' b && (List.range m).all fun j => !ancB ops ops.size j b' || ancB ops ops.size j b) && chainB ops m bs
def FreshM (ms : List Mut) (n k : Nat) : Prop := ∀ μ ∈ ms, ¬ (n ≤ μ.i ∧ μ.i < n + k)
def AllV : List Nat → (Nat → Prop) → Prop
  | [], _ => True
  | p :: ps, f => f p ∧ AllV ps f
theorem AllV.at_ {f : Nat → Prop} : ∀ {ps : List Nat}, AllV ps f → ∀ p ∈ ps, f p
  | [], _, p, hp => by cases hp
  | q :: ps, h, p, hp => by
    rcases List.mem_cons.1 hp with rfl | hp
    · exact h.1
    · exact AllV.at_ h.2 p hp
def VarJ (P : Program) (ops : Array Oper) (μs : List Mut) (R : List Value → AHeap → Prop) : List Ph → List Oper → List Value → AHeap → Prop
  | [], _, T, H => R T (mutH μs H)
  | _ :: _, [], T, H => R T (mutH μs H)
  | .read [] :: pl, o :: rest, T, H => ∃ v L, VarJ P ops μs R pl rest (putT T o.dst v) (H ++ L)
  | .read (p0 :: ps) :: pl, o :: rest, T, H => MonoJ P ops (fun T1 H1 => ∃ L, H1 = mutH (μs.take p0) H ++ L ∧ FreshM μs H.length L.length ∧
      AllV ps (fun p => (∃ d, o.dst = some d ∧ d < T.length) ∧ MonoJ P ops (fun T2 H2 => T2 = T1 ∧ H2 = mutH (μs.take p) H ++ L) 1 [o] T (mutH (μs.take p) H)) ∧
      VarJ P ops μs R pl rest T1 (H ++ L)) 1 [o] T (mutH (μs.take p0) H)
  | .turn p :: pl, o :: rest, T, H => ∃ v L μ, μs[p]? = some μ ∧ (mutH (μs.take p) H)[μ.i]? = some μ.o0 ∧ FreshM μs H.length L.length ∧ SpecM P μ.i μ.o1 o v L T (mutH (μs.take p) H) ∧ VarJ P ops μs R pl rest (putT T o.dst v) (H ++ L)
theorem putT_inj {T : List Value} {d : Nat} {v w : Value} (h : d < T.length) (e : putT T (some d) v = putT T (some d) w) : v = w := by
  have h1 := congrArg (fun l => l[d]?) e
  unfold putT at h1
  simpa [h] using h1
def PhOk (P : Program) (ops : Array Oper) (μs : List Mut) (o : Oper) (v : Value) (L : AHeap) (T : List Value) (H : AHeap) : Ph → Prop
  | .read ps => ps ≠ [] → FreshM μs H.length L.length ∧ ∀ p ∈ ps, StepM P ops o v L T (mutH (μs.take p) H)
  | .turn p => FreshM μs H.length L.length ∧ ∃ μ, μs[p]? = some μ ∧ (mutH (μs.take p) H)[μ.i]? = some μ.o0 ∧ SpecM P μ.i μ.o1 o v L T (mutH (μs.take p) H)
theorem VarJ.data {P : Program} {ops : Array Oper} {μs : List Mut} {R : List Value → AHeap → Prop} : ∀ (pl : List Ph) (l : List Oper) (T : List Value) (H : AHeap) (k : Nat), (∀ j, l[j]? = ops[k + j]?) → pl.length ≤ l.length → VarJ P ops μs R pl l T H →
    ∃ D : List (Value × AHeap), D.length = pl.length ∧ ∀ (D0 : List (Value × AHeap)) (T0 : List Value) (Hx : AHeap), D0.length = k → TK ops (D0 ++ D) T0 k = T → HK (D0 ++ D) Hx k = H →
      (∀ j o ph, k ≤ j → ops[j]? = some o → pl[j - k]? = some ph →
        PhOk P ops μs o (vD (D0 ++ D) j) (lD (D0 ++ D) j) (TK ops (D0 ++ D) T0 j) (HK (D0 ++ D) Hx j) ph) ∧
      R (TK ops (D0 ++ D) T0 (k + pl.length)) (mutH μs (HK (D0 ++ D) Hx (k + pl.length)))
  | [], l, T, H, k, _, _, h => ⟨[], rfl, fun D0 T0 Hx hD hT hH => ⟨fun j o ph _ _ hp => by simp at hp, by
      have h2 : R T (mutH μs H) := h
      simp only [List.length_nil, Nat.add_zero]
      rw [hT, hH]; exact h2⟩⟩
  | ph :: pl, [], T, H, k, _, hn, h => by simp at hn
  | ph :: pl, o :: l, T, H, k, hl, hn, h => by
    have h0 : ops[k]? = some o := by simpa using (hl 0).symm
    have hstep : ∃ v L, VarJ P ops μs R pl l (putT T o.dst v) (H ++ L) ∧
        PhOk P ops μs o v L T H ph := by
      match ph, h with
      | .read [], h => obtain ⟨v, L, h⟩ := h; exact ⟨v, L, h, fun hc => absurd rfl hc⟩
      | .read (p0 :: ps), h =>
        obtain ⟨v, L, hs, L', he, hf, ha, hr⟩ := h
        have e : L = L' := List.append_cancel_left he
        subst e
        refine ⟨v, L, hr, fun _ => ⟨hf, fun p hp => ?_⟩⟩
        rcases List.mem_cons.1 hp with rfl | hp
        · exact hs
        · obtain ⟨⟨d, hd, hdl⟩, v2, L2, hs2, e1, e2⟩ := ha.at_ p hp
          have e3 : L2 = L := List.append_cancel_left e2
          rw [hd] at e1
          have e4 : v2 = v := putT_inj hdl e1
          subst e3; subst e4
          exact hs2
      | .turn p, h => obtain ⟨v, L, μ, h1, h2, h3, h4, h5⟩ := h; exact ⟨v, L, h5, h3, μ, h1, h2, h4⟩
    obtain ⟨v, L, hrest, hthis⟩ := hstep
    obtain ⟨D, hDn, hD⟩ := VarJ.data pl l _ _ (k + 1) (fun j => by have := hl (j + 1); simpa [Nat.add_assoc, Nat.add_comm 1 j] using this) (by simpa using hn) hrest
    refine ⟨(v, L) :: D, by simp [hDn], fun D0 T0 Hx hk hT hH => ?_⟩
    have e : D0 ++ (v, L) :: D = (D0 ++ [(v, L)]) ++ D := by simp
    have hv : vD (D0 ++ (v, L) :: D) k = v := by simp [vD, ← hk]
    have hL : lD (D0 ++ (v, L) :: D) k = L := by simp [lD, ← hk]
    have hd : dstA ops k = o.dst := by simp [dstA, h0]
    have hT1 : TK ops (D0 ++ (v, L) :: D) T0 (k + 1) = putT T o.dst v := by rw [TK, hT, hv, hd]
    have hH1 : HK (D0 ++ (v, L) :: D) Hx (k + 1) = H ++ L := by rw [HK, hL, hH]
    have hD' := hD (D0 ++ [(v, L)]) T0 Hx (by simp [hk]) (by rw [← e]; exact hT1) (by rw [← e]; exact hH1)
    rw [← e] at hD'
    obtain ⟨hd1, hd2⟩ := hD'
    refine ⟨fun j o2 ph2 hj ho hp => ?_, ?_⟩
    · rcases Nat.lt_or_ge k j with h1 | h1
      · exact hd1 j o2 ph2 (by omega) ho (by rw [show j - k = j - (k + 1) + 1 by omega, List.getElem?_cons_succ] at hp; exact hp)
      · obtain rfl : j = k := by omega
        rw [Nat.sub_self, List.getElem?_cons_zero] at hp
        cases hp
        rw [h0] at ho; cases ho
        rw [hv, hL, hT, hH]
        exact hthis
    · rw [show k + (ph :: pl).length = k + 1 + pl.length by simp; omega]
      exact hd2
theorem mutH_len : ∀ (ms : List Mut) (H : AHeap), (mutH ms H).length = H.length
  | [], _ => rfl
  | μ :: ms, H => by show (mutH ms (H.set μ.i μ.o1)).length = _; rw [mutH_len ms, List.length_set]
theorem mutH_snoc : ∀ (ms : List Mut) (μ : Mut) (H : AHeap), mutH (ms ++ [μ]) H = (mutH ms H).set μ.i μ.o1
  | [], _, _ => rfl
  | ν :: ms, μ, H => mutH_snoc ms μ (H.set ν.i ν.o1)
theorem StepsJ.of {P : Program} {ops : Array Oper} {D : List (Value × AHeap)} {T : List Value} {H : AHeap} : ∀ {js : List Nat}, (∀ j ∈ js, ∃ o, ops[j]? = some o ∧ StepM P ops o (vD D j) (lD D j) (TK ops D T j) (HK D H j)) → StepsJ P ops D T H js
  | [], _ => trivial
  | j :: js, h => ⟨h j (by simp), StepsJ.of fun k hk => h k (by simp [hk])⟩
theorem MutsOk.at_ : ∀ {ms : List Mut}, MutsOk ms → ∀ μ ∈ ms, ownedO μ.o0 = true ∧ flatRow μ.o1 = true
  | [], _, _, h => by cases h
  | ν :: ms, h, μ, hm => by
    rcases List.mem_cons.1 hm with rfl | hm
    · exact ⟨h.1, h.2.1⟩
    · exact MutsOk.at_ h.2.2 μ hm
def idxB (bs : List Nat) : Bool := (List.range bs.length).all fun p => bs.findIdx? (· == bs.getD p 0) == some p
theorem may_out {ops : Array Oper} {m : Nat} {no ex : List Nat} {j : Nat} (h : j ∈ mayB ops m no ex) : j < m ∧ j ∉ no ∧ j ∉ ex := by
  unfold mayB at h
  rw [List.mem_filter] at h
  obtain ⟨h1, h2⟩ := h
  simp only [Bool.and_eq_true, Bool.not_eq_true', List.all_eq_true, bne_iff_ne, ne_eq] at h2
  refine ⟨List.mem_range.1 h1, fun hc => ?_, fun hc => (h2.2 j hc).1 rfl⟩
  have := h2.1.1
  rw [List.contains_iff_mem.2 hc] at this
  cases this
theorem VarJ.phases {P : Program} {ops : Array Oper} {m : Nat} {T : List Value} {R : List Value → AHeap → Prop} {D : List (Value × AHeap)} {H : AHeap} {μs : List Mut} (hmn : m ≤ ops.size) (hok : MutsOk μs) (hid : idxB (μs.map (·.b)) = true)
    (hall : ∀ j o ph, ops[j]? = some o → (phasesB ops m (μs.map (·.b)))[j]? = some ph → PhOk P ops μs o (vD D j) (lD D j) (TK ops D T j) (HK D H j) ph) (hR : R (TK ops D T m) (mutH μs (HK D H m))) :
    ∀ (suf pre : List Mut) (Dq : List (Value × AHeap)) (Hq : AHeap), μs = pre ++ suf → chainB ops m (suf.map (·.b)) = true → (∀ j, vD Dq j = vD D j) → (∀ k, TK ops Dq T k = TK ops D T k) → (∀ k, HK Dq Hq k = mutH pre (HK D H k)) →
      (∀ j, FreshM μs (HK D H j).length (lD D j).length → lD Dq j = lD D j) → PhJ P ops m T R (suf.map (·.b)) ((pre.map (·.b)).reverse) Dq Hq := by
  have hat : ∀ (pre suf : List Mut) (Dq : List (Value × AHeap)) (Hq : AHeap), μs = pre ++ suf → (∀ j, vD Dq j = vD D j) → (∀ k, TK ops Dq T k = TK ops D T k) → (∀ k, HK Dq Hq k = mutH pre (HK D H k)) →
      (∀ j, FreshM μs (HK D H j).length (lD D j).length → lD Dq j = lD D j) → StepsJ P ops Dq T Hq (mayB ops m (suf.map (·.b)) ((pre.map (·.b)).reverse)) := by
    intro pre suf Dq Hq he hv hT hH hL
    refine StepsJ.of fun j hj => ?_
    obtain ⟨hjm, hn1, hn2⟩ := may_out hj
    have hnb : (μs.map (·.b)).findIdx? (· == j) = none := by
      rw [List.findIdx?_eq_none_iff]
      intro b hb
      rw [he, List.map_append, List.mem_append] at hb
      simp only [beq_eq_false_iff_ne, ne_eq]
      rintro rfl
      rcases hb with hb | hb
      · exact hn2 (List.mem_reverse.2 hb)
      · exact hn1 hb
    obtain ⟨o, ho⟩ : ∃ o, ops[j]? = some o := ⟨_, Array.getElem?_eq_getElem (by omega)⟩
    have hph : (phasesB ops m (μs.map (·.b)))[j]? = some (.read ((List.range ((μs.map (·.b)).length + 1)).filter fun p => (mayB ops m ((μs.map (·.b)).drop p) ((μs.map (·.b)).take p).reverse).contains j)) := by
      unfold phasesB
      rw [List.getElem?_map, List.getElem?_range hjm]
      simp only [Option.map_some, phaseB, hnb]
    have hp : pre.length ∈ (List.range ((μs.map (·.b)).length + 1)).filter fun p => (mayB ops m ((μs.map (·.b)).drop p) ((μs.map (·.b)).take p).reverse).contains j := by
      refine List.mem_filter.2 ⟨List.mem_range.2 (by rw [he]; simp; omega), ?_⟩
      rw [List.contains_iff_mem, he, List.map_append, List.drop_left' (by simp), List.take_left' (by simp)]
      exact hj
    obtain ⟨hf, hs⟩ := hall j o _ ho hph (fun hc => by rw [hc] at hp; cases hp)
    have h1 := hs _ hp
    rw [he, List.take_left' rfl] at h1
    exact ⟨o, ho, by rw [hv, hT, hH, hL j hf]; exact h1⟩
  intro suf
  induction suf with
  | nil =>
    intro pre Dq Hq he _ hv hT hH hL
    refine PhJ.last _ rfl (hat pre [] Dq Hq he hv hT hH hL) ?_
    rw [hT, hH]
    rw [he, List.append_nil] at hR
    exact hR
  | cons μ suf ih =>
    intro pre Dq Hq he hch hv hT hH hL
    simp only [List.map_cons, chainB, Bool.and_eq_true, decide_eq_true_eq] at hch
    obtain ⟨⟨hbm, hch1⟩, hch2⟩ := hch
    have hμp : μs[pre.length]? = some μ := by rw [he, List.getElem?_append_right (Nat.le_refl _)]; simp
    have hpl : pre.length < (μs.map (·.b)).length := by rw [he]; simp
    have hix : (μs.map (·.b)).findIdx? (· == μ.b) = some pre.length := by
      have h1 := List.all_eq_true.1 hid pre.length (List.mem_range.2 hpl)
      simp only [beq_iff_eq] at h1
      rw [show (μs.map (·.b)).getD pre.length 0 = μ.b by simp [List.getD, hμp]] at h1
      exact h1
    have hph : (phasesB ops m (μs.map (·.b)))[μ.b]? = some (.turn pre.length) := by
      unfold phasesB
      rw [List.getElem?_map, List.getElem?_range hbm]
      simp only [Option.map_some, phaseB, hix]
    obtain ⟨o, ho⟩ : ∃ o, ops[μ.b]? = some o := ⟨_, Array.getElem?_eq_getElem (by omega)⟩
    obtain ⟨hf, μ', h1, h2, h3⟩ := hall _ o _ ho hph
    rw [hμp] at h1; cases h1
    rw [he, List.take_left' rfl, ← hH] at h2 h3
    obtain ⟨k1, k2⟩ := hok.at_ μ (List.mem_of_getElem? hμp)
    refine PhJ.next _ μ.i μ.o0 μ.o1 rfl hbm hch1 (hat pre (μ :: suf) Dq Hq he hv hT hH hL) h2 k1 k2 ⟨o, ho, by rw [hv, hT, hL _ hf]; exact h3⟩ ?_
    have := ih (pre ++ [μ]) (chgD Dq Hq μ.i μ.o1) (Hq.set μ.i μ.o1) (by rw [he]; simp) hch2 (fun j => by rw [chgD_v, hv]) (fun k => by rw [chgD_TK, hT]) (fun k => by rw [chgD_HK, hH, mutH_snoc]) (fun j hf => by
      rw [chgD_l, hL j hf]
      split
      · rename_i hle
        have h9 := hf μ (List.mem_of_getElem? hμp)
        have h8 : (HK Dq Hq j).length = (HK D H j).length := by rw [hH, mutH_len]
        exact List.set_eq_of_length_le (by omega)
      · rfl)
    simpa using this
theorem WPJ.drawV {γ : Type} {P : Program} {E : Env γ} {T : List Value} {H : AHeap} {g : γ} {id : Nat} {ops : Array Oper} {Q : Exit → List Value → AHeap → γ → Prop} (m : Nat) (bs : List Nat) (μs : List Mut) (pl : List Ph) (hm : P.follows .mixedOrders = true)
    (hb : backB ops = true) (hp : pairsB ops = true) (hsuf : sufB ops m = true) (hmn : m ≤ ops.size) (hpl : phasesB ops m bs = pl) (hch : chainB ops m bs = true) (hid : idxB bs = true) (hbs : μs.map (·.b) = bs) (hok : MutsOk μs)
    (h : VarJ P ops μs (fun T1 H1 => OpsJ P E ops (Q .normal) (ops.toList.drop m) T1 H1 g) pl ops.toList T H) : WPJ P E (.region id ops true) Q T H g := by
  subst hbs
  subst hpl
  have hpn : (phasesB ops m (μs.map (·.b))).length = m := by simp [phasesB]
  obtain ⟨D, hDl, hD⟩ := VarJ.data _ ops.toList T H 0 (fun j => by simp) (by rw [hpn]; simpa using hmn) h
  obtain ⟨h1, h2⟩ := hD [] T H rfl rfl rfl
  rw [hpn, Nat.zero_add] at h2
  simp only [List.nil_append] at h1 h2
  refine WPJ.drawP m (μs.map (·.b)) D hm hb hp hsuf hmn ?_
  exact VarJ.phases hmn hok hid (fun j o ph ho hph => h1 j o ph (Nat.zero_le _) ho (by simpa using hph)) h2 μs [] D H rfl hch (fun _ => rfl) (fun _ => rfl) (fun _ => rfl) (fun _ _ => rfl)
end Go.Abs
