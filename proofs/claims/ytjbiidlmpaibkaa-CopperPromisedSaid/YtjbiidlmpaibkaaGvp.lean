import Derived.Test.YtjbiidlmpaibkaaGsp
namespace Go.Abs
open Go
def mayB (ops : Array Oper) (m : Nat) (no ex : List Nat) : List Nat := (List.range m).filter fun j => !no.contains j && no.all (fun b => !ancB ops ops.size j b) && ex.all fun s => s != j && !ancB ops ops.size s j
def StepsJ (P : Program) (ops : Array Oper) (D : List (Value × AHeap)) (T : List Value) (H : AHeap) : List Nat → Prop
  | [] => True
  | j :: js => (∃ o, ops[j]? = some o ∧ StepM P ops o (vD D j) (lD D j) (TK ops D T j) (HK D H j)) ∧ StepsJ P ops D T H js
theorem StepsJ.at_ {P : Program} {ops : Array Oper} {D : List (Value × AHeap)} {T : List Value} {H : AHeap} : ∀ {js : List Nat}, StepsJ P ops D T H js → ∀ j ∈ js, ∀ o, ops[j]? = some o → StepM P ops o (vD D j) (lD D j) (TK ops D T j) (HK D H j)
  | [], _, j, hj, _, _ => by cases hj
  | k :: js, h, j, hj, o, ho => by
    rcases List.mem_cons.1 hj with rfl | hj
    · obtain ⟨⟨o', h1, h2⟩, _⟩ := h
      rw [ho] at h1; cases h1; exact h2
    · exact StepsJ.at_ h.2 j hj o ho
theorem mem_may {ops : Array Oper} {m : Nat} {no ex : List Nat} {j : Nat} (hj : j < m) (h1 : j ∉ no) (h2 : ∀ b ∈ no, ancB ops ops.size j b = false) (h3 : ∀ s ∈ ex, s ≠ j ∧ ancB ops ops.size s j = false) : j ∈ mayB ops m no ex := by
  unfold mayB
  rw [List.mem_filter]
  refine ⟨List.mem_range.2 hj, ?_⟩
  simp only [Bool.and_eq_true, Bool.not_eq_true', List.all_eq_true, bne_iff_ne, ne_eq]
  refine ⟨⟨?_, fun b hb => h2 b hb⟩, fun s hs => ⟨(h3 s hs).1, (h3 s hs).2⟩⟩
  cases h : no.contains j with
  | false => rfl
  | true => exact absurd (List.contains_iff_mem.1 h) h1
theorem PhJ.last {P : Program} {ops : Array Oper} {m : Nat} {T : List Value} {R : List Value → AHeap → Prop} {ex : List Nat} {D : List (Value × AHeap)} {H : AHeap} (js : List Nat) (hjs : mayB ops m [] ex = js)
    (hs : StepsJ P ops D T H js) (hR : R (TK ops D T m) (HK D H m)) : PhJ P ops m T R [] ex D H :=
  ⟨fun j o hj ho hx => hs.at_ j (hjs ▸ mem_may hj (by simp) (fun _ h => by cases h) hx) o ho, hR⟩
structure Mut where
  b : Nat
  i : Nat
  o0 : AObj
  o1 : AObj
inductive Ph where
  | read (ps : List Nat)
  | turn (p : Nat)
def mutH : List Mut → AHeap → AHeap
  | [], H => H
  | μ :: ms, H => mutH ms (H.set μ.i μ.o1)
def MutsOk (n : Nat) : List Mut → Prop
  | [] => True
  | μ :: ms => ownedO μ.o0 = true ∧ LowRow n μ.o1 ∧ MutsOk n ms
def phaseB (ops : Array Oper) (m : Nat) (bs : List Nat) (j : Nat) : Ph :=
  match bs.findIdx? (· == j) with
  | some p => .turn p
  | none => .read ((List.range (bs.length + 1)).filter fun p => (mayB ops m (bs.drop p) (bs.take p).reverse).contains j)
def phasesB (ops : Array Oper) (m : Nat) (bs : List Nat) : List Ph := (List.range m).map (phaseB ops m bs)
def chainB (ops : Array Oper) (m : Nat) : List Nat → Bool
  | [] => true
  | b :: bs => decide (b < m) && bs.all (fun b' => ancB ops ops.size b' b && (List.range m).all fun j => !ancB ops ops.size j b' || ancB ops ops.size j b) && chainB ops m bs
def FreshM (ms : List Mut) (n k : Nat) : Prop := ∀ μ ∈ ms, ¬ (n ≤ μ.i ∧ μ.i < n + k)
def AllV : List Nat → (Nat → Prop) → Prop
  | [], _ => True
  | p :: ps, f => f p ∧ AllV ps f
theorem AllV.at_ {f : Nat → Prop} : ∀ {ps : List Nat}, AllV ps f → ∀ p ∈ ps, f p
  | [], _, p, hp => by cases hp
  | q :: ps, h, p, hp => by
    rcases List.mem_cons.1 hp with rfl | hp
    · exact h.1
    · exact AllV.at_ h.2 p hp
def VarJ (P : Program) (ops : Array Oper) (μs : List Mut) (R : List Value → AHeap → Prop) : List Ph → List Oper → List Value → AHeap → Prop
  | [], _, T, H => R T (mutH μs H)
  | _ :: _, [], T, H => R T (mutH μs H)
  | .read [] :: pl, o :: rest, T, H => ∃ v L, VarJ P ops μs R pl rest (putT T o.dst v) (H ++ L)
  | .read (p0 :: ps) :: pl, o :: rest, T, H => MonoJ P ops (fun T1 H1 => ∃ L, H1 = mutH (μs.take p0) H ++ L ∧ FreshM μs H.length L.length ∧
      AllV ps (fun p => (∃ d, o.dst = some d ∧ d < T.length) ∧ MonoJ P ops (fun T2 H2 => T2 = T1 ∧ H2 = mutH (μs.take p) H ++ L) 1 [o] T (mutH (μs.take p) H)) ∧
      VarJ P ops μs R pl rest T1 (H ++ L)) 1 [o] T (mutH (μs.take p0) H)
  | .turn p :: pl, o :: rest, T, H => ∃ v L μ, μs[p]? = some μ ∧ (mutH (μs.take p) H)[μ.i]? = some μ.o0 ∧ FreshM μs H.length L.length ∧ SpecM P μ.i μ.o1 o v L T (mutH (μs.take p) H) ∧ VarJ P ops μs R pl rest (putT T o.dst v) (H ++ L)
def PhOk (P : Program) (ops : Array Oper) (μs : List Mut) (o : Oper) (v : Value) (L : AHeap) (T : List Value) (H : AHeap) : Ph → Prop
  | .read ps => ps ≠ [] → FreshM μs H.length L.length ∧ ∀ p ∈ ps, StepM P ops o v L T (mutH (μs.take p) H)
  | .turn p => FreshM μs H.length L.length ∧ ∃ μ, μs[p]? = some μ ∧ (mutH (μs.take p) H)[μ.i]? = some μ.o0 ∧ SpecM P μ.i μ.o1 o v L T (mutH (μs.take p) H)
theorem MutsOk.at_ {n : Nat} : ∀ {ms : List Mut}, MutsOk n ms → ∀ μ ∈ ms, ownedO μ.o0 = true ∧ LowRow n μ.o1
  | [], _, _, h => by cases h
  | ν :: ms, h, μ, hm => by
    rcases List.mem_cons.1 hm with rfl | hm
    · exact ⟨h.1, h.2.1⟩
    · exact MutsOk.at_ h.2.2 μ hm
def idxB (bs : List Nat) : Bool := (List.range bs.length).all fun p => bs.findIdx? (· == bs.getD p 0) == some p
end Go.Abs
