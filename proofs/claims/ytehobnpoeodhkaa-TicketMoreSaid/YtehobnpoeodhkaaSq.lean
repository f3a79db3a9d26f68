import Derived.Test.YtehobnpoeodhkaaSp
import Derived.Test.YtehobnpoeodhkaaV6
namespace Go.Abs
open Go

/-- the numbers of operations that a phase lets come -/
def mayB (ops : Array Oper) (m : Nat) (no ex : List Nat) : List Nat := (List.range m).filter fun j => !no.contains j && no.all (fun b => !ancB ops ops.size j b) && ex.all fun s => s != j && !ancB ops ops.size s j
def StepsJ (P : Program) (ops : Array Oper) (D : List (Value × AHeap)) (T : List Value) (H : AHeap) : List Nat → Prop
  | [] => True
  | j :: js => (∃ o, ops[j]? = some o ∧ StepM P ops o (vD D j) (lD D j) (TK ops D T j) (HK D H j)) ∧ StepsJ P ops D T H js
theorem StepsJ.at_ {P : Program} {ops : Array Oper} {D : List (Value × AHeap)} {T : List Value} {H : AHeap} : ∀ {js : List Nat}, StepsJ P ops D T H js → ∀ j ∈ js, ∀ o, ops[j]? = some o → StepM P ops o (vD D j) (lD D j) (TK ops D T j) (HK D H j)
  | [], _, j, hj, _, _ => by cases hj
  | k :: js, h, j, hj, o, ho => by
    rcases List.mem_cons.1 hj with rfl | hj
    · obtain ⟨⟨o', h1, h2⟩, _⟩ := h
      rw [ho] at h1; cases h1; exact h2
    · exact StepsJ.at_ h.2 j hj o ho
theorem mem_may {ops : Array Oper} {m : Nat} {no ex : List Nat} {j : Nat} (hj : j < m) (h1 : j ∉ no) (h2 : ∀ b ∈ no, ancB ops ops.size j b = false) (h3 : ∀ s ∈ ex, s ≠ j ∧ ancB ops ops.size s j = false) : j ∈ mayB ops m no ex := by
  unfold mayB
  rw [List.mem_filter]
  refine ⟨List.mem_range.2 hj, ?_⟩
  simp only [Bool.and_eq_true, Bool.not_eq_true', List.all_eq_true, bne_iff_ne, ne_eq]
  refine ⟨⟨?_, fun b hb => h2 b hb⟩, fun s hs => ⟨(h3 s hs).1, (h3 s hs).2⟩⟩
  cases h : no.contains j with
  | false => rfl
  | true => exact absurd (List.contains_iff_mem.1 h) h1
/-- the last phase -/
theorem PhJ.last {P : Program} {ops : Array Oper} {m : Nat} {T : List Value} {R : List Value → AHeap → Prop} {ex : List Nat} {D : List (Value × AHeap)} {H : AHeap} (js : List Nat) (hjs : mayB ops m [] ex = js)
    (hs : StepsJ P ops D T H js) (hR : R (TK ops D T m) (HK D H m)) : PhJ P ops m T R [] ex D H :=
  ⟨fun j o hj ho hx => hs.at_ j (hjs ▸ mem_may hj (by simp) (fun _ h => by cases h) hx) o ho, hR⟩
/-- a phase ahead of the last two -/
theorem PhJ.next {P : Program} {ops : Array Oper} {m b : Nat} {bs : List Nat} {T : List Value} {R : List Value → AHeap → Prop} {ex : List Nat} {D : List (Value × AHeap)} {H : AHeap} (js : List Nat) (i : Nat) (o0 o1 : AObj) (hjs : mayB ops m (b :: bs) ex = js) (hbm : b < m)
    (hch : bs.all (fun b' => ancB ops ops.size b' b && (List.range m).all fun j => !ancB ops ops.size j b' || ancB ops ops.size j b) = true)
    (hs : StepsJ P ops D T H js) (hio : (HK D H b)[i]? = some o0) (ho0 : ownedO o0 = true) (hfl : flatRow o1 = true) (hsp : ∃ ob, ops[b]? = some ob ∧ SpecM P i o1 ob (vD D b) (lD D b) (TK ops D T b) (HK D H b)) (hn : PhJ P ops m T R bs (b :: ex) (chgD D H i o1) (H.set i o1)) :
    PhJ P ops m T R (b :: bs) ex D H := by
  have hch' : ∀ b' ∈ bs, ancB ops ops.size b' b = true ∧ ∀ j, j < m → ancB ops ops.size j b' = true → ancB ops ops.size j b = true := fun b' hb' => by
    have := List.all_eq_true.1 hch b' hb'
    simp only [Bool.and_eq_true, List.all_eq_true, Bool.or_eq_true, Bool.not_eq_true', List.mem_range] at this
    exact ⟨this.1, fun j hj h => (this.2 j hj).resolve_left (by rw [h]; simp)⟩
  refine ⟨hbm, fun j o hj ho hjb hab hin hx => hs.at_ j (hjs ▸ mem_may hj ?_ ?_ hx) o ho, fun b' hb' => (hch' b' hb').1, i, o0, o1, hio, ho0, hfl, fun ob hob => ?_, hn⟩
  · simp [hjb, hin]
  · intro b' hb'
    rcases List.mem_cons.1 hb' with rfl | hb'
    · exact hab
    · cases h : ancB ops ops.size j b' with
      | false => rfl
      | true => rw [(hch' b' hb').2 j hj h] at hab; cases hab
  · obtain ⟨o', h1, h2⟩ := hsp
    rw [hob] at h1; cases h1; exact h2
theorem hk_old {D : List (Value × AHeap)} {H : AHeap} {j : Nat} {o : AObj} (h : H[j]? = some o) : ∀ k, (HK D H k)[j]? = some o
  | 0 => h
  | k + 1 => get_old (hk_old h k)
section
variable {P : Program} {ops : Array Oper} {T : List Value} {H : AHeap} {dst : Option Tmp} {ty : TypeId} {ps : String} {af : Array Edge}
theorem sm_fieldAddr {s : TypeId} {x : Operand} {f j o off : Nat} [hf : FaC P s f off] (hx : evalT T x = .pointer (some ⟨j, o, none⟩)) : StepM P ops ⟨dst, .fieldAddr s x f, ty, ps, af, none⟩ (.pointer (some ⟨j, o + off, none⟩)) [] T H := by
  obtain ⟨fields, n, z, b, fd, d', n', z', b', h1, h2, h3, h4, rfl⟩ := hf.fa
  exact Mono.of_runs (by simpa using runs_fieldAddr h1 h2 h3 h4 hx) rfl rfl
theorem sm_load1 {t : TypeId} {x : Operand} {i o : Nat} {d : TypeDesc} {n : Nat} {z : Value} {b : Nat} {cells : List Value} {es : Nat} {own : Bool} {v : Value} [ht : TyC P t d n z b] (hd : aggD d = false) (hx : evalT T x = .pointer (some ⟨i, o, none⟩))
    (hi : H[i]? = some (.row cells es own)) (hc : cells[o]? = some v) : StepM P ops ⟨dst, .load t x, ty, ps, af, none⟩ v [] T H := Mono.of_runs (by simpa using runs_load1 ht.ty hd hx hi hc) rfl rfl
theorem sm_buildE {t : TypeId} {e : TypeId} {n k : Nat} {z : Value} {b : Nat} {d' : TypeDesc} {n' : Nat} {z' : Value} {b' : Nat} [ht : TyC P t (.slice e) n z b] [he : TyC P e d' n' z' b'] (hk : H.length = k) : StepM P ops ⟨dst, .buildSlice t 0 #[], ty, ps, af, none⟩ (.slice (some ⟨k, 0, none⟩) 0 0) [.row [] n' true] T H := by
  subst hk
  exact Mono.of_runs (runs_buildSlice ht.ty he.ty (by simp) (by simp [partsT, fillA])) rfl rfl
theorem spec_of_runs {op : Op} {i : Nat} {o1 : AObj} {v : Value} {L : AHeap} (h1 : Runs P ⟨dst, op, ty, ps, af, none⟩ v (H.set i o1 ++ L) T H) (hd : isDefer op = false) (hL : L.all ownRow = true) : SpecM P i o1 ⟨dst, op, ty, ps, af, none⟩ v L T H :=
  ⟨rfl, hL, OpJ.of_runs h1 (fun c e => by simp only at e; rw [e] at hd; cases hd) ⟨rfl, rfl⟩⟩
/-- append([]T{}, l...): the row of nothing is turned, or left where nothing is appended -/
theorem spec_appendCopy {α : Type} {enc : α → List Value} {w : Nat} {l : List α} {Hx : AHeap} {s x : Operand} {t e : TypeId} {n : Nat} {z : Value} {b : Nat} {d' : TypeDesc} {z' : Value} {b' : Nat} {v : Value} {i0 N : Nat} [ht : TyC P t (.slice e) n z b] [he : TyC P e d' w z' b']
    (hr : RdS Hx v w (l.map enc)) (hne : l ≠ []) (hext : ∀ (i : Nat) (o : AObj), Hx[i]? = some o → H[i]? = some o) (hz' : (cellsL z').length = w) (hok : ∀ a, (enc a).all cellOk = true) (hs_ : evalT T s = .slice (some ⟨i0, 0, none⟩) 0 0) (hi0 : H[i0]? = some (.row [] w true)) (hx : evalT T x = v) (hn : l.length ≤ 1000000) (hb : b' ≤ 1000) (hN : H.length = N) :
    SpecM P i0 .dead ⟨dst, .call { callee := .builtin .append, args := #[s, x], argTypes := #[t, t] }, ty, ps, af, none⟩ (.slice (some ⟨N, 0, none⟩) l.length l.length) [.row (l.map enc).flatten w true] T H := by
  subst hN
  obtain ⟨_, h⟩ := hr
  have hm : maxLen = 9223372036854775807 := by decide
  rcases h with ⟨i, o, c, row, es', own, a, b1, b2, b3⟩ | ⟨h, _⟩
  · rw [List.length_map] at a b2 b3
    have hlb : (0 + l.length) * b' ≤ 140737488355328 := by
      have := Nat.mul_le_mul hn hb
      rw [Nat.zero_add]
      omega
    have hall : (l.map enc).flatten.all cellOk = true := by
      rw [List.all_eq_true]
      intro u hu
      obtain ⟨q, hq, huq⟩ := List.mem_flatten.1 hu
      obtain ⟨p, _, rfl⟩ := List.mem_map.1 hq
      exact List.all_eq_true.1 (hok p) u huq
    have k := runs_appendOwn (dst := dst) (ty := ty) (ps := ps) (af := af) (gd := none) (P := P) (T := T) ht.ty he.ty hz' hs_ hi0 (by simp) (hx.trans a) (hext _ _ b1) b2 b3 hall (by rw [hm]; omega) hlb
    refine spec_of_runs ?_ rfl rfl
    simpa using k
  · exact absurd (List.map_eq_nil_iff.1 h) hne
theorem spec_appendNone {w : Nat} {Hx : AHeap} {s x : Operand} {t e : TypeId} {n : Nat} {z : Value} {b : Nat} {d' : TypeDesc} {z' : Value} {b' : Nat} {v : Value} {i0 k : Nat} [ht : TyC P t (.slice e) n z b] [he : TyC P e d' w z' b']
    (hk : k = 0) (hr : RdS Hx v w []) (hs_ : evalT T s = .slice (some ⟨i0, 0, none⟩) 0 0) (hi0 : H[i0]? = some (.row [] w true)) (hx : evalT T x = v) :
    SpecM P i0 (.row [] w true) ⟨dst, .call { callee := .builtin .append, args := #[s, x], argTypes := #[t, t] }, ty, ps, af, none⟩ (.slice (some ⟨i0, 0, none⟩) k 0) [] T H := by
  subst hk
  have hv : ∃ a c, v = .slice a 0 c := by
    rcases hr.2 with ⟨i, o, c, row, es', own, a, _⟩ | ⟨_, a | a⟩
    · exact ⟨_, _, a⟩
    · exact ⟨_, _, a⟩
    · exact ⟨_, _, a⟩
  obtain ⟨a, c, rfl⟩ := hv
  refine spec_of_runs ?_ rfl rfl
  have e : H.set i0 (.row [] w true) = H := set_same_obj hi0
  rw [e, List.append_nil]
  exact runs_appendZero ht.ty he.ty hs_ hx
end
end Go.Abs
namespace Go.Abs
open Go
section
variable {P : Program} {ops : Array Oper} {D : List (Value × AHeap)} {T : List Value} {H : AHeap} {i i2 j : Nat} {o1 oB : AObj} {o : Oper}
theorem chg_step (hl : i < (HK D H j).length) (h : StepM P ops o (vD D j) (lD D j) (TK ops D T j) ((HK D H j).set i o1)) : StepM P ops o (vD (chgD D H i o1) j) (lD (chgD D H i o1) j) (TK ops (chgD D H i o1) T j) (HK (chgD D H i o1) (H.set i o1) j) := by
  rw [chgD_v, chgD_TK, chgD_HK, chgD_l, if_neg (by omega)]; exact h
theorem chg_spec (hl : i < (HK D H j).length) (h : SpecM P i2 oB o (vD D j) (lD D j) (TK ops D T j) ((HK D H j).set i o1)) : SpecM P i2 oB o (vD (chgD D H i o1) j) (lD (chgD D H i o1) j) (TK ops (chgD D H i o1) T j) (HK (chgD D H i o1) (H.set i o1) j) := by
  rw [chgD_v, chgD_TK, chgD_HK, chgD_l, if_neg (by omega)]; exact h
theorem HK_chg_len (D : List (Value × AHeap)) (H : AHeap) (i : Nat) (o1 : AObj) (j : Nat) : (HK (chgD D H i o1) (H.set i o1) j).length = (HK D H j).length := chgD_len D H i o1 j
end
end Go.Abs
