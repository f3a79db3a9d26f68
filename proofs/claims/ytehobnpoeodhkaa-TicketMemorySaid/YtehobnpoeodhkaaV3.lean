import Derived.Test.YtehobnpoeodhkaaV2
import Derived.Laws.StructEq
import Derived.Scope
import Derived.MapKept
import Derived.Laws.IdiomRangeMap
import Derived.WideKeyEntry
namespace Go.Abs
open Go
theorem get_setc {l : List Value} {n : Nat} {v : Value} (h : n < l.length) : (l.set n v)[n]? = some v := List.getElem?_set_self h
theorem get_setcne {l : List Value} {n m : Nat} {u v : Value} (h : n ≠ m) (h2 : l[m]? = some u) : (l.set n v)[m]? = some u := by rw [List.getElem?_set_ne h]; exact h2
theorem fillA_cons {place : Nat → Option (Nat × Nat)} {cells cs : List Value} {i off size : Nat} {v : Value} {rest : List (Nat × Value)} (hp : place i = some (off, size)) (h1 : (cellsL v).all cellOk = true) (h2 : (cellsL v).length = size) (h3 : off + size ≤ cells.length)
    (h : fillA place (splice cells off (cellsL v)) rest = some cs) : fillA place cells ((i, v) :: rest) = some cs := by
  simp only [fillA, hp]
  rw [if_pos (by simp [h2, h3]; simpa using h1)]
  exact h
def readV (tmps : Array Value) : ResultVar → Sem Value
  | .tmp t => pure (tmps.getD t undef)
  | .cell a t => do loadVar t (← asAddr (tmps.getD a undef))
def RV (P : Program) (r : ResultVar) (T : List Value) (H : AHeap) (v : Value) : Prop :=
  ∀ (ρ : Ren) (w : World) (tmps : Array Value), SRel ρ H w → TRel ρ T tmps → ∃ v', (readV tmps r).run P w = .ok v' w ∧ VRel ρ v v'
theorem results_eq (fn : Func) (tmps : Array Value) : results fn tmps = (do let vs ← fn.results.mapM (readV tmps); pure (if h : vs.size = 1 then vs[0] else .tuple vs)) := by
  rfl
theorem RV.tmp {P : Program} {T : List Value} {H : AHeap} {t : Tmp} {v : Value} (hv : getT T t = v) : RV P (.tmp t) T H v := fun ρ w tmps _ ht => ⟨tmps.getD t undef, by simp [readV], hv ▸ ht.getD t⟩
theorem RV.cell {P : Program} {T : List Value} {H : AHeap} {p : Tmp} {t : TypeId} {i o : Nat} {d : TypeDesc} {n : Nat} {z : Value} {b : Nat} {cells : List Value} {es : Nat} {own : Bool} {v : Value}
    (ht : Ty P t d n z b) (hp : getT T p = .pointer (some ⟨i, o, none⟩)) (hi : H[i]? = some (.row cells es own)) (hv : (if aggD d then (if o + n ≤ cells.length then some (Value.agg ⟨(cells.drop o).take n⟩) else none) else cells[o]?) = some v) : RV P (.cell p t) T H v := fun _ρ _w _tmps hs hT =>
  run_loadVar_rel hs ht hi hv (hp ▸ hT.getD p)
theorem Res.two {P : Program} {fn : Func} {T : List Value} {H : AHeap} {r1 r2 : ResultVar} {v1 v2 : Value} (h : fn.results = #[r1, r2]) (h1 : RV P r1 T H v1) (h2 : RV P r2 T H v2) : Res P fn T H (.tuple #[v1, v2]) := fun ρ w tmps hs hT => by
  obtain ⟨u1, e1, q1⟩ := h1 ρ w tmps hs hT
  obtain ⟨u2, e2, q2⟩ := h2 ρ w tmps hs hT
  refine ⟨.tuple #[u1, u2], ?_, .tuple rfl fun j k1 k2 => by
    match j, k1 with
    | 0, _ => exact q1
    | 1, _ => exact q2⟩
  rw [results_eq, h]
  simp [Sem.run_bind, e1, e2]
theorem RV.cellN {P : Program} {T : List Value} {H : AHeap} {p : Tmp} {t : TypeId} {i o : Nat} {d : TypeDesc} {n : Nat} {z : Value} {b : Nat} {cells cs : List Value} {es : Nat} {own : Bool} [ht : TyC P t d n z b] (hd : aggD d = true)
    (hp : getT T p = .pointer (some ⟨i, o, none⟩)) (hi : H[i]? = some (.row cells es own)) (hn : o + n ≤ cells.length) (hc : (cells.drop o).take n = cs) : RV P (.cell p t) T H (.agg ⟨cs⟩) := RV.cell ht.ty hp hi (by rw [hd, ← hc]; simp [hn])
theorem RV.cell1 {P : Program} {T : List Value} {H : AHeap} {p : Tmp} {t : TypeId} {i o : Nat} {d : TypeDesc} {n : Nat} {z : Value} {b : Nat} {cells : List Value} {v : Value} {es : Nat} {own : Bool} [ht : TyC P t d n z b] (hd : aggD d = false)
    (hp : getT T p = .pointer (some ⟨i, o, none⟩)) (hi : H[i]? = some (.row cells es own)) (hc : cells[o]? = some v) : RV P (.cell p t) T H v := RV.cell ht.ty hp hi (by rw [hd]; simp [hc])
theorem rep_get {α : Type} (c : List α) : ∀ (k j : Nat) (h : j < (List.replicate k c).flatten.length), ∃ h2 : j % c.length < c.length, (List.replicate k c).flatten[j] = c[j % c.length]
  | 0, j, h => by simp at h
  | k + 1, j, h => by
    simp only [List.replicate_succ, List.flatten_cons] at h ⊢
    have hc : 0 < c.length := by
      rcases Nat.eq_zero_or_pos c.length with h0 | h0
      · have : c = [] := List.length_eq_zero_iff.1 h0
        subst this; simp at h
      · exact h0
    refine ⟨Nat.mod_lt _ hc, ?_⟩
    by_cases hj : j < c.length
    · rw [List.getElem_append_left hj]
      simp only [Nat.mod_eq_of_lt hj]
    · rw [List.getElem_append_right (by omega)]
      obtain ⟨h2, h3⟩ := rep_get c k (j - c.length) (by simp at h ⊢; omega)
      rw [h3]
      have : (j - c.length) % c.length = j % c.length := by
        have e : j = (j - c.length) + c.length := by omega
        rw [e, Nat.add_mod_right]; simp
      simp only [this]
/-- make: elements of some cells -/
theorem st_makeN {γ : Type} {P : Program} {E : Env γ} {T : List Value} {H : AHeap} {g : γ} {R : List Value → AHeap → γ → Prop} {ops : Array Oper} {dst : Option Tmp} {ty : TypeId} {ps : String} {af : Array Edge} {rest : List Oper} {t : TypeId} {l c : Operand} {e : TypeId} {n : Nat} {z : Value} {b : Nat} {d' : TypeDesc} {n' : Nat} {z' : Value} {b' : Nat} {k k' : IntKind} {jl jc : Int} [ht : TyC P t (.slice e) n z b] [he : TyC P e d' n' z' b'] (hz' : (cellsL z').length = n')
    (hl : evalT T l = .int k jl) (hc : evalT T c = .int k' jc) (h0 : 0 ≤ jl ∧ jl ≤ jc ∧ (b' : Int) * jc ≤ 281474976710656 ∧ jc ≤ 9223372036854775807)
    (kk : OpsJ P E ops R rest (putT T dst (.slice (some ⟨H.length, 0, none⟩) jl.toNat jl.toNat)) (H ++ [.row (List.replicate jl.toNat ((cellsL z').map constT)).flatten n' true]) g) : OpsJ P E ops R (⟨dst, .makeSlice t l c, ty, ps, af, none⟩ :: rest) T H g :=
  OpsJ.step (runs_makeSlice ht.ty he.ty hz' hl hc h0.1 h0.2.1 h0.2.2.1 h0.2.2.2 (by simp [hz']) (fun j h => by
    obtain ⟨h2, h3⟩ := rep_get ((cellsL z').map constT) jl.toNat j h
    rw [h3]
    simp only [List.length_map, hz'] at h2 ⊢
    rw [List.getElem_map]
    congr 1
    rw [List.getD_eq_getElem?_getD, List.getElem?_eq_getElem (by omega)]; rfl)) rfl kk

structure Hold (A : Prop) : Prop where
  out : A
structure Hold2 (p B : Prop) : Prop where
  out : p → B
theorem tf (h : true = false) : False := Bool.noConfusion h
theorem ft (h : false = true) : False := Bool.noConfusion h
theorem tf2 {c : Bool} (h : c = true) (h2 : c = false) : False := tf (h.symm.trans h2)
theorem ft2 {c : Bool} (h : c = false) (h2 : c = true) : False := ft (h.symm.trans h2)
def opTag : Op → Nat
  | .move _ => 0
  | .assign _ => 1
  | .fieldAddr _ _ _ => 2
  | .load _ _ => 3
  | .binOp .add _ _ _ _ => 4
  | .binOp .sub _ _ _ _ => 5
  | .binOp .mul _ _ _ _ => 6
  | .binOp .quo _ _ _ _ => 7
  | .binOp .rem _ _ _ _ => 8
  | .binOp .shl _ _ _ _ => 9
  | .binOp .shr _ _ _ _ => 10
  | .binOp _ _ _ _ _ => 11
  | .call _ => 12
  | .extract _ _ => 13
  | .store _ _ _ => 14
  | .indexAddr _ _ _ => 15
  | .pick _ _ _ => 16
  | .box _ _ => 17
  | .alloc _ => 18
  | .field _ _ _ => 19
  | .index _ _ _ => 20
  | .nilCheck _ => 21
  | .unOp _ _ _ => 22
  | .convert _ _ _ => 23
  | .makeFunc _ _ _ => 24
  | .makeSlice _ _ _ => 25
  | .slice _ _ _ _ _ => 26
  | .build _ _ => 27
  | .buildSlice _ _ _ => 28
  | _ => 29
def codeTag : Code → Nat
  | .seq _ _ => 0
  | .region _ _ _ => 1
  | .ret => 2
  | .block _ _ => 3
  | .cond _ _ _ => 4
  | .skip => 5
  | .exit _ => 6
  | .label _ => 7
  | _ => 8
section
variable {γ : Type} {P : Program} {E : Env γ}
theorem roundQ_n {I' : AHeap → γ → Prop} {Ix : Code → AHeap → γ → Prop} {T : List Value} {H : AHeap} {g : γ} (h : I' H g) : roundQ I' Ix .normal T H g := h
theorem roundQ_ret {I' : AHeap → γ → Prop} {Ix : Code → AHeap → γ → Prop} {T : List Value} {H : AHeap} {g : γ} (h : Ix .ret H g) : roundQ I' Ix .ret T H g := h
theorem roundQ_exit {I' : AHeap → γ → Prop} {Ix : Code → AHeap → γ → Prop} {T : List Value} {H : AHeap} {g : γ} {id : Nat} (h : Ix (.exit id) H g) : roundQ I' Ix (.exit id) T H g := h
theorem tag_le (n : Nat) {T : List Value} {H : AHeap} {g : γ} {R : List Value → AHeap → γ → Prop} {ops : Array Oper} {dst : Option Tmp} {ty : TypeId} {ps : String} {af : Array Edge} {rest : List Oper} {op : Op} (_h : Nat.ble (opTag op) n = true) (k : OpsJ P E ops R (⟨dst, op, ty, ps, af, none⟩ :: rest) T H g) : OpsJ P E ops R (⟨dst, op, ty, ps, af, none⟩ :: rest) T H g := k
theorem mtag_le (n : Nat) {T : List Value} {H : AHeap} {R : List Value → AHeap → Prop} {mm : Nat} {ops : Array Oper} {dst : Option Tmp} {ty : TypeId} {ps : String} {af : Array Edge} {rest : List Oper} {op : Op} (_h : Nat.ble (opTag op) n = true) (k : MonoJ P ops R mm (⟨dst, op, ty, ps, af, none⟩ :: rest) T H) : MonoJ P ops R mm (⟨dst, op, ty, ps, af, none⟩ :: rest) T H := k
theorem ctag_le (n : Nat) {T : List Value} {H : AHeap} {g : γ} {c : Code} {Q : Exit → List Value → AHeap → γ → Prop} (_h : Nat.ble (codeTag c) n = true) (k : WPJ P E c Q T H g) : WPJ P E c Q T H g := k
theorem is_ung {T : List Value} {H : AHeap} {g : γ} {R : List Value → AHeap → γ → Prop} {ops : Array Oper} {dst : Option Tmp} {ty : TypeId} {ps : String} {af : Array Edge} {rest : List Oper} {op : Op} (h : OpsJ P E ops R (⟨dst, op, ty, ps, af, none⟩ :: rest) T H g) : OpsJ P E ops R (⟨dst, op, ty, ps, af, none⟩ :: rest) T H g := h
theorem is_mung {T : List Value} {H : AHeap} {R : List Value → AHeap → Prop} {mm : Nat} {ops : Array Oper} {dst : Option Tmp} {ty : TypeId} {ps : String} {af : Array Edge} {rest : List Oper} {op : Op} (h : MonoJ P ops R mm (⟨dst, op, ty, ps, af, none⟩ :: rest) T H) : MonoJ P ops R mm (⟨dst, op, ty, ps, af, none⟩ :: rest) T H := h
theorem is_ucall {T : List Value} {H : AHeap} {g : γ} {R : List Value → AHeap → γ → Prop} {ops : Array Oper} {dst : Option Tmp} {ty : TypeId} {ps : String} {af : Array Edge} {rest : List Oper} {x : Operand} {xs : Array Operand} {at_ : Array TypeId} (h : OpsJ P E ops R (⟨dst, .call { callee := .value x, args := xs, argTypes := at_ }, ty, ps, af, none⟩ :: rest) T H g) : OpsJ P E ops R (⟨dst, .call { callee := .value x, args := xs, argTypes := at_ }, ty, ps, af, none⟩ :: rest) T H g := h
theorem is_umcall {T : List Value} {H : AHeap} {R : List Value → AHeap → Prop} {mm : Nat} {ops : Array Oper} {dst : Option Tmp} {ty : TypeId} {ps : String} {af : Array Edge} {rest : List Oper} {x : Operand} {xs : Array Operand} {at_ : Array TypeId} (h : MonoJ P ops R mm (⟨dst, .call { callee := .value x, args := xs, argTypes := at_ }, ty, ps, af, none⟩ :: rest) T H) : MonoJ P ops R mm (⟨dst, .call { callee := .value x, args := xs, argTypes := at_ }, ty, ps, af, none⟩ :: rest) T H := h
theorem st_store1 {T : List Value} {H : AHeap} {g : γ} {R : List Value → AHeap → γ → Prop} {ops : Array Oper} {dst : Option Tmp} {ty : TypeId} {ps : String} {af : Array Edge} {rest : List Oper} {t : TypeId} {x y : Operand} {i o : Nat} {d : TypeDesc} {z : Value} {b : Nat} {cells : List Value} {es : Nat} {v : Value} [ht : TyC P t d 1 z b] (hx : evalT T x = .pointer (some ⟨i, o, none⟩)) (hy : evalT T y = v)
    (hc : cellsL v = [v]) (hok : cellOk v = true) (hi : H[i]? = some (.row cells es true)) (ho : o + 1 ≤ cells.length) (k : OpsJ P E ops R rest (putT T dst undef) (H.set i (.row (cells.set o v) es true)) g) : OpsJ P E ops R (⟨dst, .store t x y, ty, ps, af, none⟩ :: rest) T H g := by
  refine st_store hx hy (by rw [hc]; simp [hok]) (by rw [hc]; rfl) hi ho ?_
  have e : splice cells o (cellsL v) = cells.set o v := by
    rw [hc, List.set_eq_take_append_cons_drop, if_pos (by omega)]
    simp [splice]
  rw [e]; exact k
theorem st_storeA {T : List Value} {H : AHeap} {g : γ} {R : List Value → AHeap → γ → Prop} {ops : Array Oper} {dst : Option Tmp} {ty : TypeId} {ps : String} {af : Array Edge} {rest : List Oper} {t : TypeId} {x y : Operand} {i n : Nat} {d : TypeDesc} {z : Value} {b : Nat} {cells : List Value} {es : Nat} {v : Value} [ht : TyC P t d n z b] (hx : evalT T x = .pointer (some ⟨i, 0, none⟩)) (hy : evalT T y = v)
    (hn : (cellsL v).length = n) (hok : (cellsL v).all cellOk = true) (hi : H[i]? = some (.row cells es true)) (hf : cells.length = n) (k : OpsJ P E ops R rest (putT T dst undef) (H.set i (.row (cellsL v) es true)) g) : OpsJ P E ops R (⟨dst, .store t x y, ty, ps, af, none⟩ :: rest) T H g := by
  refine st_store hx hy hok hn hi (by omega) ?_
  have e : splice cells 0 (cellsL v) = cellsL v := by
    simp [splice, hn, hf]
  rw [e]; exact k
theorem Res.cellN {fn : Func} {T : List Value} {H : AHeap} {p : Tmp} {t : TypeId} {i o : Nat} {d : TypeDesc} {n : Nat} {z : Value} {b : Nat} {cells cs : List Value} {es : Nat} {own : Bool} [ht : TyC P t d n z b] (h : fn.results = #[.cell p t]) (hd : aggD d = true)
    (hp : getT T p = .pointer (some ⟨i, o, none⟩)) (hi : H[i]? = some (.row cells es own)) (hn : o + n ≤ cells.length) (hc : (cells.drop o).take n = cs) : Res P fn T H (.agg ⟨cs⟩) := Res.cell h ht.ty hp hi (by rw [hd, ← hc]; simp [hn])
theorem Res.cell1 {fn : Func} {T : List Value} {H : AHeap} {p : Tmp} {t : TypeId} {i o : Nat} {d : TypeDesc} {n : Nat} {z : Value} {b : Nat} {cells : List Value} {v : Value} {es : Nat} {own : Bool} [ht : TyC P t d n z b] (h : fn.results = #[.cell p t]) (hd : aggD d = false)
    (hp : getT T p = .pointer (some ⟨i, o, none⟩)) (hi : H[i]? = some (.row cells es own)) (hc : cells[o]? = some v) : Res P fn T H v := Res.cell h ht.ty hp hi (by rw [hd]; simp [hc])
/-- a call that leaves nothing -/
theorem st_callP {T : List Value} {H : AHeap} {g : γ} {R : List Value → AHeap → γ → Prop} {ops : Array Oper} {dst : Option Tmp} {ty : TypeId} {ps : String} {af : Array Edge} {rest : List Oper} {f : FuncId} {xs : Array Operand} {at_ : Array TypeId} {args : List Value} {X : Value} [he : EntC P f] (ha : evalL T xs.toList = args := by first | rfl | (simp only [evalL, evalT, getT, constT]; rfl))
    (h : CallJ P E f args (fun v H' g' => v = X ∧ H' = H ∧ g' = g) H g) (k : OpsJ P E ops R rest (putT T dst X) H g) : OpsJ P E ops R (⟨dst, .call { callee := .value (.func f), args := xs, argTypes := at_ }, ty, ps, af, none⟩ :: rest) T H g :=
  st_call ha h (by rintro _ _ _ ⟨rfl, rfl, rfl⟩; exact k)
theorem st_callVP {T : List Value} {H : AHeap} {g : γ} {R : List Value → AHeap → γ → Prop} {ops : Array Oper} {dst : Option Tmp} {ty : TypeId} {ps : String} {af : Array Edge} {rest : List Oper} {x : Operand} {xs : Array Operand} {at_ : Array TypeId} {fv : Value} {args : List Value} {X : Value} (hx : evalT T x = fv := by first | rfl | (simp only [evalL, evalT, getT, constT]; rfl)) (ha : evalL T xs.toList = args := by first | rfl | (simp only [evalL, evalT, getT, constT]; rfl))
    (h : CallV P E fv args (fun v H' g' => v = X ∧ H' = H ∧ g' = g) H g) (k : OpsJ P E ops R rest (putT T dst X) H g) : OpsJ P E ops R (⟨dst, .call { callee := .value x, args := xs, argTypes := at_ }, ty, ps, af, none⟩ :: rest) T H g :=
  st_callV hx ha h (by rintro _ _ _ ⟨rfl, rfl, rfl⟩; exact k)
theorem mj_callP {T : List Value} {H : AHeap} {R : List Value → AHeap → Prop} {mm : Nat} {ops : Array Oper} {dst : Option Tmp} {ty : TypeId} {ps : String} {af : Array Edge} {rest : List Oper} {f : FuncId} {xs : Array Operand} {at_ : Array TypeId} {args : List Value} {X : Value} [he : EntC P f] (ha : evalL T xs.toList = args := by first | rfl | (simp only [evalL, evalT, getT, constT]; rfl))
    (h : CallJ P trivE f args (fun v H' g' => v = X ∧ H' = H ∧ g' = ()) H ()) (k : MonoJ P ops R mm rest (putT T dst X) H) : MonoJ P ops R (mm + 1) (⟨dst, .call { callee := .value (.func f), args := xs, argTypes := at_ }, ty, ps, af, none⟩ :: rest) T H :=
  mj_call X [] ha h (fun _ _ _ h => ⟨h.1, by rw [h.2.1, List.append_nil]⟩) rfl (by rw [List.append_nil]; exact k)

class IsU (A : Prop) : Prop where
  t : True
class IsW (A : Prop) : Prop where
  t : True
class IsO (A : Prop) : Prop where
  t : True
class IsM (A : Prop) : Prop where
  t : True
class IsE (A : Prop) : Prop where
  t : True
class IsX (A : Prop) : Prop where
  t : True
class IsT (A : Prop) : Prop where
  t : True
instance isE1 {T : List Value} {H : AHeap} {g : γ} {R : List Value → AHeap → γ → Prop} {ops : Array Oper} : IsE (OpsJ P E ops R [] T H g) := ⟨trivial⟩
instance isE2 {next : List Value → AHeap → γ → Prop} {Q : Exit → List Value → AHeap → γ → Prop} {e : Exit} {T : List Value} {H : AHeap} {g : γ} : IsE (thenQ next Q e T H g) := ⟨trivial⟩
instance isE3 {id : Nat} {Q : Exit → List Value → AHeap → γ → Prop} {e : Exit} {T : List Value} {H : AHeap} {g : γ} : IsE (blockQ id Q e T H g) := ⟨trivial⟩
instance isE4 {I' : AHeap → γ → Prop} {Ix : Code → AHeap → γ → Prop} {e : Exit} {T : List Value} {H : AHeap} {g : γ} : IsE (roundQ I' Ix e T H g) := ⟨trivial⟩
instance isX1 {fn : Func} {K : Value → AHeap → γ → Prop} {e : Exit} {T : List Value} {H : AHeap} {g : γ} : IsX (exitQ P fn K e T H g) := ⟨trivial⟩
instance isT1 {H H' : AHeap} {K : Value → AHeap → γ → Prop} {v : Value} {g : γ} : IsT (Tidy H K v H' g) := ⟨trivial⟩
instance isU {T : List Value} {H : AHeap} {g : γ} {R : List Value → AHeap → γ → Prop} {ops : Array Oper} {dst : Option Tmp} {ty : TypeId} {ps : String} {af : Array Edge} {rest : List Oper} {op : Op} : IsU (OpsJ P E ops R (⟨dst, op, ty, ps, af, none⟩ :: rest) T H g) := ⟨trivial⟩
instance isO {T : List Value} {H : AHeap} {g : γ} {R : List Value → AHeap → γ → Prop} {ops : Array Oper} {l : List Oper} : IsO (OpsJ P E ops R l T H g) := ⟨trivial⟩
instance isM {T : List Value} {H : AHeap} {R : List Value → AHeap → Prop} {ops : Array Oper} {mm : Nat} {l : List Oper} : IsM (MonoJ P ops R mm l T H) := ⟨trivial⟩
instance isW {T : List Value} {H : AHeap} {g : γ} {c : Code} {Q : Exit → List Value → AHeap → γ → Prop} : IsW (WPJ P E c Q T H g) := ⟨trivial⟩

/-- what the walk finds again and again -/
theorem NSo {p : Prop} (h : p := by first | (simp only [putT, List.set_cons_zero, List.set_cons_succ, evalT, getT, constT, cellsL, splice, List.take_zero, List.take_succ_cons, List.drop_zero, List.drop_succ_cons, List.take_nil, List.drop_nil, List.nil_append, List.cons_append, List.append_nil, List.append_assoc, List.length_cons, List.length_nil, List.map_cons, List.map_nil, Nat.zero_add, Nat.add_zero, Nat.reduceAdd, Nat.reduceMul, Nat.reduceSub, List.replicate_succ, List.replicate_zero, set_new, set_new0, evalL, Int.reduceToNat, Nat.reduceLT, cond_true, cond_false, List.length_append, List.length_map, List.length_set, Int.toNat_natCast]; omega) | fail) : p := h
theorem NSr {p : Prop} (h : p := by first | (simp only [putT, List.set_cons_zero, List.set_cons_succ, evalT, getT, constT, cellsL, splice, List.take_zero, List.take_succ_cons, List.drop_zero, List.drop_succ_cons, List.take_nil, List.drop_nil, List.nil_append, List.cons_append, List.append_nil, List.append_assoc, List.length_cons, List.length_nil, List.map_cons, List.map_nil, Nat.zero_add, Nat.add_zero, Nat.reduceAdd, Nat.reduceMul, Nat.reduceSub, List.replicate_succ, List.replicate_zero, set_new, set_new0, evalL, Int.reduceToNat, Nat.reduceLT, cond_true, cond_false, List.length_append, List.length_map, List.length_set, Int.toNat_natCast]; rfl) | fail) : p := h
theorem NSa {p : Prop} (h : p := by first | (simp only [putT, List.set_cons_zero, List.set_cons_succ, evalT, getT, constT, cellsL, splice, List.take_zero, List.take_succ_cons, List.drop_zero, List.drop_succ_cons, List.take_nil, List.drop_nil, List.nil_append, List.cons_append, List.append_nil, List.append_assoc, List.length_cons, List.length_nil, List.map_cons, List.map_nil, Nat.zero_add, Nat.add_zero, Nat.reduceAdd, Nat.reduceMul, Nat.reduceSub, List.replicate_succ, List.replicate_zero, set_new, set_new0, evalL, Int.reduceToNat, Nat.reduceLT, cond_true, cond_false, List.length_append, List.length_map, List.length_set, Int.toNat_natCast]; assumption) | fail) : p := h
theorem NSd {p : Prop} (h : p := by first | (simp only [putT, List.set_cons_zero, List.set_cons_succ, evalT, getT, constT, cellsL, splice, List.take_zero, List.take_succ_cons, List.drop_zero, List.drop_succ_cons, List.take_nil, List.drop_nil, List.nil_append, List.cons_append, List.append_nil, List.append_assoc, List.length_cons, List.length_nil, List.map_cons, List.map_nil, Nat.zero_add, Nat.add_zero, Nat.reduceAdd, Nat.reduceMul, Nat.reduceSub, List.replicate_succ, List.replicate_zero, set_new, set_new0, evalL, Int.reduceToNat, Nat.reduceLT, cond_true, cond_false, List.length_append, List.length_map, List.length_set, Int.toNat_natCast]; done) | fail) : p := h
theorem getA {l : AHeap} {n : Nat} {o : AObj} (h : l[n]? = some o := by first | ((repeat' (first | exact get_new0 rfl | exact get_new rfl | assumption | refine get_set (o' := ?_) ?_ | refine get_setne (by omega) ?_ | refine get_old ?_ | fail)); done) | fail) : l[n]? = some o := h
theorem extA {H H' : AHeap} (h : Ext H H' := by first | ((repeat' (first | assumption | with_reducible exact Ext.refl _ | refine Ext.set ?_ (by omega) _ | refine Ext.app ?_ _ | fail)); done) | fail) : Ext H H' := h
/-- one operation -/
theorem W1 {A B : Prop} [IsU B] (a : A) (h : Hold A → B := by
    intro k
    first
    | (refine is_ung ?_; refine OpsJ.norm (by first | (simp only [putT, List.set_cons_succ, List.set_cons_zero, evalT, getT, constT, cond_true, cond_false, Bool.not_true, Bool.not_false, List.length_map, evalL, List.toList_toArray]; rfl) | rfl) rfl ?_; (first | (refine tag_le 14 rfl ?_; (first | (refine tag_le 7 rfl ?_; (first | (refine tag_le 3 rfl ?_; (first | (refine tag_le 1 rfl ?_; (first | (refine tag_le 0 rfl ?_; (exact st_move k.out)) | (exact st_assign k.out))) | (first | (refine tag_le 2 rfl ?_; (exact st_fieldAddr rfl k.out)) | (first | exact st_load1 rfl rfl getA (by first | rfl | assumption | exact get_setc (by first | omega | (simp [*]; omega)) | exact get_setcne (by omega) (by assumption) | exact get_piece0 (by assumption) rfl | exact get_piece (by assumption) rfl | exact NSa | exact NSr | (simp [*]; done)) k.out | exact st_loadN rfl rfl getA (by first | decide | omega | exact NSo | (simp [*]; omega) | (simp [*]; done)) (by first | assumption | exact NSa | exact NSr | rfl) k.out)))) | (first | (refine tag_le 5 rfl ?_; (first | (refine tag_le 4 rfl ?_; (exact st_add rfl rfl (by first | omega | exact NSo | (simp [*]; omega)) k.out)) | (exact st_sub rfl rfl (by first | omega | exact NSo | (simp [*]; omega)) k.out))) | (first | (refine tag_le 6 rfl ?_; (exact st_mul rfl rfl (by first | omega | exact NSo | (simp [*]; omega)) k.out)) | (first | exact st_quo0 rfl rfl (by first | omega | exact NSo | (simp [*]; omega)) k.out | exact st_quo rfl rfl (by first | omega | exact NSo | (simp [*]; omega)) k.out))))) | (first | (refine tag_le 11 rfl ?_; (first | (refine tag_le 9 rfl ?_; (first | (refine tag_le 8 rfl ?_; (first | exact st_rem0 rfl rfl (by first | omega | exact NSo | (simp [*]; omega)) k.out | exact st_rem rfl rfl (by first | omega | exact NSo | (simp [*]; omega)) k.out)) | (exact st_shl rfl rfl (by first | omega | exact NSo | (simp [*]; omega)) k.out))) | (first | (refine tag_le 10 rfl ?_; (exact st_shr rfl rfl (by first | omega | exact NSo | (simp [*]; omega)) k.out)) | (first | exact st_int rfl rfl rfl k.out | exact st_eqBool rfl rfl k.out | exact st_neBool rfl rfl k.out | exact st_bits rfl rfl rfl k.out)))) | (first | (refine tag_le 13 rfl ?_; (first | (refine tag_le 12 rfl ?_; (first | exact st_len rfl k.out | exact st_lenR rfl (by assumption) k.out | exact st_max rfl rfl k.out | exact st_min rfl rfl k.out)) | (exact st_extract rfl rfl k.out))) | (first | (refine st_store1 rfl rfl rfl (by first | rfl | assumption | (simp [*]; done)) getA (by first | decide | omega | exact NSo | (simp [*]; omega) | (simp [*]; done)) ?_; refine OpsJ.normA ?_; exact k.out) | (refine st_storeA rfl rfl (by first | rfl | assumption | exact NSa | exact NSd | (simp [*]; done)) (by first | rfl | assumption | exact NSa | (simp [*]; done)) getA (by first | rfl | assumption | exact NSa | exact NSd | (simp [*]; done)) ?_; refine OpsJ.normA ?_; exact k.out) | (refine st_store rfl rfl (by first | rfl | assumption | exact NSa | (simp [*]; done)) (by first | rfl | assumption | exact NSa | exact NSd | (simp [*]; done)) getA (by first | decide | omega | exact NSo | (simp [*]; omega) | (simp [*]; done)) ?_; refine OpsJ.normA ?_; exact k.out)))))) | (first | (refine tag_le 21 rfl ?_; (first | (refine tag_le 18 rfl ?_; (first | (refine tag_le 16 rfl ?_; (first | (refine tag_le 15 rfl ?_; (first | exact st_indexR rfl rfl (by assumption) extA (by first | omega | exact NSo | (simp [*]; omega)) (by assumption) k.out | exact st_indexS rfl rfl (by first | omega | exact NSo | (simp [*]; omega)) k.out | exact st_indexA rfl rfl (by first | omega | exact NSo | (simp [*]; omega)) k.out)) | (exact st_pick rfl k.out))) | (first | (refine tag_le 17 rfl ?_; ((refine st_box rfl (by first | rfl | assumption | exact NSa | (simp [*]; done)) ?_; refine OpsJ.normA ?_; exact k.out))) | ((refine st_alloc ?_; refine OpsJ.normA ?_; exact k.out))))) | (first | (refine tag_le 20 rfl ?_; (first | (refine tag_le 19 rfl ?_; (exact st_field rfl rfl k.out)) | (exact st_idxA rfl rfl (by first | omega | exact NSo | (simp [*]; omega)) rfl k.out))) | (exact st_nilCheck rfl k.out)))) | (first | (refine tag_le 25 rfl ?_; (first | (refine tag_le 23 rfl ?_; (first | (refine tag_le 22 rfl ?_; (first | exact st_not rfl k.out | exact st_neg rfl k.out)) | (exact st_conv rfl k.out))) | (first | (refine tag_le 24 rfl ?_; (exact st_makeFunc k.out)) | (first | (refine st_make1 rfl rfl rfl (by first | omega | exact NSo | (simp [*]; omega)) ?_; refine OpsJ.normA ?_; exact k.out) | (refine st_makeN (by rfl) rfl rfl (by first | omega | exact NSo | (simp [*]; omega)) ?_; refine OpsJ.normA ?_; exact k.out))))) | (first | (refine tag_le 27 rfl ?_; (first | (refine tag_le 26 rfl ?_; (exact st_sliceTo rfl rfl (by first | omega | exact NSo | (simp [*]; omega)) k.out)) | (first | exact st_buildS (by first | rfl | exact (fillA_cons rfl (by first | rfl | assumption | exact NSa | (simp [*]; done)) rfl (by first | exact Nat.le_of_ble_eq_true rfl | (simp [splice, cellsL]; done) | (simp [splice, cellsL]; omega)) rfl) | exact (fillA_cons rfl (by first | rfl | assumption | exact NSa | (simp [*]; done)) rfl (by first | exact Nat.le_of_ble_eq_true rfl | (simp [splice, cellsL]; done) | (simp [splice, cellsL]; omega)) (fillA_cons rfl (by first | rfl | assumption | exact NSa | (simp [*]; done)) rfl (by first | exact Nat.le_of_ble_eq_true rfl | (simp [splice, cellsL]; done) | (simp [splice, cellsL]; omega)) rfl)) | exact (fillA_cons rfl (by first | rfl | assumption | exact NSa | (simp [*]; done)) rfl (by first | exact Nat.le_of_ble_eq_true rfl | (simp [splice, cellsL]; done) | (simp [splice, cellsL]; omega)) (fillA_cons rfl (by first | rfl | assumption | exact NSa | (simp [*]; done)) rfl (by first | exact Nat.le_of_ble_eq_true rfl | (simp [splice, cellsL]; done) | (simp [splice, cellsL]; omega)) (fillA_cons rfl (by first | rfl | assumption | exact NSa | (simp [*]; done)) rfl (by first | exact Nat.le_of_ble_eq_true rfl | (simp [splice, cellsL]; done) | (simp [splice, cellsL]; omega)) rfl))) | exact (fillA_cons rfl (by first | rfl | assumption | exact NSa | (simp [*]; done)) rfl (by first | exact Nat.le_of_ble_eq_true rfl | (simp [splice, cellsL]; done) | (simp [splice, cellsL]; omega)) (fillA_cons rfl (by first | rfl | assumption | exact NSa | (simp [*]; done)) rfl (by first | exact Nat.le_of_ble_eq_true rfl | (simp [splice, cellsL]; done) | (simp [splice, cellsL]; omega)) (fillA_cons rfl (by first | rfl | assumption | exact NSa | (simp [*]; done)) rfl (by first | exact Nat.le_of_ble_eq_true rfl | (simp [splice, cellsL]; done) | (simp [splice, cellsL]; omega)) (fillA_cons rfl (by first | rfl | assumption | exact NSa | (simp [*]; done)) rfl (by first | exact Nat.le_of_ble_eq_true rfl | (simp [splice, cellsL]; done) | (simp [splice, cellsL]; omega)) rfl)))) | exact (fillA_cons rfl (by first | rfl | assumption | exact NSa | (simp [*]; done)) rfl (by first | exact Nat.le_of_ble_eq_true rfl | (simp [splice, cellsL]; done) | (simp [splice, cellsL]; omega)) (fillA_cons rfl (by first | rfl | assumption | exact NSa | (simp [*]; done)) rfl (by first | exact Nat.le_of_ble_eq_true rfl | (simp [splice, cellsL]; done) | (simp [splice, cellsL]; omega)) (fillA_cons rfl (by first | rfl | assumption | exact NSa | (simp [*]; done)) rfl (by first | exact Nat.le_of_ble_eq_true rfl | (simp [splice, cellsL]; done) | (simp [splice, cellsL]; omega)) (fillA_cons rfl (by first | rfl | assumption | exact NSa | (simp [*]; done)) rfl (by first | exact Nat.le_of_ble_eq_true rfl | (simp [splice, cellsL]; done) | (simp [splice, cellsL]; omega)) (fillA_cons rfl (by first | rfl | assumption | exact NSa | (simp [*]; done)) rfl (by first | exact Nat.le_of_ble_eq_true rfl | (simp [splice, cellsL]; done) | (simp [splice, cellsL]; omega)) rfl)))))) k.out | exact st_buildA (by first | rfl | exact (fillA_cons rfl (by first | rfl | assumption | exact NSa | (simp [*]; done)) rfl (by first | exact Nat.le_of_ble_eq_true rfl | (simp [splice, cellsL]; done) | (simp [splice, cellsL]; omega)) rfl) | exact (fillA_cons rfl (by first | rfl | assumption | exact NSa | (simp [*]; done)) rfl (by first | exact Nat.le_of_ble_eq_true rfl | (simp [splice, cellsL]; done) | (simp [splice, cellsL]; omega)) (fillA_cons rfl (by first | rfl | assumption | exact NSa | (simp [*]; done)) rfl (by first | exact Nat.le_of_ble_eq_true rfl | (simp [splice, cellsL]; done) | (simp [splice, cellsL]; omega)) rfl)) | exact (fillA_cons rfl (by first | rfl | assumption | exact NSa | (simp [*]; done)) rfl (by first | exact Nat.le_of_ble_eq_true rfl | (simp [splice, cellsL]; done) | (simp [splice, cellsL]; omega)) (fillA_cons rfl (by first | rfl | assumption | exact NSa | (simp [*]; done)) rfl (by first | exact Nat.le_of_ble_eq_true rfl | (simp [splice, cellsL]; done) | (simp [splice, cellsL]; omega)) (fillA_cons rfl (by first | rfl | assumption | exact NSa | (simp [*]; done)) rfl (by first | exact Nat.le_of_ble_eq_true rfl | (simp [splice, cellsL]; done) | (simp [splice, cellsL]; omega)) rfl))) | exact (fillA_cons rfl (by first | rfl | assumption | exact NSa | (simp [*]; done)) rfl (by first | exact Nat.le_of_ble_eq_true rfl | (simp [splice, cellsL]; done) | (simp [splice, cellsL]; omega)) (fillA_cons rfl (by first | rfl | assumption | exact NSa | (simp [*]; done)) rfl (by first | exact Nat.le_of_ble_eq_true rfl | (simp [splice, cellsL]; done) | (simp [splice, cellsL]; omega)) (fillA_cons rfl (by first | rfl | assumption | exact NSa | (simp [*]; done)) rfl (by first | exact Nat.le_of_ble_eq_true rfl | (simp [splice, cellsL]; done) | (simp [splice, cellsL]; omega)) (fillA_cons rfl (by first | rfl | assumption | exact NSa | (simp [*]; done)) rfl (by first | exact Nat.le_of_ble_eq_true rfl | (simp [splice, cellsL]; done) | (simp [splice, cellsL]; omega)) rfl)))) | exact (fillA_cons rfl (by first | rfl | assumption | exact NSa | (simp [*]; done)) rfl (by first | exact Nat.le_of_ble_eq_true rfl | (simp [splice, cellsL]; done) | (simp [splice, cellsL]; omega)) (fillA_cons rfl (by first | rfl | assumption | exact NSa | (simp [*]; done)) rfl (by first | exact Nat.le_of_ble_eq_true rfl | (simp [splice, cellsL]; done) | (simp [splice, cellsL]; omega)) (fillA_cons rfl (by first | rfl | assumption | exact NSa | (simp [*]; done)) rfl (by first | exact Nat.le_of_ble_eq_true rfl | (simp [splice, cellsL]; done) | (simp [splice, cellsL]; omega)) (fillA_cons rfl (by first | rfl | assumption | exact NSa | (simp [*]; done)) rfl (by first | exact Nat.le_of_ble_eq_true rfl | (simp [splice, cellsL]; done) | (simp [splice, cellsL]; omega)) (fillA_cons rfl (by first | rfl | assumption | exact NSa | (simp [*]; done)) rfl (by first | exact Nat.le_of_ble_eq_true rfl | (simp [splice, cellsL]; done) | (simp [splice, cellsL]; omega)) rfl)))))) k.out))) | ((refine st_buildSlice (by decide) (by first | rfl | exact (fillA_cons rfl (by first | rfl | assumption | exact NSa | (simp [*]; done)) rfl (by first | exact Nat.le_of_ble_eq_true rfl | (simp [splice, cellsL]; done) | (simp [splice, cellsL]; omega)) rfl) | exact (fillA_cons rfl (by first | rfl | assumption | exact NSa | (simp [*]; done)) rfl (by first | exact Nat.le_of_ble_eq_true rfl | (simp [splice, cellsL]; done) | (simp [splice, cellsL]; omega)) (fillA_cons rfl (by first | rfl | assumption | exact NSa | (simp [*]; done)) rfl (by first | exact Nat.le_of_ble_eq_true rfl | (simp [splice, cellsL]; done) | (simp [splice, cellsL]; omega)) rfl)) | exact (fillA_cons rfl (by first | rfl | assumption | exact NSa | (simp [*]; done)) rfl (by first | exact Nat.le_of_ble_eq_true rfl | (simp [splice, cellsL]; done) | (simp [splice, cellsL]; omega)) (fillA_cons rfl (by first | rfl | assumption | exact NSa | (simp [*]; done)) rfl (by first | exact Nat.le_of_ble_eq_true rfl | (simp [splice, cellsL]; done) | (simp [splice, cellsL]; omega)) (fillA_cons rfl (by first | rfl | assumption | exact NSa | (simp [*]; done)) rfl (by first | exact Nat.le_of_ble_eq_true rfl | (simp [splice, cellsL]; done) | (simp [splice, cellsL]; omega)) rfl))) | exact (fillA_cons rfl (by first | rfl | assumption | exact NSa | (simp [*]; done)) rfl (by first | exact Nat.le_of_ble_eq_true rfl | (simp [splice, cellsL]; done) | (simp [splice, cellsL]; omega)) (fillA_cons rfl (by first | rfl | assumption | exact NSa | (simp [*]; done)) rfl (by first | exact Nat.le_of_ble_eq_true rfl | (simp [splice, cellsL]; done) | (simp [splice, cellsL]; omega)) (fillA_cons rfl (by first | rfl | assumption | exact NSa | (simp [*]; done)) rfl (by first | exact Nat.le_of_ble_eq_true rfl | (simp [splice, cellsL]; done) | (simp [splice, cellsL]; omega)) (fillA_cons rfl (by first | rfl | assumption | exact NSa | (simp [*]; done)) rfl (by first | exact Nat.le_of_ble_eq_true rfl | (simp [splice, cellsL]; done) | (simp [splice, cellsL]; omega)) rfl)))) | exact (fillA_cons rfl (by first | rfl | assumption | exact NSa | (simp [*]; done)) rfl (by first | exact Nat.le_of_ble_eq_true rfl | (simp [splice, cellsL]; done) | (simp [splice, cellsL]; omega)) (fillA_cons rfl (by first | rfl | assumption | exact NSa | (simp [*]; done)) rfl (by first | exact Nat.le_of_ble_eq_true rfl | (simp [splice, cellsL]; done) | (simp [splice, cellsL]; omega)) (fillA_cons rfl (by first | rfl | assumption | exact NSa | (simp [*]; done)) rfl (by first | exact Nat.le_of_ble_eq_true rfl | (simp [splice, cellsL]; done) | (simp [splice, cellsL]; omega)) (fillA_cons rfl (by first | rfl | assumption | exact NSa | (simp [*]; done)) rfl (by first | exact Nat.le_of_ble_eq_true rfl | (simp [splice, cellsL]; done) | (simp [splice, cellsL]; omega)) (fillA_cons rfl (by first | rfl | assumption | exact NSa | (simp [*]; done)) rfl (by first | exact Nat.le_of_ble_eq_true rfl | (simp [splice, cellsL]; done) | (simp [splice, cellsL]; omega)) rfl)))))) ?_; refine OpsJ.normA ?_; exact k.out)))))))
    | fail
    ) : B := h ⟨a⟩
/-- one piece of code -/
theorem Wc {A B : Prop} [IsW B] (a : A) (h : Hold A → B := by
    intro k
    first
    | (refine is_code ?_; (first | (refine ctag_le 4 rfl ?_; (first | (refine ctag_le 2 rfl ?_; (first | (refine ctag_le 1 rfl ?_; (first | (refine ctag_le 0 rfl ?_; (exact WPJ.seq k.out)) | (exact WPJ.region k.out))) | (exact WPJ.ret k.out))) | (first | (refine ctag_le 3 rfl ?_; (exact WPJ.block k.out)) | (first | exact WPJ.cond (b := true) rfl (fun _ => k.out) (fun hb => (tf hb).elim) | exact WPJ.cond (b := false) rfl (fun hb => (ft hb).elim) (fun _ => k.out))))) | (first | (refine ctag_le 6 rfl ?_; (first | (refine ctag_le 5 rfl ?_; (exact WPJ.skip k.out)) | (exact WPJ.exit k.out))) | (first | (refine ctag_le 7 rfl ?_; (exact WPJ.label k.out)) | (fail)))))
    | fail
    ) : B := h ⟨a⟩
/-- a guarded operation -/
theorem Wg {A B : Prop} [IsO B] (a : A) (h : Hold A → B := by
    intro k
    first
    | (refine is_step ?_; refine OpsJ.norm (by first | (simp only [putT, List.set_cons_succ, List.set_cons_zero, evalT, getT, constT, cond_true, cond_false, Bool.not_true, Bool.not_false, List.length_map, evalL, List.toList_toArray]; rfl) | rfl) rfl ?_; first | exact OpsJ.on rfl k.out | exact OpsJ.off rfl rfl k.out | exact OpsJ.off' rfl k.out)
    | fail
    ) : B := h ⟨a⟩
/-- an end -/
theorem We {A B : Prop} [IsE B] (a : A) (h : Hold A → B := by
    intro k
    first
    | (refine OpsJ.norm (by first | (simp only [putT, List.set_cons_succ, List.set_cons_zero, evalT, getT, constT, cond_true, cond_false, Bool.not_true, Bool.not_false, List.length_map, evalL, List.toList_toArray]; rfl) | rfl) rfl ?_; exact OpsJ.nil k.out)
    | with_reducible exact thenQ_n k.out
    | with_reducible exact thenQ_ret k.out
    | with_reducible exact blockQ_n k.out
    | with_reducible exact blockQ_ret k.out
    | with_reducible exact thenQ_exit k.out
    | with_reducible exact roundQ_n k.out
    | with_reducible exact roundQ_ret k.out
    | with_reducible exact roundQ_exit k.out
    | with_reducible exact blockQ_exit k.out
    | exact blockQ_exit' rfl k.out
    | fail
    ) : B := h ⟨a⟩
theorem Wx {A B : Prop} [IsX B] (a : A) (h : Hold A → B := by
    intro k
    first
    | exact exitQ_ret (Res.tmp rfl (by first | (simp only [getT]; rfl) | rfl)) k.out
    | exact exitQ_n (Res.tmp rfl (by first | (simp only [getT]; rfl) | rfl)) k.out
    | exact exitQ_ret (Res.tmp2 rfl (by first | (simp only [getT]; rfl) | rfl) (by first | (simp only [getT]; rfl) | rfl)) k.out
    | exact exitQ_n (Res.tmp2 rfl (by first | (simp only [getT]; rfl) | rfl) (by first | (simp only [getT]; rfl) | rfl)) k.out
    | exact exitQ_ret (Res.tmp3 rfl (by first | (simp only [getT]; rfl) | rfl) (by first | (simp only [getT]; rfl) | rfl) (by first | (simp only [getT]; rfl) | rfl)) k.out
    | exact exitQ_n (Res.tmp3 rfl (by first | (simp only [getT]; rfl) | rfl) (by first | (simp only [getT]; rfl) | rfl) (by first | (simp only [getT]; rfl) | rfl)) k.out
    | exact exitQ_ret (Res.cellN rfl rfl (by first | (simp only [getT]; rfl) | rfl) getA (by first | decide | omega | exact NSo | (simp [*]; omega) | (simp [*]; done)) (by first | assumption | exact NSa | exact NSr | rfl)) k.out
    | exact exitQ_n (Res.cellN rfl rfl (by first | (simp only [getT]; rfl) | rfl) getA (by first | decide | omega | exact NSo | (simp [*]; omega) | (simp [*]; done)) (by first | assumption | exact NSa | exact NSr | rfl)) k.out
    | exact exitQ_ret (Res.cell1 rfl rfl (by first | (simp only [getT]; rfl) | rfl) getA (by first | rfl | assumption | exact get_setc (by first | omega | (simp [*]; omega)) | exact get_setcne (by omega) (by assumption) | exact get_piece0 (by assumption) rfl | exact get_piece (by assumption) rfl | exact NSa | exact NSr | (simp [*]; done))) k.out
    | exact exitQ_n (Res.cell1 rfl rfl (by first | (simp only [getT]; rfl) | rfl) getA (by first | rfl | assumption | exact get_setc (by first | omega | (simp [*]; omega)) | exact get_setcne (by omega) (by assumption) | exact get_piece0 (by assumption) rfl | exact get_piece (by assumption) rfl | exact NSa | exact NSr | (simp [*]; done))) k.out
    | exact exitQ_ret (Res.nothing rfl) k.out
    | exact exitQ_n (Res.nothing rfl) k.out
    | exact exitQ_ret (Res.two rfl (RV.cellN rfl (by first | (simp only [getT]; rfl) | rfl) getA (by first | decide | omega | exact NSo | (simp [*]; omega) | (simp [*]; done)) (by first | assumption | exact NSa | exact NSr | rfl)) (RV.tmp (by first | (simp only [getT]; rfl) | rfl))) k.out
    | exact exitQ_n (Res.two rfl (RV.cellN rfl (by first | (simp only [getT]; rfl) | rfl) getA (by first | decide | omega | exact NSo | (simp [*]; omega) | (simp [*]; done)) (by first | assumption | exact NSa | exact NSr | rfl)) (RV.tmp (by first | (simp only [getT]; rfl) | rfl))) k.out
    | exact exitQ_ret (Res.two rfl (RV.cell1 rfl (by first | (simp only [getT]; rfl) | rfl) getA (by first | rfl | assumption | exact get_setc (by first | omega | (simp [*]; omega)) | exact get_setcne (by omega) (by assumption) | exact get_piece0 (by assumption) rfl | exact get_piece (by assumption) rfl | exact NSa | exact NSr | (simp [*]; done))) (RV.tmp (by first | (simp only [getT]; rfl) | rfl))) k.out
    | exact exitQ_n (Res.two rfl (RV.cell1 rfl (by first | (simp only [getT]; rfl) | rfl) getA (by first | rfl | assumption | exact get_setc (by first | omega | (simp [*]; omega)) | exact get_setcne (by omega) (by assumption) | exact get_piece0 (by assumption) rfl | exact get_piece (by assumption) rfl | exact NSa | exact NSr | (simp [*]; done))) (RV.tmp (by first | (simp only [getT]; rfl) | rfl))) k.out
    | fail
    ) : B := h ⟨a⟩
theorem Wt {A B : Prop} [IsT B] (a : A) (h : Hold A → B := by
    intro k
    first
    | exact Tidy.none (by first | exact .flat rfl | exact .tuple0 | exact .tuple2 (.flat rfl) (.flat rfl) | exact .tuple3 (.flat rfl) (.flat rfl) (.flat rfl) | exact .agg rfl | exact .tuple2 (.agg rfl) (.flat rfl) | exact .tuple2 (.agg (by assumption)) (.flat rfl)) k.out
    | exact Tidy.none' (by first | exact .flat rfl | exact .tuple0 | exact .tuple2 (.flat rfl) (.flat rfl) | exact .tuple3 (.flat rfl) (.flat rfl) (.flat rfl) | exact .agg rfl | exact .tuple2 (.agg rfl) (.flat rfl) | exact .tuple2 (.agg (by assumption)) (.flat rfl)) k.out
    | exact Tidy.ext extA (by first | exact .flat rfl | exact .tuple0 | exact .tuple2 (.flat rfl) (.flat rfl) | exact .tuple3 (.flat rfl) (.flat rfl) (.flat rfl) | exact .agg rfl | exact .tuple2 (.agg rfl) (.flat rfl) | exact .tuple2 (.agg (by assumption)) (.flat rfl)) k.out
    | fail
    ) : B := h ⟨a⟩
/-- what is left of a drawn region -/
theorem OpsJ.list {T : List Value} {H : AHeap} {g : γ} {R : List Value → AHeap → γ → Prop} {ops : Array Oper} {l l' : List Oper} (hl : l = l') (k : OpsJ P E ops R l' T H g) : OpsJ P E ops R l T H g := hl ▸ k
theorem Wl {A B : Prop} [IsO B] (a : A) (h : Hold A → B := by
    intro k
    first
    | (refine OpsJ.list (by simp only [List.drop_succ_cons, List.drop_zero]; rfl) ?_; exact k.out)
    | fail
    ) : B := h ⟨a⟩
/-- an operation of a drawn region -/
theorem Wm {A B : Prop} [IsM B] (a : A) (h : Hold A → B := by
    intro k
    first
    | (refine is_mung ?_; refine MonoJ.norm (by first | (simp only [putT, List.set_cons_succ, List.set_cons_zero, evalT, getT, constT, cond_true, cond_false, Bool.not_true, Bool.not_false, List.length_map, evalL, List.toList_toArray]; rfl) | rfl) rfl ?_; (first | (refine mtag_le 14 rfl ?_; (first | (refine mtag_le 7 rfl ?_; (first | (refine mtag_le 3 rfl ?_; (first | (refine mtag_le 1 rfl ?_; (first | (refine mtag_le 0 rfl ?_; (exact mj_move k.out)) | (exact mj_assign k.out))) | (first | (refine mtag_le 2 rfl ?_; (exact mj_fieldAddr rfl k.out)) | (first | exact mj_load1 rfl rfl getA (by first | rfl | assumption | exact get_setc (by first | omega | (simp [*]; omega)) | exact get_setcne (by omega) (by assumption) | exact get_piece0 (by assumption) rfl | exact get_piece (by assumption) rfl | exact NSa | exact NSr | (simp [*]; done)) k.out | exact mj_loadN rfl rfl getA (by first | decide | omega | exact NSo | (simp [*]; omega) | (simp [*]; done)) (by first | assumption | exact NSa | exact NSr | rfl) k.out)))) | (first | (refine mtag_le 5 rfl ?_; (first | (refine mtag_le 4 rfl ?_; (exact mj_add rfl rfl (by first | omega | exact NSo | (simp [*]; omega)) k.out)) | (exact mj_sub rfl rfl (by first | omega | exact NSo | (simp [*]; omega)) k.out))) | (first | (refine mtag_le 6 rfl ?_; (exact mj_mul rfl rfl (by first | omega | exact NSo | (simp [*]; omega)) k.out)) | (first | exact mj_quo0 rfl rfl (by first | omega | exact NSo | (simp [*]; omega)) k.out | exact mj_quo rfl rfl (by first | omega | exact NSo | (simp [*]; omega)) k.out))))) | (first | (refine mtag_le 11 rfl ?_; (first | (refine mtag_le 9 rfl ?_; (first | (refine mtag_le 8 rfl ?_; (first | exact mj_rem0 rfl rfl (by first | omega | exact NSo | (simp [*]; omega)) k.out | exact mj_rem rfl rfl (by first | omega | exact NSo | (simp [*]; omega)) k.out)) | (exact mj_shl rfl rfl (by first | omega | exact NSo | (simp [*]; omega)) k.out))) | (first | (refine mtag_le 10 rfl ?_; (exact mj_shr rfl rfl (by first | omega | exact NSo | (simp [*]; omega)) k.out)) | (first | exact mj_int rfl rfl rfl k.out | exact mj_eqBool rfl rfl k.out | exact mj_neBool rfl rfl k.out | exact mj_bits rfl rfl rfl k.out)))) | (first | (refine mtag_le 13 rfl ?_; (first | (refine mtag_le 12 rfl ?_; (first | exact mj_len rfl k.out | exact mj_lenR rfl (by assumption) k.out | exact mj_max rfl rfl k.out | exact mj_min rfl rfl k.out)) | (exact mj_extract rfl rfl k.out))) | (fail))))) | (first | (refine mtag_le 21 rfl ?_; (first | (refine mtag_le 18 rfl ?_; (first | (refine mtag_le 16 rfl ?_; (first | (refine mtag_le 15 rfl ?_; (first | exact mj_indexR rfl rfl (by assumption) extA (by first | omega | exact NSo | (simp [*]; omega)) (by assumption) k.out | exact mj_indexS rfl rfl (by first | omega | exact NSo | (simp [*]; omega)) k.out | exact mj_indexA rfl rfl (by first | omega | exact NSo | (simp [*]; omega)) k.out)) | (exact mj_pick rfl k.out))) | (first | (refine mtag_le 17 rfl ?_; ((refine mj_box rfl (by first | rfl | assumption | exact NSa | (simp [*]; done)) ?_; refine MonoJ.normA ?_; exact k.out))) | ((refine mj_alloc ?_; refine MonoJ.normA ?_; exact k.out))))) | (first | (refine mtag_le 20 rfl ?_; (first | (refine mtag_le 19 rfl ?_; (exact mj_field rfl rfl k.out)) | (exact mj_idxA rfl rfl (by first | omega | exact NSo | (simp [*]; omega)) rfl k.out))) | (exact mj_nilCheck rfl k.out)))) | (first | (refine mtag_le 25 rfl ?_; (first | (refine mtag_le 23 rfl ?_; (first | (refine mtag_le 22 rfl ?_; (first | exact mj_not rfl k.out | exact mj_neg rfl k.out)) | (exact mj_conv rfl k.out))) | (first | (refine mtag_le 24 rfl ?_; (exact mj_makeFunc k.out)) | (first | (refine mj_make1 rfl rfl rfl (by first | omega | exact NSo | (simp [*]; omega)) ?_; refine MonoJ.normA ?_; exact k.out) | (refine mj_makeN (by rfl) rfl rfl (by first | omega | exact NSo | (simp [*]; omega)) ?_; refine MonoJ.normA ?_; exact k.out))))) | (first | (refine mtag_le 27 rfl ?_; (first | (refine mtag_le 26 rfl ?_; (exact mj_sliceTo rfl rfl (by first | omega | exact NSo | (simp [*]; omega)) k.out)) | (first | exact mj_buildS (by first | rfl | exact (fillA_cons rfl (by first | rfl | assumption | exact NSa | (simp [*]; done)) rfl (by first | exact Nat.le_of_ble_eq_true rfl | (simp [splice, cellsL]; done) | (simp [splice, cellsL]; omega)) rfl) | exact (fillA_cons rfl (by first | rfl | assumption | exact NSa | (simp [*]; done)) rfl (by first | exact Nat.le_of_ble_eq_true rfl | (simp [splice, cellsL]; done) | (simp [splice, cellsL]; omega)) (fillA_cons rfl (by first | rfl | assumption | exact NSa | (simp [*]; done)) rfl (by first | exact Nat.le_of_ble_eq_true rfl | (simp [splice, cellsL]; done) | (simp [splice, cellsL]; omega)) rfl)) | exact (fillA_cons rfl (by first | rfl | assumption | exact NSa | (simp [*]; done)) rfl (by first | exact Nat.le_of_ble_eq_true rfl | (simp [splice, cellsL]; done) | (simp [splice, cellsL]; omega)) (fillA_cons rfl (by first | rfl | assumption | exact NSa | (simp [*]; done)) rfl (by first | exact Nat.le_of_ble_eq_true rfl | (simp [splice, cellsL]; done) | (simp [splice, cellsL]; omega)) (fillA_cons rfl (by first | rfl | assumption | exact NSa | (simp [*]; done)) rfl (by first | exact Nat.le_of_ble_eq_true rfl | (simp [splice, cellsL]; done) | (simp [splice, cellsL]; omega)) rfl))) | exact (fillA_cons rfl (by first | rfl | assumption | exact NSa | (simp [*]; done)) rfl (by first | exact Nat.le_of_ble_eq_true rfl | (simp [splice, cellsL]; done) | (simp [splice, cellsL]; omega)) (fillA_cons rfl (by first | rfl | assumption | exact NSa | (simp [*]; done)) rfl (by first | exact Nat.le_of_ble_eq_true rfl | (simp [splice, cellsL]; done) | (simp [splice, cellsL]; omega)) (fillA_cons rfl (by first | rfl | assumption | exact NSa | (simp [*]; done)) rfl (by first | exact Nat.le_of_ble_eq_true rfl | (simp [splice, cellsL]; done) | (simp [splice, cellsL]; omega)) (fillA_cons rfl (by first | rfl | assumption | exact NSa | (simp [*]; done)) rfl (by first | exact Nat.le_of_ble_eq_true rfl | (simp [splice, cellsL]; done) | (simp [splice, cellsL]; omega)) rfl)))) | exact (fillA_cons rfl (by first | rfl | assumption | exact NSa | (simp [*]; done)) rfl (by first | exact Nat.le_of_ble_eq_true rfl | (simp [splice, cellsL]; done) | (simp [splice, cellsL]; omega)) (fillA_cons rfl (by first | rfl | assumption | exact NSa | (simp [*]; done)) rfl (by first | exact Nat.le_of_ble_eq_true rfl | (simp [splice, cellsL]; done) | (simp [splice, cellsL]; omega)) (fillA_cons rfl (by first | rfl | assumption | exact NSa | (simp [*]; done)) rfl (by first | exact Nat.le_of_ble_eq_true rfl | (simp [splice, cellsL]; done) | (simp [splice, cellsL]; omega)) (fillA_cons rfl (by first | rfl | assumption | exact NSa | (simp [*]; done)) rfl (by first | exact Nat.le_of_ble_eq_true rfl | (simp [splice, cellsL]; done) | (simp [splice, cellsL]; omega)) (fillA_cons rfl (by first | rfl | assumption | exact NSa | (simp [*]; done)) rfl (by first | exact Nat.le_of_ble_eq_true rfl | (simp [splice, cellsL]; done) | (simp [splice, cellsL]; omega)) rfl)))))) k.out | exact mj_buildA (by first | rfl | exact (fillA_cons rfl (by first | rfl | assumption | exact NSa | (simp [*]; done)) rfl (by first | exact Nat.le_of_ble_eq_true rfl | (simp [splice, cellsL]; done) | (simp [splice, cellsL]; omega)) rfl) | exact (fillA_cons rfl (by first | rfl | assumption | exact NSa | (simp [*]; done)) rfl (by first | exact Nat.le_of_ble_eq_true rfl | (simp [splice, cellsL]; done) | (simp [splice, cellsL]; omega)) (fillA_cons rfl (by first | rfl | assumption | exact NSa | (simp [*]; done)) rfl (by first | exact Nat.le_of_ble_eq_true rfl | (simp [splice, cellsL]; done) | (simp [splice, cellsL]; omega)) rfl)) | exact (fillA_cons rfl (by first | rfl | assumption | exact NSa | (simp [*]; done)) rfl (by first | exact Nat.le_of_ble_eq_true rfl | (simp [splice, cellsL]; done) | (simp [splice, cellsL]; omega)) (fillA_cons rfl (by first | rfl | assumption | exact NSa | (simp [*]; done)) rfl (by first | exact Nat.le_of_ble_eq_true rfl | (simp [splice, cellsL]; done) | (simp [splice, cellsL]; omega)) (fillA_cons rfl (by first | rfl | assumption | exact NSa | (simp [*]; done)) rfl (by first | exact Nat.le_of_ble_eq_true rfl | (simp [splice, cellsL]; done) | (simp [splice, cellsL]; omega)) rfl))) | exact (fillA_cons rfl (by first | rfl | assumption | exact NSa | (simp [*]; done)) rfl (by first | exact Nat.le_of_ble_eq_true rfl | (simp [splice, cellsL]; done) | (simp [splice, cellsL]; omega)) (fillA_cons rfl (by first | rfl | assumption | exact NSa | (simp [*]; done)) rfl (by first | exact Nat.le_of_ble_eq_true rfl | (simp [splice, cellsL]; done) | (simp [splice, cellsL]; omega)) (fillA_cons rfl (by first | rfl | assumption | exact NSa | (simp [*]; done)) rfl (by first | exact Nat.le_of_ble_eq_true rfl | (simp [splice, cellsL]; done) | (simp [splice, cellsL]; omega)) (fillA_cons rfl (by first | rfl | assumption | exact NSa | (simp [*]; done)) rfl (by first | exact Nat.le_of_ble_eq_true rfl | (simp [splice, cellsL]; done) | (simp [splice, cellsL]; omega)) rfl)))) | exact (fillA_cons rfl (by first | rfl | assumption | exact NSa | (simp [*]; done)) rfl (by first | exact Nat.le_of_ble_eq_true rfl | (simp [splice, cellsL]; done) | (simp [splice, cellsL]; omega)) (fillA_cons rfl (by first | rfl | assumption | exact NSa | (simp [*]; done)) rfl (by first | exact Nat.le_of_ble_eq_true rfl | (simp [splice, cellsL]; done) | (simp [splice, cellsL]; omega)) (fillA_cons rfl (by first | rfl | assumption | exact NSa | (simp [*]; done)) rfl (by first | exact Nat.le_of_ble_eq_true rfl | (simp [splice, cellsL]; done) | (simp [splice, cellsL]; omega)) (fillA_cons rfl (by first | rfl | assumption | exact NSa | (simp [*]; done)) rfl (by first | exact Nat.le_of_ble_eq_true rfl | (simp [splice, cellsL]; done) | (simp [splice, cellsL]; omega)) (fillA_cons rfl (by first | rfl | assumption | exact NSa | (simp [*]; done)) rfl (by first | exact Nat.le_of_ble_eq_true rfl | (simp [splice, cellsL]; done) | (simp [splice, cellsL]; omega)) rfl)))))) k.out))) | ((refine mj_buildSlice (by decide) (by first | rfl | exact (fillA_cons rfl (by first | rfl | assumption | exact NSa | (simp [*]; done)) rfl (by first | exact Nat.le_of_ble_eq_true rfl | (simp [splice, cellsL]; done) | (simp [splice, cellsL]; omega)) rfl) | exact (fillA_cons rfl (by first | rfl | assumption | exact NSa | (simp [*]; done)) rfl (by first | exact Nat.le_of_ble_eq_true rfl | (simp [splice, cellsL]; done) | (simp [splice, cellsL]; omega)) (fillA_cons rfl (by first | rfl | assumption | exact NSa | (simp [*]; done)) rfl (by first | exact Nat.le_of_ble_eq_true rfl | (simp [splice, cellsL]; done) | (simp [splice, cellsL]; omega)) rfl)) | exact (fillA_cons rfl (by first | rfl | assumption | exact NSa | (simp [*]; done)) rfl (by first | exact Nat.le_of_ble_eq_true rfl | (simp [splice, cellsL]; done) | (simp [splice, cellsL]; omega)) (fillA_cons rfl (by first | rfl | assumption | exact NSa | (simp [*]; done)) rfl (by first | exact Nat.le_of_ble_eq_true rfl | (simp [splice, cellsL]; done) | (simp [splice, cellsL]; omega)) (fillA_cons rfl (by first | rfl | assumption | exact NSa | (simp [*]; done)) rfl (by first | exact Nat.le_of_ble_eq_true rfl | (simp [splice, cellsL]; done) | (simp [splice, cellsL]; omega)) rfl))) | exact (fillA_cons rfl (by first | rfl | assumption | exact NSa | (simp [*]; done)) rfl (by first | exact Nat.le_of_ble_eq_true rfl | (simp [splice, cellsL]; done) | (simp [splice, cellsL]; omega)) (fillA_cons rfl (by first | rfl | assumption | exact NSa | (simp [*]; done)) rfl (by first | exact Nat.le_of_ble_eq_true rfl | (simp [splice, cellsL]; done) | (simp [splice, cellsL]; omega)) (fillA_cons rfl (by first | rfl | assumption | exact NSa | (simp [*]; done)) rfl (by first | exact Nat.le_of_ble_eq_true rfl | (simp [splice, cellsL]; done) | (simp [splice, cellsL]; omega)) (fillA_cons rfl (by first | rfl | assumption | exact NSa | (simp [*]; done)) rfl (by first | exact Nat.le_of_ble_eq_true rfl | (simp [splice, cellsL]; done) | (simp [splice, cellsL]; omega)) rfl)))) | exact (fillA_cons rfl (by first | rfl | assumption | exact NSa | (simp [*]; done)) rfl (by first | exact Nat.le_of_ble_eq_true rfl | (simp [splice, cellsL]; done) | (simp [splice, cellsL]; omega)) (fillA_cons rfl (by first | rfl | assumption | exact NSa | (simp [*]; done)) rfl (by first | exact Nat.le_of_ble_eq_true rfl | (simp [splice, cellsL]; done) | (simp [splice, cellsL]; omega)) (fillA_cons rfl (by first | rfl | assumption | exact NSa | (simp [*]; done)) rfl (by first | exact Nat.le_of_ble_eq_true rfl | (simp [splice, cellsL]; done) | (simp [splice, cellsL]; omega)) (fillA_cons rfl (by first | rfl | assumption | exact NSa | (simp [*]; done)) rfl (by first | exact Nat.le_of_ble_eq_true rfl | (simp [splice, cellsL]; done) | (simp [splice, cellsL]; omega)) (fillA_cons rfl (by first | rfl | assumption | exact NSa | (simp [*]; done)) rfl (by first | exact Nat.le_of_ble_eq_true rfl | (simp [splice, cellsL]; done) | (simp [splice, cellsL]; omega)) rfl)))))) ?_; refine MonoJ.normA ?_; exact k.out)))))))
    | (refine is_mono ?_; refine MonoJ.norm (by first | (simp only [putT, List.set_cons_succ, List.set_cons_zero, evalT, getT, constT, cond_true, cond_false, Bool.not_true, Bool.not_false, List.length_map, evalL, List.toList_toArray]; rfl) | rfl) rfl ?_; first | exact mj_on rfl k.out | exact mj_off rfl rfl k.out | exact mj_off' rfl k.out)
    | (refine MonoJ.norm (by first | (simp only [putT, List.set_cons_succ, List.set_cons_zero, evalT, getT, constT, cond_true, cond_false, Bool.not_true, Bool.not_false, List.length_map, evalL, List.toList_toArray]; rfl) | rfl) rfl ?_; exact mj_nil k.out)
    | fail
    ) : B := h ⟨a⟩
/-- two ways -/
theorem W2c {p1 p2 B1 B2 B : Prop} [IsW B] (a1 : p1 → B1) (a2 : p2 → B2) (h : Hold2 p1 B1 → Hold2 p2 B2 → B := by
    intro k1 k2
    first | exact WPJ.cond rfl (fun hb => k1.out hb) (fun hb => k2.out hb) | fail
    ) : B := h ⟨a1⟩ ⟨a2⟩
theorem W2 {p1 p2 B1 B2 B : Prop} [IsO B] (a1 : p1 → B1) (a2 : p2 → B2) (h : Hold2 p1 B1 → Hold2 p2 B2 → B := by
    intro k1 k2
    first
    | (refine is_step ?_; refine OpsJ.norm (by first | (simp only [putT, List.set_cons_succ, List.set_cons_zero, evalT, getT, constT, cond_true, cond_false, Bool.not_true, Bool.not_false, List.length_map, evalL, List.toList_toArray]; rfl) | rfl) rfl ?_; refine OpsJ.splitT rfl (fun hb => ?_) (fun hb => ?_); (simp only [hb]; exact k1.out hb); (simp only [hb]; exact k2.out hb))
    | (refine is_step ?_; refine OpsJ.norm (by first | (simp only [putT, List.set_cons_succ, List.set_cons_zero, evalT, getT, constT, cond_true, cond_false, Bool.not_true, Bool.not_false, List.length_map, evalL, List.toList_toArray]; rfl) | rfl) rfl ?_; refine OpsJ.splitF rfl (fun hb => ?_) (fun hb => ?_); (simp only [hb]; exact k1.out hb); (simp only [hb]; exact k2.out hb))
    | fail
    ) : B := h ⟨a1⟩ ⟨a2⟩
theorem W2m {p1 p2 B1 B2 B : Prop} [IsM B] (a1 : p1 → B1) (a2 : p2 → B2) (h : Hold2 p1 B1 → Hold2 p2 B2 → B := by
    intro k1 k2
    first
    | (refine is_mono ?_; refine MonoJ.norm (by first | (simp only [putT, List.set_cons_succ, List.set_cons_zero, evalT, getT, constT, cond_true, cond_false, Bool.not_true, Bool.not_false, List.length_map, evalL, List.toList_toArray]; rfl) | rfl) rfl ?_; refine mj_splitT rfl (fun hb => ?_) (fun hb => ?_); (simp only [hb]; exact k1.out hb); (simp only [hb]; exact k2.out hb))
    | (refine is_mono ?_; refine MonoJ.norm (by first | (simp only [putT, List.set_cons_succ, List.set_cons_zero, evalT, getT, constT, cond_true, cond_false, Bool.not_true, Bool.not_false, List.length_map, evalL, List.toList_toArray]; rfl) | rfl) rfl ?_; refine mj_splitF rfl (fun hb => ?_) (fun hb => ?_); (simp only [hb]; exact k1.out hb); (simp only [hb]; exact k2.out hb))
    | fail
    ) : B := h ⟨a1⟩ ⟨a2⟩
/-- a way that nobody goes -/
theorem Wdead {p X : Prop} (h : p → False := by
    intro hb
    first
    | exact tf hb
    | exact ft hb
    | exact tf2 hb (by assumption)
    | exact ft2 hb (by assumption)
    | (simp only [bne_iff_ne, bne_eq_false_iff_eq, decide_eq_true_eq, decide_eq_false_iff_not, Bool.not_eq_true', Bool.not_eq_false', Int.not_lt, Int.not_le, ge_iff_le, gt_iff_lt, beq_iff_eq, beq_eq_false_iff_ne, ne_eq, Bool.true_eq_false, Bool.false_eq_true, reduceCtorEq, List.length_map, Bool.and_eq_true, Bool.or_eq_true, Bool.and_eq_false_iff, Bool.or_eq_false_iff] at hb; first | done | omega)
    | fail) : p → X := fun hp => (h hp).elim
theorem Wlive {p q X : Prop} (k : q → X) (h : p → q := by
    intro hb
    first
    | (simp only [bne_iff_ne, bne_eq_false_iff_eq, decide_eq_true_eq, decide_eq_false_iff_not, Bool.not_eq_true', Bool.not_eq_false', Int.not_lt, Int.not_le, ge_iff_le, gt_iff_lt, beq_iff_eq, beq_eq_false_iff_ne, ne_eq, Bool.true_eq_false, Bool.false_eq_true, reduceCtorEq, List.length_map, Bool.and_eq_true, Bool.or_eq_true, Bool.and_eq_false_iff, Bool.or_eq_false_iff] at hb; exact hb)
    | exact hb
    | fail) : p → X := fun hp => k (h hp)
end
end Go.Abs

namespace Go.Abs
open Go

theorem all_range_ints (xs ys : List Int) (h : xs.length = ys.length) : ((List.range xs.length).all fun i => xs.getD i 0 == ys.getD i 0) = decide (xs = ys) := by
  rw [Bool.eq_iff_iff]
  simp only [List.all_eq_true, List.mem_range, beq_iff_eq, decide_eq_true_eq]
  constructor
  · intro ha
    refine List.ext_getElem h fun i h1 h2 => ?_
    have := ha i h1
    simpa [List.getD_eq_getElem?_getD, List.getElem?_eq_getElem h1, List.getElem?_eq_getElem h2] using this
  · rintro rfl i _; rfl
abbrev cellI (n : Int) : Value := .int .i64 n
theorem run_equal_ints {P : Program} {t e : TypeId} {n n1 : Nat} {z z' : Value} {b b' : Nat} (ht : Ty P t (.array n e) n1 z b) (he : Ty P e (.int .i64) 1 z' b') (xs ys : List Int) (hx : xs.length = n) (hy : ys.length = n) (w : World) :
    (Op.equalIn 10000 t (.agg (xs.map cellI).toArray) (.agg (ys.map cellI).toArray)).run P w = .ok (decide (xs = ys)) w := by
  show (Op.equalIn (9999 + 1) t _ _).run P w = _
  rw [← all_range_ints xs ys (by omega), hx, List.range_eq_range', Op.equalIn]
  simp only [Sem.run_bind, ht.und w, Result.andThen_ok, he.sizeOf w, Std.Legacy.Range.forIn_eq_forIn_range', Std.Legacy.Range.size, Nat.sub_zero, Nat.add_sub_cancel, Nat.div_one]
  have hl : ∀ i ∈ List.range' 0 n 1, i < n := fun i hi => by simpa using (List.mem_range'_1.1 hi).2
  generalize List.range' 0 n 1 = l at hl ⊢
  induction l with
  | nil => simp
  | cons i l ih =>
    have hi : i < n := hl i (by simp)
    have px : (part e (xs.map cellI).toArray (i * 1)).run P w = .ok (cellI (xs.getD i 0)) w := by
      obtain ⟨v, h1, h2⟩ := run_part_rel (ρ := fun _ => none) (w := w) (cs := (xs.map cellI).toArray) (cs' := (xs.map cellI).toArray) (off := i * 1) (v := cellI (xs.getD i 0)) he ⟨rfl, fun j h1 h2 => by simp; exact .int _ _⟩ (by simp [aggD, List.getD_eq_getElem?_getD, List.getElem?_eq_getElem (show i < xs.length by omega)])
      rw [h1, rel_int h2]
    have py : (part e (ys.map cellI).toArray (i * 1)).run P w = .ok (cellI (ys.getD i 0)) w := by
      obtain ⟨v, h1, h2⟩ := run_part_rel (ρ := fun _ => none) (w := w) (cs := (ys.map cellI).toArray) (cs' := (ys.map cellI).toArray) (off := i * 1) (v := cellI (ys.getD i 0)) he ⟨rfl, fun j h1 h2 => by simp; exact .int _ _⟩ (by simp [aggD, List.getD_eq_getElem?_getD, List.getElem?_eq_getElem (show i < ys.length by omega)])
      rw [h1, rel_int h2]
    have pe : (Op.equalIn 9999 e (cellI (xs.getD i 0)) (cellI (ys.getD i 0))).run P w = .ok (xs.getD i 0 == ys.getD i 0) w := by
      show (Op.equalIn (9998 + 1) e _ _).run P w = _
      rw [Op.equalIn, Sem.run_bind, he.und w]
      rfl
    simp only [List.forIn_cons, Sem.run_bind, px, py, pe, Result.andThen_ok, List.all_cons]
    cases hb : (xs.getD i 0 == ys.getD i 0)
    · simp
    · simp only [Bool.not_true, Bool.false_eq_true, if_false, Sem.run_pure, Result.andThen_ok, Bool.true_and]
      exact ih fun j hj => hl j (by simp [hj])

theorem rel_ints {ρ : Ren} {xs : List Int} {v : Value} (h : VRel ρ (.agg ⟨xs.map cellI⟩) v) : v = .agg (xs.map cellI).toArray := by
  cases h with
  | @agg a a' hs h =>
    congr 1
    refine Array.ext (by simpa using hs.symm) fun j h1 h2 => ?_
    have h3 := h j (by simpa using h2) h1
    simp only [List.size_toArray, List.length_map] at h2
    rw [show (({ toList := xs.map cellI } : Array Value)[j]'(by simpa using h2)) = cellI xs[j] by simp] at h3
    simpa using rel_int h3
theorem runs_eqInts {P : Program} {dst : Option Tmp} {ty : TypeId} {ps : String} {af : Array Edge} {gd : Option (Nat × Bool)} {T : List Value} {H : AHeap} {xt yt e : TypeId} {x y : Operand} {n n1 : Nat} {z z' : Value} {b b' : Nat} {xs ys : List Int} (ht : Ty P xt (.array n e) n1 z b) (he : Ty P e (.int .i64) 1 z' b') (hg : P.eqGuardType P.depth xt = false)
    (hx : evalT T x = .agg ⟨xs.map cellI⟩) (hy : evalT T y = .agg ⟨ys.map cellI⟩) (hxl : xs.length = n) (hyl : ys.length = n) :
    Runs P ⟨dst, .binOp .eql xt x y yt, ty, ps, af, gd⟩ (.bool (decide (xs = ys))) H T H :=
  runs_bin hx hy fun ρ w x' y' h1 h2 _ => by
    rw [rel_ints h1, rel_ints h2]
    exact ⟨.bool (decide (xs = ys)), by rw [Sem.run_bind, run_eqGuard_agg w .eql xt x y _ _ hg, Result.andThen_ok, run_eql_struct, run_equal_ints ht he xs ys hxl hyl]; rfl, .bool _⟩
theorem st_eqInts {γ : Type} {P : Program} {E : Env γ} {T : List Value} {H : AHeap} {g : γ} {R : List Value → AHeap → γ → Prop} {ops : Array Oper} {dst : Option Tmp} {ty : TypeId} {ps : String} {af : Array Edge} {rest : List Oper} {xt yt e : TypeId} {x y : Operand} {n n1 : Nat} {z z' : Value} {b b' : Nat} {xs ys : List Int} [ht : TyC P xt (.array n e) n1 z b] [he : TyC P e (.int .i64) 1 z' b'] (hg : P.eqGuardType P.depth xt = false)
    (hx : evalT T x = .agg ⟨xs.map cellI⟩) (hy : evalT T y = .agg ⟨ys.map cellI⟩) (hxl : xs.length = n) (hyl : ys.length = n) (k : OpsJ P E ops R rest (putT T dst (.bool (decide (xs = ys)))) H g) : OpsJ P E ops R (⟨dst, .binOp .eql xt x y yt, ty, ps, af, none⟩ :: rest) T H g :=
  OpsJ.step (runs_eqInts ht.ty he.ty hg hx hy hxl hyl) rfl k
/-- a slice against nil -/
theorem st_eqNilS {γ : Type} {P : Program} {E : Env γ} {T : List Value} {H : AHeap} {g : γ} {R : List Value → AHeap → γ → Prop} {ops : Array Oper} {dst : Option Tmp} {ty : TypeId} {ps : String} {af : Array Edge} {rest : List Oper} {xt yt e : TypeId} {x y : Operand} {n : Nat} {z : Value} {b : Nat} [ht : TyC P xt (.slice e) n z b]
    (hx : evalT T x = .slice none 0 0) (hy : evalT T y = .slice none 0 0) (k : OpsJ P E ops R rest (putT T dst (.bool true)) H g) : OpsJ P E ops R (⟨dst, .binOp .eql xt x y yt, ty, ps, af, none⟩ :: rest) T H g :=
  OpsJ.step (runs_bin hx hy fun ρ w x' y' h1 h2 _ => by
    rw [rel_nilSlice h1, rel_nilSlice h2]
    refine ⟨.bool true, ?_, .bool _⟩
    have he : (Op.equal xt (.slice none 0 0) (.slice none 0 0)).run P w = .ok true w := by
      show (Op.equalIn (9999 + 1) xt _ _).run P w = _
      rw [Op.equalIn, Sem.run_bind, ht.ty.und w]; rfl
    simp [eqGuard, binOp, he]) rfl k
theorem st_eqSomeS {γ : Type} {P : Program} {E : Env γ} {T : List Value} {H : AHeap} {g : γ} {R : List Value → AHeap → γ → Prop} {ops : Array Oper} {dst : Option Tmp} {ty : TypeId} {ps : String} {af : Array Edge} {rest : List Oper} {xt yt e : TypeId} {x y : Operand} {n : Nat} {z : Value} {b i o l c : Nat} [ht : TyC P xt (.slice e) n z b]
    (hx : evalT T x = .slice (some ⟨i, o, none⟩) l c) (hy : evalT T y = .slice none 0 0) (k : OpsJ P E ops R rest (putT T dst (.bool false)) H g) : OpsJ P E ops R (⟨dst, .binOp .eql xt x y yt, ty, ps, af, none⟩ :: rest) T H g :=
  OpsJ.step (runs_bin hx hy fun ρ w x' y' h1 h2 _ => by
    rw [rel_nilSlice h2]
    cases h1 with
    | @slice _ _ _ _ cap' m a1 a2 a3 =>
      refine ⟨.bool false, ?_, .bool _⟩
      have he : (Op.equal xt (.slice (some ⟨m.blk, o, none⟩) l cap') (.slice none 0 0)).run P w = .ok false w := by
        show (Op.equalIn (9999 + 1) xt _ _).run P w = _
        rw [Op.equalIn, Sem.run_bind, ht.ty.und w]; rfl
      simp [eqGuard, binOp, he]) rfl k
end Go.Abs

namespace Go.Abs
open Go

/-- A value that stays one when the row at `n` is no more ours. -/
def Froz (n : Nat) (v : Value) : Prop := ∀ (ρa ρb : Ren) (v' : Value), (∀ i, i < n → ρb i = ρa i) → (∀ m, ρa n = some m → ρb n = some { m with own := false }) → VRel ρa v v' → VRel ρb v v'
theorem Froz.low {n : Nat} {v : Value} (h : Low n v) : Froz n v := fun ρa ρb v' h1 _ hv => h ρa ρb v' h1 hv
theorem Froz.slice {n o l c : Nat} : Froz n (.slice (some ⟨n, o, none⟩) l c) := fun ρa ρb v' _ h2 hv => by
  cases hv with
  | @slice _ _ _ _ cap' m h1 h3 h4 => exact VRel.slice (m := { m with own := false }) (h2 _ h1) h3 (fun e => Bool.noConfusion e)
theorem Froz.agg {n : Nat} {a : List Value} (h : ∀ v ∈ a, Froz n v) : Froz n (.agg ⟨a⟩) := fun ρa ρb v' h1 h2 hv => by
  cases hv with
  | agg hs hh => exact .agg hs fun j p q => h _ (List.getElem_mem (by simpa using p)) ρa ρb _ h1 h2 (hh j p q)

theorem CallJ.freeze {γ : Type} {P : Program} {E : Env γ} {f : FuncId} {args : List Value} {K K' : Value → AHeap → γ → Prop} {H : AHeap} {g : γ} (h : CallJ P E f args K H g)
    (hK : ∀ v H' g', K v H' g' → K' v H' g' ∨ ∃ c es, H' = H ++ [.row c es true] ∧ c.all flat1 = true ∧ Froz H.length v ∧ K' v (H ++ [.row c es false]) g') : CallJ P E f args K' H g := by
  intro ρ w S args' hi ha
  refine (h ρ w S args' hi ha).mono ?_
  rintro e w' ⟨ρ', v, v', H', g', S', rfl, hv, hi2, tr, hk⟩
  rcases hK _ _ _ hk with hk' | ⟨c, es, rfl, hc, hf, hk'⟩
  · exact ⟨ρ', v, v', H', g', S', rfl, hv, hi2, tr, hk'⟩
  have hlen : ∀ o : AObj, List.length (H ++ [o]) = H.length + 1 := fun o => by simp
  let ρ2 : Ren := fun i => if i < H.length then ρ' i else (ρ' i).map fun m => { m with own := false }
  have low : ∀ i, i < H.length → ρ2 i = ρ' i := fun i h => if_pos h
  have high : ∀ i, H.length ≤ i → ρ2 i = (ρ' i).map fun m => { m with own := false } := fun i h => if_neg (by omega)
  have lowe : ∀ i, i < H.length → ρ2 i = ρ i := fun i h => (low i h).trans (tr.ext i h)
  have le1 : ρ.le ρ' := fun i m hm => (tr.ext i (hi.srel.dom i m hm).1).trans hm
  have le2 : ρ.le ρ2 := fun i m hm => (lowe i (hi.srel.dom i m hm).1).trans hm
  have inv : ∀ i m, ρ2 i = some m → (i < H.length ∧ ρ' i = some m ∧ ρ i = some m) ∨ (i = H.length ∧ m.own = false ∧ ∃ m0, ρ' i = some m0 ∧ m = { m0 with own := false }) := by
    intro i m hm
    by_cases hn : i < H.length
    · exact .inl ⟨hn, by rw [← low i hn]; exact hm, by rw [← lowe i hn]; exact hm⟩
    · rw [high i (by omega)] at hm
      obtain ⟨m0, h0, rfl⟩ := Option.map_eq_some_iff.1 hm
      have := (hi2.srel.dom i m0 h0).1
      rw [hlen] at this
      exact .inr ⟨by omega, rfl, m0, h0, rfl⟩
  have at0 : ∀ o : AObj, (H ++ [o])[H.length]? = some o := fun o => by simp
  have own2 : ∀ b, LiveOwn ρ2 (H ++ [.row c es false]) b → LiveOwn ρ' (H ++ [.row c es true]) b := by
    rintro b ⟨i, m, o, e1, e2, e3, e4, rfl⟩
    rcases inv i m e1 with ⟨hn, q1, _⟩ | ⟨_, q1, _⟩
    · rw [List.getElem?_append_left hn] at e2
      exact ⟨i, m, o, q1, by rw [List.getElem?_append_left hn]; exact e2, e3, e4, rfl⟩
    · rw [q1] at e4; cases e4
  have hs3 : SRel ρ2 (H ++ [.row c es false]) w' := by
    refine ⟨fun i m hm => ?_, fun i m o hm ho => ?_, fun i j m m' o o' hm hm' ho ho' hd hd' hown hb => ?_⟩
    · rcases inv i m hm with ⟨hn, q1, _⟩ | ⟨rfl, _, m0, q1, rfl⟩
      · exact ⟨by rw [hlen]; omega, (hi2.srel.dom i m q1).2⟩
      · exact ⟨by rw [hlen]; omega, (hi2.srel.dom _ m0 q1).2⟩
    · rcases inv i m hm with ⟨hn, q1, q2⟩ | ⟨rfl, _, m0, q1, rfl⟩
      · rw [List.getElem?_append_left hn] at ho
        exact (ORel.restrict le1 (hi.srel.obj i m o q2 ho) (hi2.srel.obj i m o q1 (by rw [List.getElem?_append_left hn]; exact ho))).mono le2
      · rw [at0] at ho
        cases ho
        obtain ⟨b1, b2, c', e, fr, b3, b4, b5, b6, b7⟩ := hi2.srel.obj _ m0 _ q1 (at0 _)
        exact ⟨b1, rfl, c', e, fr, b3, b4, (fun e => Bool.noConfusion e), b6, fun j k1 k2 => flat1_rel (List.all_eq_true.1 hc _ (List.getElem_mem k1)) (b7 j k1 k2)⟩
    · rcases inv i m hm with ⟨hn, q1, _⟩ | ⟨_, q1, _⟩
      · rw [List.getElem?_append_left hn] at ho
        rcases inv j m' hm' with ⟨hn', q1', _⟩ | ⟨rfl, _, m0, q1', rfl⟩
        · rw [List.getElem?_append_left hn'] at ho'
          exact hi2.srel.inj i j m m' o o' q1 q1' (by rw [List.getElem?_append_left hn]; exact ho) (by rw [List.getElem?_append_left hn']; exact ho') hd hd' hown hb
        · exact hi2.srel.inj i _ m m0 o (.row c es true) q1 q1' (by rw [List.getElem?_append_left hn]; exact ho) (at0 _) hd rfl hown hb
      · rw [q1] at hown; cases hown
  have hv2 : VRel ρ2 v v' := hf ρ' ρ2 v' low (fun m hm => by rw [high _ (Nat.le_refl _), hm]; rfl) hv
  exact ⟨ρ2, v, v', H ++ [.row c es false], g', S', rfl, hv2, ⟨hs3, hi2.j, hi2.bnd, fun b hb hl => hi2.disj b hb (own2 b hl)⟩, ⟨by rw [hlen]; omega, lowe, tr.os, tr.tape, tr.out, tr.size, tr.keep, fun b hb => tr.fresh b (own2 b hb), tr.grow⟩, hk'⟩
end Go.Abs

namespace Go.Abs
open Go
/-! ### A row forgotten -/
theorem LiveOwn.unkill {ρ : Ren} {H : AHeap} {i b : Nat} (h : LiveOwn ρ (H.set i .dead) b) : LiveOwn ρ H b := by
  obtain ⟨j, m, o, e1, e2, e3, e4, e5⟩ := h
  by_cases hij : i = j
  · subst hij
    rw [List.getElem?_set] at e2
    simp only [if_true] at e2
    split at e2
    · cases e2; cases e3
    · cases e2
  · rw [List.getElem?_set_ne hij] at e2
    exact ⟨j, m, o, e1, e2, e3, e4, e5⟩
theorem SRel.kill {ρ : Ren} {H : AHeap} {w : World} (h : SRel ρ H w) (i : Nat) : SRel ρ (H.set i .dead) w := by
  have key : ∀ (j : Nat) (o : AObj), (H.set i .dead)[j]? = some o → o = .dead ∨ H[j]? = some o := fun j o ho => by
    by_cases hij : i = j
    · subst hij
      rw [List.getElem?_set] at ho
      simp only [if_true] at ho
      split at ho
      · cases ho; exact .inl rfl
      · cases ho
    · rw [List.getElem?_set_ne hij] at ho; exact .inr ho
  refine ⟨fun j m hj => by rw [List.length_set]; exact h.dom j m hj, fun j m o hj ho => ?_, fun j k m m' o o' hj hk ho ho' hd hd' hown hb => ?_⟩
  · rcases key j o ho with rfl | h1
    · trivial
    · exact h.obj j m o hj h1
  · rcases key j o ho with rfl | h1
    · cases hd
    · rcases key k o' ho' with rfl | h2
      · cases hd'
      · exact h.inj j k m m' o o' hj hk h1 h2 hd hd' hown hb
theorem WPJ.kill {γ : Type} {P : Program} {E : Env γ} {c : Code} {Q : Exit → List Value → AHeap → γ → Prop} {T : List Value} {H : AHeap} {g : γ} (i : Nat) (h : WPJ P E c Q T (H.set i .dead) g) : WPJ P E c Q T H g := by
  intro ρ w S ro Ds ac hi ht hr hm
  refine wpIn_mono (h ρ w S ro Ds ac ⟨hi.srel.kill i, hi.j, hi.bnd, fun b hb hl => hi.disj b hb hl.unkill⟩ ht hr hm) fun e ac' w' hp => ?_
  obtain ⟨ρ', T', H', g', S', Ds', h1, h2, tr, h4, h5⟩ := hp
  have hl : (H.set i .dead).length = H.length := List.length_set
  exact ⟨ρ', T', H', g', S', Ds', h1, h2, ⟨by have := tr.next; omega, fun j hj => tr.ext j (by omega), tr.os, tr.tape, tr.out, tr.size, fun b hb hs hn => tr.keep b hb hs (fun hl => hn hl.unkill), fun b hb => (tr.fresh b hb).imp id LiveOwn.unkill, fun b hb => (tr.grow b hb).imp id (fun h => h.imp id LiveOwn.unkill)⟩, h4, h5⟩
end Go.Abs

namespace Go.Abs
open Go
/-! ### A scope that no goto leaves -/
section
variable {F : Fence} {n : Nat} {P : Program} {b : Frame} {k : List Item} {cs : List Frame} {Q : Exit → Act → World → Prop} {a : Act} {w : World}
theorem stepR_scope {c : Code} : step P (lone (b.atR a (.code (.scope c) :: k)) cs w) = .next (lone (b.atR a (.code c :: .inScope c :: k)) cs w) :=
  step_lone_go (by simp [stepG, stepG.exec, Frame.atR])
theorem stepR_inScope {c : Code} : step P (lone (b.atR a (.inScope c :: k)) cs w) = .next (lone (b.atR a k) cs w) :=
  step_lone_go (by simp [stepG, stepG.exec, Frame.atR])
theorem wpIn_scope {c : Code} (h : c.wpIn F n P (Exit.noGoto Q) a w) : (Code.scope c).wpIn F n P Q a w := by
  intro b k cs hro hb hr
  have h0 : (lone (b.atR a (.code (.scope c) :: k)) cs w).fenced P F := fenced_calm hb hr rfl
  obtain ⟨e, a₁, w₁, hq, harr⟩ := h b (.inScope c :: k) cs hro hb hr
  cases e with
  | normal => exact ⟨.normal, a₁, w₁, hq, .head h0 stepR_scope (StepsIn.trans harr (.one (fenced_calm hb hr rfl) stepR_inScope))⟩
  | exit id =>
    have hx : exitTo id (.inScope c :: k) = exitTo id k := by simp [exitTo]
    exact ⟨.exit id, a₁, w₁, hq, fun k' hk => .head h0 stepR_scope (harr.1 k' (by rw [hx]; exact hk)),
      fun hr' hk => let ⟨k₁, h1, h2⟩ := harr.2 hr' (by rw [hx]; exact hk); ⟨k₁, h1, .head h0 stepR_scope h2⟩⟩
  | goto l => exact hq.elim
  | ret => exact ⟨_, a₁, w₁, hq, .of_steps (.one h0 stepR_scope) harr⟩
  | panic ch => exact ⟨_, a₁, w₁, hq, .of_steps (.one h0 stepR_scope) harr⟩
  | outgrown => exact ⟨_, a₁, w₁, hq, .of_steps (.one h0 stepR_scope) harr⟩
end
theorem WPJ.scope {γ : Type} {P : Program} {E : Env γ} {c : Code} {Q : Exit → List Value → AHeap → γ → Prop} {T : List Value} {H : AHeap} {g : γ} (hg : ∀ l T H g, ¬ Q (.goto l) T H g) (h : WPJ P E c Q T H g) : WPJ P E (.scope c) Q T H g := by
  intro ρ w S ro Ds ac hi ht hr hm
  refine wpIn_scope (wpIn_mono (h ρ w S ro Ds ac hi ht hr hm) fun e ac' w' hp => ?_)
  obtain ⟨ρ', T', H', g', S', Ds', h1, h2, tr, h4, h5⟩ := hp
  cases e with
  | goto l => exact hg _ _ _ _ h5
  | normal => exact ⟨ρ', T', H', g', S', Ds', h1, h2, tr, h4, h5⟩
  | exit id => exact ⟨ρ', T', H', g', S', Ds', h1, h2, tr, h4, h5⟩
  | ret => exact ⟨ρ', T', H', g', S', Ds', h1, h2, tr, h4, h5⟩
  | panic ch => exact ⟨ρ', T', H', g', S', Ds', h1, h2, tr, h4, h5⟩
  | outgrown => exact ⟨ρ', T', H', g', S', Ds', h1, h2, tr, h4, h5⟩
end Go.Abs

namespace Go.Abs
open Go

/-- A type whose values are n ints. -/
class IntsC (P : Program) (t : TypeId) (n : outParam Nat) : Prop where
  eq : ∀ (xs ys : List Int), xs.length = n → ys.length = n → ∀ w, (Op.equalIn 10000 t (.agg (xs.map cellI).toArray) (.agg (ys.map cellI).toArray)).run P w = .ok (decide (xs = ys)) w
  guard : P.eqGuardType P.depth t = false
  key : ∀ (e : Bool) (xs : List Int), xs.length = n → ∀ w, (Instr.checkKey e 10000 t (.agg (xs.map cellI).toArray)).run P w = .ok () w
  und : ∃ d, P.underlying t = some d

def isI64 (P : Program) (t : TypeId) : Bool :=
  match tyOf P t with
  | some (.int .i64, 1, some _, _) => true
  | _ => false
theorem isI64_ty {P : Program} {t : TypeId} (h : isI64 P t = true) : ∃ z b, Ty P t (.int .i64) 1 z b := by
  unfold isI64 at h
  split at h
  · rename_i z b he
    exact ⟨_, _, Ty.of he⟩
  · cases h

theorem part_int {P : Program} {e : TypeId} {z : Value} {b : Nat} (he : Ty P e (.int .i64) 1 z b) (xs : List Int) (off : Nat) (ho : off < xs.length) (w : World) :
    (part e (xs.map cellI).toArray off).run P w = .ok (cellI (xs.getD off 0)) w := by
  obtain ⟨v, h1, h2⟩ := run_part_rel (ρ := fun _ => none) (w := w) (cs := (xs.map cellI).toArray) (cs' := (xs.map cellI).toArray) (off := off) (v := cellI (xs.getD off 0)) he ⟨rfl, fun j h1 h2 => by simp; exact .int _ _⟩ (by simp [aggD, List.getD_eq_getElem?_getD, List.getElem?_eq_getElem ho])
  rw [h1, rel_int h2]

def intFields (P : Program) (fs : List Field) (n : Nat) : Bool := (fs.all fun f => f.name != "_" && isI64 P f.type) && (fs.map (·.offset) == List.range n)

theorem eqFields_ints {P : Program} (xs ys : List Int) : ∀ (fs : List Field), (∀ f ∈ fs, f.name ≠ "_" ∧ isI64 P f.type = true ∧ f.offset < xs.length ∧ f.offset < ys.length) → ∀ w,
    (Op.eqFields 9999 (xs.map cellI).toArray (ys.map cellI).toArray fs).run P w = .ok ((fs.map (·.offset)).all fun i => xs.getD i 0 == ys.getD i 0) w
  | [], _, w => by simp [Op.eqFields]
  | f :: fs, h, w => by
    obtain ⟨h1, h2, h3, h4⟩ := h f (by simp)
    obtain ⟨z, b, ht⟩ := isI64_ty h2
    have pe : (Op.equalIn 9999 f.type (cellI (xs.getD f.offset 0)) (cellI (ys.getD f.offset 0))).run P w = .ok (xs.getD f.offset 0 == ys.getD f.offset 0) w := by
      show (Op.equalIn (9998 + 1) f.type _ _).run P w = _
      rw [Op.equalIn, Sem.run_bind, ht.und w]
      rfl
    have ih := eqFields_ints xs ys fs (fun g hg => h g (by simp [hg])) w
    simp only [Op.eqFields, if_pos h1, Sem.run_bind, part_int ht xs _ h3, part_int ht ys _ h4, pe, Result.andThen_ok, List.map_cons, List.all_cons]
    cases hb : (xs.getD f.offset 0 == ys.getD f.offset 0)
    · simp
    · simp only [Bool.not_true, Bool.false_eq_true, if_false, Bool.true_and]; exact ih

theorem checkKey_int {P : Program} {t : TypeId} (h : isI64 P t = true) (e : Bool) (m : Nat) (n : Int) (w : World) : (Instr.checkKey e (m + 1) t (cellI n)).run P w = .ok () w := by
  obtain ⟨z, b, ht⟩ := isI64_ty h
  rw [Instr.checkKey, Sem.run_bind, ht.und w]
  rfl

theorem IntsC.struct {P : Program} {t : TypeId} {fields : Array Field} {n n1 : Nat} {z : Value} {b : Nat} (ht : Ty P t (.struct fields) n1 z b) (hc : (intFields P fields.toList n && !P.stoodInHeld t && !P.eqGuardType P.depth t) = true) : IntsC P t n := by
  simp only [Bool.and_eq_true, Bool.not_eq_true', intFields, beq_iff_eq, List.all_eq_true, bne_iff_ne, ne_eq] at hc
  obtain ⟨⟨⟨h1, h2⟩, h3⟩, h4⟩ := hc
  have hu : P.underlying t = some (.struct fields) := ht.1
  have hf : P.fieldsOf t = fields := by simp only [Program.fieldsOf, hu]
  have hoff : ∀ f ∈ fields.toList, f.offset < n := fun f hf => List.mem_range.1 (h2 ▸ List.mem_map.2 ⟨f, hf, rfl⟩)
  refine ⟨fun xs ys hx hy w => ?_, h4, fun e xs hx w => ?_, ⟨_, hu⟩⟩
  · rw [run_equalIn_struct w 9999 t _ _ (by rw [hf]; exact hu) h3, hf, eqFields_ints xs ys fields.toList (fun f hf => ⟨(h1 f hf).1, (h1 f hf).2, by rw [hx]; exact hoff f hf, by rw [hy]; exact hoff f hf⟩) w, h2, ← hx, all_range_ints xs ys (by omega)]
  · rw [Instr.checkKey, Sem.run_bind, ht.und w, Result.andThen_ok]
    simp only
    rw [← Array.forIn_toList]
    have : ∀ (fs : List Field), (∀ f ∈ fs, f.name ≠ "_" ∧ isI64 P f.type = true ∧ f.offset < xs.length) → (forIn fs PUnit.unit fun f _ => do
        if f.name ≠ "_" then do
          Instr.checkKey e 9999 f.type (← part f.type (xs.map cellI).toArray f.offset)
          pure (ForInStep.yield PUnit.unit)
        else pure (ForInStep.yield PUnit.unit) : Sem PUnit).run P w = .ok () w := by
      intro fs
      induction fs with
      | nil => intro _; rfl
      | cons f fs ih =>
        intro h
        obtain ⟨q1, q2, q3⟩ := h f (by simp)
        obtain ⟨z', b', ht'⟩ := isI64_ty q2
        have ih' := ih fun g hg => h g (by simp [hg])
        simp only [List.forIn_cons, Sem.run_bind, if_pos q1, part_int ht' xs _ q3, Result.andThen_ok, checkKey_int q2 e 9998]
        simpa using ih'
    rw [Sem.run_bind, this _ fun f hf => ⟨(h1 f hf).1, (h1 f hf).2, by rw [hx]; exact hoff f hf⟩]
    rfl

theorem IntsC.array {P : Program} {t e : TypeId} {n n1 : Nat} {z : Value} {b : Nat} (ht : Ty P t (.array n e) n1 z b) (hc : (isI64 P e && !P.eqGuardType P.depth t) = true) : IntsC P t n := by
  simp only [Bool.and_eq_true, Bool.not_eq_true'] at hc
  obtain ⟨h1, h2⟩ := hc
  obtain ⟨z', b', he⟩ := isI64_ty h1
  refine ⟨fun xs ys hx hy w => run_equal_ints ht he xs ys hx hy w, h2, fun e' xs hx w => ?_, ⟨_, ht.1⟩⟩
  rw [Instr.checkKey, Sem.run_bind, ht.und w, Result.andThen_ok]
  simp only [Std.Legacy.Range.forIn_eq_forIn_range', Std.Legacy.Range.size, Nat.sub_zero, Nat.add_sub_cancel, Nat.div_one]
  have hl : ∀ i ∈ List.range' 0 n 1, i < n := fun i hi => by simpa using (List.mem_range'_1.1 hi).2
  generalize List.range' 0 n 1 = l at hl ⊢
  rw [Sem.run_bind]
  have : (forIn l PUnit.unit fun i _ => do
      let s ← sizeOf e
      Instr.checkKey e' 9999 e (← part e (xs.map cellI).toArray (i * s))
      pure (ForInStep.yield PUnit.unit) : Sem PUnit).run P w = .ok () w := by
    induction l with
    | nil => rfl
    | cons i l ih =>
      have hi : i < n := hl i (by simp)
      have ih' := ih fun j hj => hl j (by simp [hj])
      simp only [List.forIn_cons, Sem.run_bind, he.sizeOf w, Nat.mul_one, part_int he xs i (by omega), Result.andThen_ok, checkKey_int h1 e' 9998]
      simpa [he.sizeOf w] using ih'
  rw [this]; rfl

section
variable {γ : Type} {P : Program} {E : Env γ} {T : List Value} {H : AHeap} {g : γ} {R : List Value → AHeap → γ → Prop} {ops : Array Oper} {dst : Option Tmp} {ty : TypeId} {ps : String} {af : Array Edge} {rest : List Oper}
theorem runs_eqI {gd : Option (Nat × Bool)} {xt yt : TypeId} {x y : Operand} {n : Nat} {xs ys : List Int} [ht : IntsC P xt n] (hx : evalT T x = .agg ⟨xs.map cellI⟩) (hy : evalT T y = .agg ⟨ys.map cellI⟩) (hxl : xs.length = n) (hyl : ys.length = n) :
    Runs P ⟨dst, .binOp .eql xt x y yt, ty, ps, af, gd⟩ (.bool (decide (xs = ys))) H T H :=
  runs_bin hx hy fun ρ w x' y' h1 h2 _ => by
    rw [rel_ints h1, rel_ints h2]
    exact ⟨.bool (decide (xs = ys)), by rw [Sem.run_bind, run_eqGuard_agg w .eql xt x y _ _ ht.guard, Result.andThen_ok, run_eql_struct, ht.eq xs ys hxl hyl]; rfl, .bool _⟩
theorem runs_neI {gd : Option (Nat × Bool)} {xt yt : TypeId} {x y : Operand} {n : Nat} {xs ys : List Int} [ht : IntsC P xt n] (hx : evalT T x = .agg ⟨xs.map cellI⟩) (hy : evalT T y = .agg ⟨ys.map cellI⟩) (hxl : xs.length = n) (hyl : ys.length = n) :
    Runs P ⟨dst, .binOp .neq xt x y yt, ty, ps, af, gd⟩ (.bool (!decide (xs = ys))) H T H :=
  runs_bin hx hy fun ρ w x' y' h1 h2 _ => by
    rw [rel_ints h1, rel_ints h2]
    exact ⟨.bool (!decide (xs = ys)), by rw [Sem.run_bind, run_eqGuard_agg w .neq xt x y _ _ ht.guard, Result.andThen_ok, run_neq_struct, ht.eq xs ys hxl hyl]; rfl, .bool _⟩
/-- structs and arrays of ints, compared -/
theorem st_eqI {xt yt : TypeId} {x y : Operand} {n : Nat} {xs ys : List Int} [ht : IntsC P xt n] (hx : evalT T x = .agg ⟨xs.map cellI⟩) (hy : evalT T y = .agg ⟨ys.map cellI⟩) (hxl : xs.length = n) (hyl : ys.length = n) (k : OpsJ P E ops R rest (putT T dst (.bool (decide (xs = ys)))) H g) :
    OpsJ P E ops R (⟨dst, .binOp .eql xt x y yt, ty, ps, af, none⟩ :: rest) T H g := OpsJ.step (runs_eqI hx hy hxl hyl) rfl k
theorem st_neI {xt yt : TypeId} {x y : Operand} {n : Nat} {xs ys : List Int} [ht : IntsC P xt n] (hx : evalT T x = .agg ⟨xs.map cellI⟩) (hy : evalT T y = .agg ⟨ys.map cellI⟩) (hxl : xs.length = n) (hyl : ys.length = n) (k : OpsJ P E ops R rest (putT T dst (.bool (!decide (xs = ys)))) H g) :
    OpsJ P E ops R (⟨dst, .binOp .neq xt x y yt, ty, ps, af, none⟩ :: rest) T H g := OpsJ.step (runs_neI hx hy hxl hyl) rfl k
end

/-! ### Maps whose keys are ints -/
/-- A map, its entries in the order in which they were made; none is ever taken out. -/
def mapI (l : List (List Int × Value)) : AObj := .map (l.zipIdx.map fun x => ⟨.agg ⟨x.1.1.map cellI⟩, x.1.2, x.2⟩) l.length
def findK (l : List (List Int × Value)) (k : List Int) : Option Nat := l.findIdx? fun x => decide (x.1 = k)
def addK (l : List (List Int × Value)) (k : List Int) (z : Value) : List (List Int × Value) := match findK l k with | some _ => l | none => l ++ [(k, z)]
def atK (l : List (List Int × Value)) (k : List Int) (z : Value) : Value := match findK l k with | some i => ((l[i]?).map (·.2)).getD z | none => z
def numK (l : List (List Int × Value)) (k : List Int) : Nat := (findK l k).getD l.length
def setK (l : List (List Int × Value)) (i : Nat) (v : Value) : List (List Int × Value) := match l[i]? with | some x => l.set i (x.1, v) | none => l

theorem mapI_len (l : List (List Int × Value)) : (l.zipIdx.map fun x => (⟨.agg ⟨x.1.1.map cellI⟩, x.1.2, x.2⟩ : MapEntry)).length = l.length := by simp
theorem mapI_get (l : List (List Int × Value)) (j : Nat) (h : j < (l.zipIdx.map fun x => (⟨.agg ⟨x.1.1.map cellI⟩, x.1.2, x.2⟩ : MapEntry)).length) :
    (l.zipIdx.map fun x => (⟨.agg ⟨x.1.1.map cellI⟩, x.1.2, x.2⟩ : MapEntry))[j] = ⟨.agg ⟨(l[j]'(by simpa using h)).1.map cellI⟩, (l[j]'(by simpa using h)).2, j⟩ := by simp

/-- what lies behind such a map -/
theorem mapI_rel {ρ : Ren} {l : List (List Int × Value)} {m : Img} {b : Option Obj} : ORel ρ (mapI l) m b ↔ m.own = true ∧ ∃ es' : Array MapEntry, b = some (.map es' l.length) ∧ es'.size = l.length ∧
    ∀ (j : Nat) (h : j < l.length) (h' : j < es'.size), es'[j].key = .agg (l[j].1.map cellI).toArray ∧ VRel ρ l[j].2 es'[j].val ∧ es'[j].born = j := by
  unfold mapI
  simp only [ORel]
  constructor
  · rintro ⟨h1, es', h2, h3, h4⟩
    refine ⟨h1, es', h2, by simpa using h3.symm, fun j h h' => ?_⟩
    obtain ⟨q1, q2, q3⟩ := h4 j (by simpa using h) h'
    rw [mapI_get] at q1 q2 q3
    exact ⟨rel_ints q1, q2, q3.symm⟩
  · rintro ⟨h1, es', h2, h3, h4⟩
    refine ⟨h1, es', h2, by simp [h3], fun j h h' => ?_⟩
    have h0 : j < l.length := by simpa using h
    obtain ⟨q1, q2, q3⟩ := h4 j h0 h'
    rw [mapI_get]
    refine ⟨?_, q2, q3.symm⟩
    rw [q1]
    exact .agg rfl fun i a b => by simp; exact .int _ _

theorem findAsking_ints {P : Program} {t : TypeId} {n : Nat} (ht : IntsC P t n) (k : List Int) (hk : k.length = n) (w : World) : ∀ (l : List (List Int × Value)) (es : List MapEntry) (i0 : Nat), l.length = es.length → (∀ x ∈ l, x.1.length = n) →
    (∀ (j : Nat) (h : j < l.length) (h' : j < es.length), es[j].key = .agg (l[j].1.map cellI).toArray) →
    (Instr.findAsking t (.agg (k.map cellI).toArray) es i0).run P w = .ok ((findK l k).bind fun i => (es[i]?).map fun e => (i0 + i, e.val)) w
  | [], [], i0, _, _, _ => rfl
  | [], _ :: _, _, h, _, _ => by simp at h
  | _ :: _, [], _, h, _, _ => by simp at h
  | x :: l, e :: es, i0, hl, hx, he => by
    have h0 : e.key = .agg (x.1.map cellI).toArray := he 0 (by simp) (by simp)
    have ih := findAsking_ints ht k hk w l es (i0 + 1) (by simpa using hl) (fun y hy => hx y (by simp [hy])) (fun j h h' => he (j + 1) (by simpa using h) (by simpa using h'))
    have heq : (Op.equal t (.agg (k.map cellI).toArray) e.key).run P w = .ok (decide (k = x.1)) w := by rw [h0]; exact ht.eq k x.1 hk (hx x (by simp)) w
    rw [Instr.findAsking, Sem.run_bind, heq, Result.andThen_ok]
    by_cases hkx : k = x.1
    · simp [hkx, findK, List.findIdx?_cons]
    · have hkx' : ¬ x.1 = k := fun e => hkx e.symm
      simp only [decide_eq_false hkx, Bool.false_eq_true, if_false, ih, findK, List.findIdx?_cons, decide_eq_false hkx']
      cases List.findIdx? (fun x => decide (x.1 = k)) l with
      | none => rfl
      | some i => simp [Nat.add_assoc, Nat.add_comm 1 i]

theorem findKey_ints {P : Program} {t : TypeId} {n : Nat} (ht : IntsC P t n) (k : List Int) (hk : k.length = n) (w : World) (l : List (List Int × Value)) (es : Array MapEntry) (hl : es.size = l.length) (hx : ∀ x ∈ l, x.1.length = n)
    (he : ∀ (j : Nat) (h : j < l.length) (h' : j < es.size), es[j].key = .agg (l[j].1.map cellI).toArray) :
    (Instr.findKey t (.agg (k.map cellI).toArray) es.toList).run P w = .ok ((findK l k).bind fun i => (es[i]?).map fun e => (i, e.val)) w := by
  obtain ⟨d, hd⟩ := ht.und
  have ha := findAsking_ints ht k hk w l es.toList 0 (by simp [hl]) hx (fun j h h' => by simpa using he j h (by simpa using h'))
  simp only [Nat.zero_add, Array.getElem?_toList] at ha
  rw [Instr.findKey, Sem.run_bind, run_underlying hd, Result.andThen_ok]
  cases hes : es.toList with
  | nil =>
    have : l = [] := by
      have : es.size = 0 := by have := congrArg List.length hes; simpa using this
      exact List.length_eq_zero_iff.1 (by omega)
    subst this
    rfl
  | cons e es2 =>
    have hn : ∀ (v : Value), Instr.sameNow d (.agg (k.map cellI).toArray) v = none := fun v => by cases d <;> rfl
    rw [hes] at ha
    simp only [Instr.findNow, hn]
    exact ha

theorem findK_lt {l : List (List Int × Value)} {k : List Int} {i : Nat} (h : findK l k = some i) : ∃ hl : i < l.length, l[i].1 = k := by
  unfold findK at h
  obtain ⟨h1, h2, _⟩ := List.findIdx?_eq_some_iff_getElem.1 h
  exact ⟨h1, by simpa using h2⟩

section
variable {γ : Type} {P : Program} {E : Env γ} {T : List Value} {H : AHeap} {g : γ} {R : List Value → AHeap → γ → Prop} {ops : Array Oper} {dst : Option Tmp} {ty : TypeId} {ps : String} {af : Array Edge} {rest : List Oper} {gd : Option (Nat × Bool)}

theorem rel_map {ρ : Ren} {i : Nat} {v' : Value} (h : VRel ρ (.map (some i)) v') : ∃ m, ρ i = some m ∧ v' = .map (some m.blk) := by
  cases h with | @map _ m h => exact ⟨m, h, rfl⟩

theorem runs_makeMap {t : TypeId} : Runs P ⟨dst, .makeMap t none, ty, ps, af, gd⟩ (.map (some H.length)) (H ++ [mapI []]) T H := by
  intro ρ w ac hs _
  obtain ⟨h1, h2⟩ := hs.alloc (mapI []) (.map #[] 0) ⟨w.heap.size, 0, 0, true⟩ rfl (mapI_rel.2 ⟨rfl, #[], rfl, rfl, fun j h _ => by simp at h⟩)
  refine ⟨.map (some w.heap.size), w.alloc (.map #[] 0), _, .inl ?_, .map (m := ⟨w.heap.size, 0, 0, true⟩) (Ren.add_same _ _ _), h1, h2⟩
  simp [execOp, Instr.makeMap]

theorem map_at {ρ : Ren} {w : World} (hs : SRel ρ H w) {i : Nat} {m : Img} {l : List (List Int × Value)} (hi : ρ i = some m) (ho : H[i]? = some (mapI l)) :
    m.own = true ∧ ∃ es' : Array MapEntry, w.heap[m.blk]? = some (.map es' l.length) ∧ es'.size = l.length ∧ ∀ (j : Nat) (h : j < l.length) (h' : j < es'.size), es'[j].key = .agg (l[j].1.map cellI).toArray ∧ VRel ρ l[j].2 es'[j].val ∧ es'[j].born = j :=
  mapI_rel.1 (hs.obj i m _ hi ho)

theorem runs_lookup {t kt et : TypeId} {x y : Operand} {n nn : Nat} {z : Value} {b : Nat} {d : TypeDesc} {n2 : Nat} {z2 : Value} {b2 : Nat} {i : Nat} {k : List Int} {l : List (List Int × Value)} (ht : Ty P t (.map kt et) nn z b) (hk : IntsC P kt n) (he : Ty P et d n2 z2 b2)
    (hx : evalT T x = .map (some i)) (hy : evalT T y = .agg ⟨k.map cellI⟩) (hkl : k.length = n) (hl : ∀ x ∈ l, x.1.length = n) (ho : H[i]? = some (mapI l)) :
    Runs P ⟨dst, .lookup t x y false, ty, ps, af, gd⟩ (atK l k (constT z2)) H T H :=
  Runs.pure fun ρ w ac hs hT => by
    obtain ⟨m, hm, hv⟩ := rel_map (hx ▸ hT.eval x)
    have hyv := rel_ints (hy ▸ hT.eval y)
    obtain ⟨_, es, hb, hsz, hen⟩ := map_at hs hm ho
    have hf := findKey_ints hk k hkl w l es hsz hl (fun j h h' => (hen j h h').1)
    cases hfk : findK l k with
    | none =>
      rw [hfk] at hf
      refine ⟨z2, ?_, by unfold atK; rw [hfk]; exact constT_rel _ _⟩
      simp only [execOp, Instr.lookup, hv, hyv, Sem.run_bind, ht.und w, Result.andThen_ok, MapKept.run_getObj_map hb, Sem.run_pure, hk.key _ k hkl w, hf, Option.bind_none, he.zero w]
      rfl
    | some j =>
      obtain ⟨hj, _⟩ := findK_lt hfk
      have hj' : j < es.size := by omega
      rw [hfk] at hf
      simp only [Option.bind_some, Array.getElem?_eq_getElem hj', Option.map_some] at hf
      refine ⟨es[j].val, ?_, by unfold atK; rw [hfk]; simp only [List.getElem?_eq_getElem hj, Option.map_some, Option.getD_some]; exact (hen j hj hj').2.1⟩
      simp only [execOp, Instr.lookup, hv, hyv, Sem.run_bind, ht.und w, Result.andThen_ok, MapKept.run_getObj_map hb, Sem.run_pure, hk.key _ k hkl w, hf]
      rfl

/-- A map's block turned. -/
def putB (w : World) (b : Nat) (o : Obj) : World := { w with heap := w.heap.setIfInBounds b o }
theorem putB_same {w : World} {b : Nat} {o' : Obj} (o : Obj) (h : w.heap[b]? = some o') : (putB w b o).heap[b]? = some o := by
  have hlt := (Array.getElem?_eq_some_iff.1 h).1
  simp [putB, hlt]
theorem putB_other {w : World} {b k : Nat} (o : Obj) (h : k ≠ b) : (putB w b o).heap[k]? = w.heap[k]? := by
  simp only [putB]
  rw [Array.getElem?_setIfInBounds_ne (Ne.symm h)]
theorem putB_size {w : World} {b : Nat} (o : Obj) : (putB w b o).heap.size = w.heap.size := by simp [putB]

/-- a map of ours turns into another one -/
theorem map_turn {ρ : Ren} {w : World} (hs : SRel ρ H w) {i : Nat} {m : Img} {l : List (List Int × Value)} (hi : ρ i = some m) (ho : H[i]? = some (mapI l)) (l' : List (List Int × Value)) (es' : Array MapEntry) (hsz : es'.size = l'.length)
    (hen : ∀ (j : Nat) (h : j < l'.length) (h' : j < es'.size), es'[j].key = .agg (l'[j].1.map cellI).toArray ∧ VRel ρ l'[j].2 es'[j].val ∧ es'[j].born = j) :
    SRel ρ (H.set i (mapI l')) (putB w m.blk (.map es' l'.length)) ∧ Step ρ H w ρ (H.set i (mapI l')) (putB w m.blk (.map es' l'.length)) := by
  obtain ⟨hown, es, hb, _, _⟩ := map_at hs hi ho
  exact hs.turn (w' := putB w m.blk (.map es' l'.length)) (mapI l') hi ho rfl hown (fun b hb' => putB_other _ hb') (putB_size _) rfl rfl rfl (by rw [putB_same _ hb]; exact mapI_rel.2 ⟨hown, es', rfl, hsz, hen⟩)

theorem set_same_obj {i : Nat} {o : AObj} (h : H[i]? = some o) : H.set i o = H := by
  apply List.ext_getElem?
  intro j
  rw [List.getElem?_set]
  split
  · rename_i e; subst e
    rw [if_pos (List.getElem?_eq_some_iff.1 h).1, h]
  · rfl
theorem sameBits_ints (k : List Int) : Instr.sameBits 10000 (.agg (k.map cellI).toArray) (.agg (k.map cellI).toArray) = true := by
  show Instr.sameBits (9999 + 1) _ _ = true
  simp only [Instr.sameBits, beq_self_eq_true, Bool.true_and, List.all_eq_true]
  rintro ⟨x, y⟩ hxy
  rw [List.zip_eq_zipWith, List.zipWith_self] at hxy
  obtain ⟨v, hv, he⟩ := List.mem_map.1 hxy
  cases he
  simp only [List.mem_map] at hv
  obtain ⟨n, _, rfl⟩ := hv
  show Instr.sameBits (9998 + 1) _ _ = true
  simp [Instr.sameBits]
theorem keyStays_ints {P : Program} (k : List Int) (w : World) : (Instr.keyThatStays (.agg (k.map cellI).toArray) (.agg (k.map cellI).toArray)).run P w = .ok (.agg (k.map cellI).toArray) w := by
  simp [Instr.keyThatStays, sameBits_ints]

theorem addK_some {l : List (List Int × Value)} {k : List Int} {z : Value} {i : Nat} (h : findK l k = some i) : addK l k z = l := by unfold addK; rw [h]
theorem addK_none {l : List (List Int × Value)} {k : List Int} {z : Value} (h : findK l k = none) : addK l k z = l ++ [(k, z)] := by unfold addK; rw [h]

theorem runs_mapEntry {t kt et : TypeId} {x y : Operand} {n nn : Nat} {z : Value} {b : Nat} {d : TypeDesc} {n2 : Nat} {z2 : Value} {b2 : Nat} {i : Nat} {k : List Int} {l : List (List Int × Value)} (ht : Ty P t (.map kt et) nn z b) (hk : IntsC P kt n) (he : Ty P et d n2 z2 b2)
    (hx : evalT T x = .map (some i)) (hy : evalT T y = .agg ⟨k.map cellI⟩) (hkl : k.length = n) (hl : ∀ x ∈ l, x.1.length = n) (ho : H[i]? = some (mapI l)) :
    Runs P ⟨dst, .mapEntry t x y, ty, ps, af, gd⟩ (.tuple #[atK l k (constT z2), .int .i64 (numK l k)]) (H.set i (mapI (addK l k (constT z2)))) T H := by
  intro ρ w ac hs hT
  obtain ⟨m, hm, hv⟩ := rel_map (hx ▸ hT.eval x)
  have hyv := rel_ints (hy ▸ hT.eval y)
  obtain ⟨hown, es, hb, hsz, hen⟩ := map_at hs hm ho
  have hf := findKey_ints hk k hkl w l es hsz hl (fun j h h' => (hen j h h').1)
  have tup : ∀ {u v u' v' : Value}, VRel ρ u u' → VRel ρ v v' → VRel ρ (.tuple #[u, v]) (.tuple #[u', v']) := fun h1 h2 => .tuple rfl fun j p q => by
    match j, p with
    | 0, _ => exact h1
    | 1, _ => exact h2
  cases hfk : findK l k with
  | none =>
    rw [hfk] at hf
    have hz : ∀ w', (zeroValue et).run P w' = .ok z2 w' := fun w' => he.zero w'
    obtain ⟨h1, h2⟩ := map_turn hs hm ho (l ++ [(k, constT z2)]) (es.push { key := .agg (k.map cellI).toArray, val := z2, born := l.length }) (by simp [hsz]) (fun j h h' => by
      by_cases hj : j < l.length
      · have hj' : j < es.size := by omega
        rw [Array.getElem_push_lt hj', List.getElem_append_left hj]
        exact hen j hj hj'
      · have hj2 : j = l.length := by simp at h; omega
        subst hj2
        rw [List.getElem_append_right (Nat.le_refl _)]
        have : (es.push { key := .agg (k.map cellI).toArray, val := z2, born := l.length })[l.length] = { key := .agg (k.map cellI).toArray, val := z2, born := l.length } := by simp [← hsz]
        rw [this]
        exact ⟨by simp, by simp; exact constT_rel _ _, rfl⟩)
    refine ⟨.tuple #[z2, .int .i64 l.length], _, ρ, .inl ?_, ?_, by rw [addK_none hfk]; exact h1, by rw [addK_none hfk]; exact h2⟩
    · simp only [execOp, Instr.mapEntry, hv, hyv, Sem.run_bind, ht.und w, Result.andThen_ok, MapKept.run_getObj_map hb, hk.key _ k hkl w, hf, Option.bind_none, hz, MapKept.run_setObj_map _ hb]
      simp [putB, goInt]
    · exact tup (by unfold atK; rw [hfk]; exact constT_rel _ _) (by unfold numK; rw [hfk]; exact .int _ _)
  | some j =>
    obtain ⟨hj, hjk⟩ := findK_lt hfk
    have hj' : j < es.size := by omega
    rw [hfk] at hf
    simp only [Option.bind_some, Array.getElem?_eq_getElem hj', Option.map_some] at hf
    obtain ⟨e1, e2, e3⟩ := hen j hj hj'
    rw [hjk] at e1
    obtain ⟨h1, h2⟩ := map_turn hs hm ho l (es.modify j fun e => { e with key := .agg (k.map cellI).toArray }) (by simp [hsz]) (fun j2 h h' => by
      have h3 : j2 < es.size := by omega
      rw [Array.getElem_modify]
      split
      · rename_i e; subst e
        exact ⟨by rw [hjk], e2, e3⟩
      · exact hen j2 h h3)
    refine ⟨.tuple #[es[j].val, .int .i64 j], _, ρ, .inl ?_, ?_, by rw [addK_some hfk]; exact h1, by rw [addK_some hfk]; exact h2⟩
    · simp only [execOp, Instr.mapEntry, hv, hyv, Sem.run_bind, ht.und w, Result.andThen_ok, MapKept.run_getObj_map hb, hk.key _ k hkl w, hf, Array.getElem?_eq_getElem hj', Option.map_some, Option.getD_some, e1, keyStays_ints, MapKept.run_setObj_map _ hb]
      simp [putB, goInt, e3]
    · exact tup (by unfold atK; rw [hfk]; simp only [List.getElem?_eq_getElem hj, Option.map_some, Option.getD_some]; exact e2) (by unfold numK; rw [hfk]; exact .int _ _)

theorem setK_some {l : List (List Int × Value)} {i : Nat} {v : Value} {x : List Int × Value} (h : l[i]? = some x) : setK l i v = l.set i (x.1, v) := by unfold setK; rw [h]
theorem setK_len (l : List (List Int × Value)) (i : Nat) (v : Value) : (setK l i v).length = l.length := by unfold setK; split <;> simp

theorem runs_entryStore {t : TypeId} {x s y : Operand} {i j : Nat} {v : Value} {l : List (List Int × Value)} (hx : evalT T x = .map (some i)) (hst : evalT T s = .int .i64 j) (hy : evalT T y = v) (hj : j < l.length) (ho : H[i]? = some (mapI l)) :
    Runs P ⟨dst, .entryStore t x s y, ty, ps, af, gd⟩ undef (H.set i (mapI (setK l j v))) T H := by
  intro ρ w ac hs hT
  obtain ⟨m, hm, hv⟩ := rel_map (hx ▸ hT.eval x)
  have hsv := rel_int (hst ▸ hT.eval s)
  have hyv := hy ▸ hT.eval y
  obtain ⟨hown, es, hb, hsz, hen⟩ := map_at hs hm ho
  have hj' : j < es.size := by omega
  have hx0 : l[j]? = some l[j] := by simp
  have hfi : es.findIdx? (fun e => (e.born : Int) == (j : Int)) = some j := by
    rw [Go.WideElems.findIdx_arr, List.findIdx?_eq_some_iff_getElem]
    refine ⟨by simpa using hj', by simp [(hen j hj hj').2.2], fun k hk => ?_⟩
    have := (hen k (by omega) (by omega)).2.2
    simp [this]
    omega
  obtain ⟨h1, h2⟩ := map_turn hs hm ho (setK l j v) (es.modify j fun e => { e with val := ac.eval y }) (by simp [hsz, setK_len]) (fun j2 h h' => by
    have h3 : j2 < es.size := by simpa using h'
    rw [Array.getElem_modify]
    simp only [setK_some hx0] at h ⊢
    split
    · rename_i e; subst e
      simp only [List.getElem_set_self]
      exact ⟨(hen j hj hj').1, hyv, (hen j hj hj').2.2⟩
    · rename_i e
      rw [List.getElem_set_ne e]
      exact hen j2 (by omega) h3)
  refine ⟨undef, _, ρ, .inr ⟨?_, rfl⟩, undef_rel ρ, h1, h2⟩
  simp only [execOp, Instr.entryStore, hv, hsv, Sem.run_bind, asInt, asIntOf, Sem.run_pure, Result.andThen_ok, MapKept.run_getObj_map hb]
  simp [hfi, MapKept.run_setObj_map _ hb, putB, setK_len]

def putK (l : List (List Int × Value)) (k : List Int) (v : Value) : List (List Int × Value) := match findK l k with | some i => setK l i v | none => l ++ [(k, v)]
theorem runs_mapUpdate {t kt et : TypeId} {x y u : Operand} {n nn : Nat} {z : Value} {b : Nat} {i : Nat} {k : List Int} {v : Value} {l : List (List Int × Value)} (ht : Ty P t (.map kt et) nn z b) (hk : IntsC P kt n)
    (hx : evalT T x = .map (some i)) (hy : evalT T y = .agg ⟨k.map cellI⟩) (hu : evalT T u = v) (hkl : k.length = n) (hl : ∀ x ∈ l, x.1.length = n) (ho : H[i]? = some (mapI l)) :
    Runs P ⟨dst, .mapUpdate t x y u, ty, ps, af, gd⟩ undef (H.set i (mapI (putK l k v))) T H := by
  intro ρ w ac hs hT
  obtain ⟨m, hm, hv⟩ := rel_map (hx ▸ hT.eval x)
  have hyv := rel_ints (hy ▸ hT.eval y)
  have huv := hu ▸ hT.eval u
  obtain ⟨hown, es, hb, hsz, hen⟩ := map_at hs hm ho
  have hf := findKey_ints hk k hkl w l es hsz hl (fun j h h' => (hen j h h').1)
  cases hfk : findK l k with
  | none =>
    rw [hfk] at hf
    have hpk : putK l k v = l ++ [(k, v)] := by unfold putK; rw [hfk]
    obtain ⟨h1, h2⟩ := map_turn hs hm ho (l ++ [(k, v)]) (es.push { key := .agg (k.map cellI).toArray, val := ac.eval u, born := l.length }) (by simp [hsz]) (fun j h h' => by
      by_cases hj : j < l.length
      · have hj' : j < es.size := by omega
        rw [Array.getElem_push_lt hj', List.getElem_append_left hj]
        exact hen j hj hj'
      · have hj2 : j = l.length := by simp at h; omega
        subst hj2
        rw [List.getElem_append_right (Nat.le_refl _)]
        have : (es.push { key := .agg (k.map cellI).toArray, val := ac.eval u, born := l.length })[l.length] = { key := .agg (k.map cellI).toArray, val := ac.eval u, born := l.length } := by simp [← hsz]
        rw [this]
        exact ⟨by simp, by simp; exact huv, rfl⟩)
    refine ⟨undef, _, ρ, .inr ⟨?_, rfl⟩, undef_rel ρ, by rw [hpk]; exact h1, by rw [hpk]; exact h2⟩
    simp only [execOp, Instr.mapUpdate, hv, hyv, Sem.run_bind, ht.und w, Result.andThen_ok, MapKept.run_getObj_map hb, hk.key _ k hkl w, hf, Option.bind_none, MapKept.run_setObj_map _ hb]
    simp [putB]
  | some j =>
    obtain ⟨hj, hjk⟩ := findK_lt hfk
    have hj' : j < es.size := by omega
    have hx0 : l[j]? = some l[j] := by simp
    have hpk : putK l k v = setK l j v := by unfold putK; rw [hfk]
    rw [hfk] at hf
    simp only [Option.bind_some, Array.getElem?_eq_getElem hj', Option.map_some] at hf
    obtain ⟨e1, e2, e3⟩ := hen j hj hj'
    rw [hjk] at e1
    obtain ⟨h1, h2⟩ := map_turn hs hm ho (setK l j v) (es.modify j fun e => { e with key := .agg (k.map cellI).toArray, val := ac.eval u }) (by simp [hsz, setK_len]) (fun j2 h h' => by
      have h3 : j2 < es.size := by simpa using h'
      rw [Array.getElem_modify]
      simp only [setK_some hx0] at h ⊢
      split
      · rename_i e; subst e
        simp only [List.getElem_set_self]
        exact ⟨by rw [hjk], huv, e3⟩
      · rename_i e
        rw [List.getElem_set_ne e]
        exact hen j2 (by omega) h3)
    refine ⟨undef, _, ρ, .inr ⟨?_, rfl⟩, undef_rel ρ, by rw [hpk]; exact h1, by rw [hpk]; exact h2⟩
    simp only [execOp, Instr.mapUpdate, hv, hyv, Sem.run_bind, ht.und w, Result.andThen_ok, MapKept.run_getObj_map hb, hk.key _ k hkl w, hf, Array.getElem?_eq_getElem hj', Option.map_some, Option.getD_some, e1, keyStays_ints, MapKept.run_setObj_map _ hb]
    simp [putB, setK_len]

/-! ### A range over a map -/
theorem rel_iter {ρ : Ren} {w : World} (hs : SRel ρ H w) {i mp ck : Nat} {sn : List Nat} {m : Img} (hi : ρ i = some m) (ho : H[i]? = some (.iter mp ck sn)) :
    m.own = true ∧ ∃ mm, ρ mp = some mm ∧ w.heap[m.blk]? = some (.mapIter (some mm.blk) ck sn.toArray ck) := hs.obj i m _ hi ho

theorem runs_range {t kt et : TypeId} {x : Operand} {nn : Nat} {z : Value} {b i : Nat} {l : List (List Int × Value)} (ht : Ty P t (.map kt et) nn z b) (hx : evalT T x = .map (some i)) (ho : H[i]? = some (mapI l)) :
    Runs P ⟨dst, .range t x, ty, ps, af, gd⟩ (.pointer (some ⟨H.length, 0, none⟩)) (H ++ [.iter i l.length []]) T H := by
  intro ρ w ac hs hT
  obtain ⟨m, hm, hv⟩ := rel_map (hx ▸ hT.eval x)
  obtain ⟨hown, es, hb, hsz, hen⟩ := map_at hs hm ho
  have hle := Ren.add_le hs ⟨w.heap.size, 0, 0, true⟩
  have hi2 : ρ.add H.length ⟨w.heap.size, 0, 0, true⟩ i = some m := hle _ _ hm
  refine ⟨.pointer (some ⟨w.heap.size, 0, none⟩), w.alloc (.mapIter (some m.blk) l.length #[] l.length), ρ.add H.length ⟨w.heap.size, 0, 0, true⟩, .inl ?_, .ptr (m := ⟨w.heap.size, 0, 0, true⟩) (Ren.add_same _ _ _), ?_⟩
  · have := run_range_map (P := P) w t kt et m.blk es l.length ht.1 hb
    simp only [execOp, hv, Sem.run_bind, this, Result.andThen_ok, Sem.run_pure]
  · -- the new block names the map
    have hor : ORel (ρ.add H.length ⟨w.heap.size, 0, 0, true⟩) (.iter i l.length []) ⟨w.heap.size, 0, 0, true⟩ (some (.mapIter (some m.blk) l.length #[] l.length)) := ⟨rfl, m, hi2, rfl⟩
    obtain ⟨h1, h2⟩ := hs.alloc .dead (.mapIter (some m.blk) l.length #[] l.length) ⟨w.heap.size, 0, 0, true⟩ rfl trivial
    have hnew : ∀ o : AObj, (H ++ [o])[H.length]? = some o := fun o => by simp
    have hold : ∀ (o : AObj) {k : Nat}, k < H.length → (H ++ [o])[k]? = H[k]? := fun o {k} hk => List.getElem?_append_left hk
    have hlen : ∀ o : AObj, (H ++ [o]).length = H.length + 1 := fun o => by simp
    have hcl : ∀ {k mk}, (ρ.add H.length ⟨w.heap.size, 0, 0, true⟩) k = some mk → k = H.length ∧ mk = ⟨w.heap.size, 0, 0, true⟩ ∨ k < H.length ∧ ρ k = some mk := fun {k mk} hk => by
      unfold Ren.add at hk
      split at hk
      · rename_i e; exact .inl ⟨e, by simpa using hk.symm⟩
      · exact .inr ⟨(hs.dom k mk hk).1, hk⟩
    refine ⟨⟨fun k mk hk => by have := h1.dom k mk hk; rw [hlen] at this ⊢; exact this, fun k mk o hk hok => ?_, fun k k2 mk mk2 o o2 hk hk2 hok hok2 hd hd2 hown2 hbb => ?_⟩, ⟨by simp, h2.ext, h2.os, h2.tape, h2.out, h2.size, fun c hc hl => h2.keep c hc hl, fun c hc => ?_⟩⟩
    · rcases hcl hk with ⟨rfl, rfl⟩ | ⟨hlt, hk'⟩
      · rw [hnew] at hok; cases hok
        rw [show (w.alloc (.mapIter (some m.blk) l.length #[] l.length)).heap[w.heap.size]? = some (.mapIter (some m.blk) l.length #[] l.length) from heap_alloc_new w _]
        exact hor
      · rw [hold _ hlt] at hok
        exact h1.obj k mk o hk (by rw [hold _ hlt]; exact hok)
    · rcases hcl hk with ⟨rfl, rfl⟩ | ⟨hlt, hk'⟩
      · rcases hcl hk2 with ⟨rfl, rfl⟩ | ⟨hlt2, hk2'⟩
        · rfl
        · have := (hs.dom k2 mk2 hk2').2
          simp only at hbb; omega
      · rcases hcl hk2 with ⟨rfl, rfl⟩ | ⟨hlt2, hk2'⟩
        · have := (hs.dom k mk hk').2
          simp only at hbb; omega
        · rw [hold _ hlt] at hok
          rw [hold _ hlt2] at hok2
          exact hs.inj k k2 mk mk2 o o2 hk' hk2' hok hok2 hd hd2 hown2 hbb
    · obtain ⟨k, mk, o, hk, hok, hd, hown2, rfl⟩ := hc
      rcases hcl hk with ⟨rfl, rfl⟩ | ⟨hlt, hk'⟩
      · exact .inl (Nat.le_refl _)
      · rw [hold _ hlt] at hok
        exact .inr ⟨k, mk, o, hk', hok, hd, hown2, rfl⟩

theorem SRel.alike {ρ : Ren} {w w1 : World} (h : SRel ρ H w) (ha : w1.heap = w.heap) : SRel ρ H w1 := ⟨fun i m hi => by rw [ha]; exact h.dom i m hi, fun i m o hi ho => by rw [ha]; exact h.obj i m o hi ho, h.inj⟩

/-- what 'next' does to an iterator that lies anywhere -/
theorem run_next_any {w : World} {ib bm since : Nat} {seen : Array Nat} {es : Array MapEntry} (hi : w.heap[ib]? = some (.mapIter (some bm) since seen since)) (hb : w.heap[bm]? = some (.map es since)) (hold : ∀ x ∈ es.toList, x.born < since) (tyx : TypeId) :
    ((leftOf es seen).size = 0 ∧ (Instr.next (.pointer (some ⟨ib, 0, none⟩)) false tyx).run P w = .ok (.tuple #[.bool false]) w) ∨
    ∃ e ∈ (leftOf es seen).toList, ∃ w1 : World, w1.heap = w.heap ∧ w1.os = w.os ∧ w1.tape = w.tape ∧ w1.output = w.output ∧ (Instr.next (.pointer (some ⟨ib, 0, none⟩)) false tyx).run P w = .ok (.tuple #[.bool true, e.key, e.val]) (putB w1 ib (.mapIter (some bm) since (seen.push e.born) since)) := by
  simp only [Instr.next, getObj, Sem.run_bind, Sem.run, hi, hb, Result.andThen, next_test_false seen es since since hold (Nat.le_refl _), Bool.false_eq_true, if_false]
  unfold leftOf
  have hmem : ∀ x ∈ (Array.filter (fun e => !seen.contains e.born) es).toList, x.born < since := fun x hx => hold x (by simp at hx ⊢; exact hx.1)
  generalize Array.filter (fun e => !seen.contains e.born) es = L at hmem ⊢
  have e1 : L.filter (fun x => decide (x.born < since)) = L := Array.filter_eq_self.2 (fun x hx => by simpa using hmem x (by simpa using hx))
  have e2 : L.filter (fun x => decide (x.born ≥ since)) = #[] := by
    rw [Array.filter_eq_empty_iff]
    intro x hx
    have := hmem x (by simpa using hx)
    simp
    omega
  simp only [e1, e2, Array.append_empty]
  by_cases h0 : L.size = 0
  · left
    have : L = #[] := Array.eq_empty_of_size_eq_zero h0
    subst this
    refine ⟨rfl, ?_⟩
    simp [choose, Sem.run, Question.forced]
  · right
    have hne : L.isEmpty = false := by simp [Array.isEmpty, h0]
    simp only [hne, Bool.false_eq_true, if_false, Array.empty_append, Array.size_map]
    have hch : ∃ (j : Nat) (w1 : World), j < L.size ∧ (w1.heap = w.heap ∧ w1.os = w.os ∧ w1.tape = w.tape ∧ w1.output = w.output) ∧ (choose (Question.mapNext L.size)).run P w = .ok j w1 := by
      by_cases hf : L.size ≤ 1
      · exact ⟨0, w, by omega, ⟨rfl, rfl, rfl, rfl⟩, by simp [choose, Sem.run, Question.forced, hf]⟩
      · exact ⟨_, w.drew, Nat.mod_lt _ (by omega), ⟨rfl, rfl, rfl, rfl⟩, by
          simp only [choose, Sem.run, Question.forced, decide_eq_true_eq, hf, if_false, Question.cut]
          rfl⟩
    obtain ⟨j, w1, hj, hal, hrun⟩ := hch
    refine ⟨L[j], by simp, w1, hal.1, hal.2.1, hal.2.2.1, hal.2.2.2, ?_⟩
    have hset : ∀ o' : Obj, (setObj ib o').run P w1 = .ok () (putB w1 ib o') := fun o' => by
      simp only [setObj, Sem.run, hal.1, hi]
      simp [putB, hal.1]
    simp only [hrun, Array.getElem?_map, Array.getElem?_eq_getElem hj, Option.map_some, Sem.run_bind, hset, Result.andThen]
    rfl

theorem OpJ.next {γ : Type} {E : Env γ} {g : γ} {x : Operand} {i mp : Nat} {l : List (List Int × Value)} {seen : List Nat} {K : Value → AHeap → γ → Prop} (hx : evalT T x = .pointer (some ⟨i, 0, none⟩)) (ho : H[i]? = some (.iter mp l.length seen)) (hm : H[mp]? = some (mapI l))
    (hend : (∀ j, j < l.length → j ∈ seen) → K (.tuple #[.bool false]) H g) (hstep : ∀ (j : Nat) (h : j < l.length), j ∉ seen → K (.tuple #[.bool true, .agg ⟨l[j].1.map cellI⟩, l[j].2]) (H.set i (.iter mp l.length (seen ++ [j]))) g) :
    OpJ P E ⟨dst, .next x false, ty, ps, af, gd⟩ K T H g := by
  intro ρ w S ro Ds ac Q hi ht hr hmk
  obtain ⟨m, hρ, hv⟩ := rel_ptr (hx ▸ ht.eval x)
  obtain ⟨hown, mm, hρm, hit⟩ := rel_iter hi.srel hρ ho
  obtain ⟨_, es, hb, hsz, hen⟩ := map_at hi.srel hρm hm
  have hold : ∀ x ∈ es.toList, x.born < l.length := fun x hx => by
    obtain ⟨j, hj, rfl⟩ := List.getElem_of_mem hx
    simp only [Array.length_toList] at hj
    have := (hen j (by omega) hj).2.2
    simp only [Array.getElem_toList]
    omega
  rw [Oper.semAt_eq ro ac.eval _ (fun c e => by cases e)]
  rcases run_next_any (P := P) hit hb hold ty with ⟨h0, h1⟩ | ⟨e, he, w1, a1, a2, a3, a4, h1⟩
  · have hrun : (execOp ac.eval ⟨dst, .next x false, ty, ps, af, gd⟩).run P w = .ok (.value (.tuple #[.bool false])) w := by
      simp only [execOp, hv, Sem.run_bind, h1, Result.andThen_ok, Sem.run_pure]
    rw [hrun]
    refine ⟨ρ, .tuple #[.bool false], .tuple #[.bool false], H, g, S, rfl, .tuple rfl fun j p q => ?_, hi, .refl _ _ _ _, hend fun j hj => ?_⟩
    · match j, p with
      | 0, _ => exact .bool _
    · have hall : ∀ e ∈ es, (!seen.toArray.contains e.born) = false := by
        have := Array.eq_empty_of_size_eq_zero h0
        unfold leftOf at this
        rw [Array.filter_eq_empty_iff] at this
        intro e he
        simpa using this e he
      have := hall es[j] (Array.getElem_mem (by omega))
      rw [(hen j hj (by omega)).2.2] at this
      simpa using this
  · have hrun : (execOp ac.eval ⟨dst, .next x false, ty, ps, af, gd⟩).run P w = .ok (.value (.tuple #[.bool true, e.key, e.val])) (putB w1 m.blk (.mapIter (some mm.blk) l.length (seen.toArray.push e.born) l.length)) := by
      simp only [execOp, hv, Sem.run_bind, h1, Result.andThen_ok, Sem.run_pure]
    rw [hrun]
    unfold leftOf at he
    simp only [Array.toList_filter, List.mem_filter] at he
    obtain ⟨hmem, hns⟩ := he
    obtain ⟨j, hj, hje⟩ := List.getElem_of_mem hmem
    simp only [Array.length_toList] at hj
    simp only [Array.getElem_toList] at hje
    obtain ⟨q1, q2, q3⟩ := hen j (by omega) hj
    rw [hje] at q1 q2 q3
    have hs1 : SRel ρ H w1 := hi.srel.alike a1
    have hit1 : w1.heap[m.blk]? = some (.mapIter (some mm.blk) l.length seen.toArray l.length) := by rw [a1]; exact hit
    obtain ⟨t1, t2⟩ := hs1.turn (w' := putB w1 m.blk (.mapIter (some mm.blk) l.length (seen.toArray.push e.born) l.length)) (.iter mp l.length (seen ++ [j])) hρ ho rfl hown (fun b hb' => putB_other _ hb') (putB_size _) rfl rfl rfl
      (by rw [putB_same _ hit1]; exact ⟨hown, mm, hρm, by rw [q3]; simp⟩)
    have t0 : Step ρ H w ρ H w1 := ⟨Nat.le_refl _, fun _ _ => rfl, a2, a3, a4, by rw [a1]; exact Nat.le_refl _, fun _ _ _ => by rw [a1], fun _ h => .inr h⟩
    refine ⟨ρ, .tuple #[.bool true, .agg ⟨(l[j]'(by omega)).1.map cellI⟩, (l[j]'(by omega)).2], _, _, g, S, rfl, .tuple rfl fun j2 p q => ?_, hi.plain t1 (t0.trans t2), (t0.trans t2).trans' S, hstep j (by omega) ?_⟩
    · match j2, p with
      | 0, _ => exact .bool _
      | 1, _ =>
        show VRel ρ _ e.key
        rw [q1]
        exact .agg rfl fun i a b => by simp; exact .int _ _
      | 2, _ => exact q2
    · rw [q3] at hns; simpa using hns

theorem runs_entry {x : Operand} {i mp j : Nat} {l : List (List Int × Value)} {seen : List Nat} (hx : evalT T x = .pointer (some ⟨i, 0, none⟩)) (ho : H[i]? = some (.iter mp l.length (seen ++ [j]))) (hm : H[mp]? = some (mapI l)) (hj : j < l.length) :
    Runs P ⟨dst, .entry x, ty, ps, af, gd⟩ (.tuple #[.agg ⟨l[j].1.map cellI⟩, l[j].2]) H T H :=
  Runs.pure fun ρ w ac hs hT => by
    obtain ⟨m, hρ, hv⟩ := rel_ptr (hx ▸ hT.eval x)
    obtain ⟨hown, mm, hρm, hit⟩ := rel_iter hs hρ ho
    obtain ⟨_, es, hb, hsz, hen⟩ := map_at hs hρm hm
    have hj' : j < es.size := by omega
    obtain ⟨q1, q2, q3⟩ := hen j hj hj'
    have hf : es.find? (fun e => e.born == j) = some es[j] := by
      rw [← Array.find?_toList, List.find?_eq_some_iff_getElem]
      refine ⟨by simp [q3], j, by simpa using hj', by simp, fun k hk => ?_⟩
      have := (hen k (by omega) (by omega)).2.2
      simp [this]
      omega
    refine ⟨.tuple #[es[j].key, es[j].val], ?_, .tuple rfl fun j2 p q => ?_⟩
    · have hb2 : (seen ++ [j]).toArray.back? = some j := by simp
      simp [execOp, Instr.entry, hv, getObj, Sem.run, hit, hb, Result.andThen, hf, Sem.run_bind]
    · match j2, p with
      | 0, _ =>
        show VRel ρ _ es[j].key
        rw [q1]
        exact .agg rfl fun i a b => by simp; exact .int _ _
      | 1, _ => exact q2
end
end Go.Abs
namespace Go.Abs
open Go
section
variable {γ : Type} {P : Program} {E : Env γ} {T : List Value} {H : AHeap} {g : γ} {R : List Value → AHeap → γ → Prop} {ops : Array Oper} {dst : Option Tmp} {ty : TypeId} {ps : String} {af : Array Edge} {rest : List Oper}
theorem st_makeMap {t : TypeId} (k : OpsJ P E ops R rest (putT T dst (.map (some H.length))) (H ++ [mapI []]) g) : OpsJ P E ops R (⟨dst, .makeMap t none, ty, ps, af, none⟩ :: rest) T H g := OpsJ.step runs_makeMap rfl k
theorem st_lookup {t kt et : TypeId} {x y : Operand} {n nn : Nat} {z : Value} {b : Nat} {d : TypeDesc} {n2 : Nat} {z2 : Value} {b2 : Nat} {i : Nat} {ky : List Int} {l : List (List Int × Value)} [ht : TyC P t (.map kt et) nn z b] [hk : IntsC P kt n] [he : TyC P et d n2 z2 b2]
    (hx : evalT T x = .map (some i)) (hy : evalT T y = .agg ⟨ky.map cellI⟩) (hkl : ky.length = n) (hl : ∀ x ∈ l, x.1.length = n) (ho : H[i]? = some (mapI l)) (k : OpsJ P E ops R rest (putT T dst (atK l ky (constT z2))) H g) :
    OpsJ P E ops R (⟨dst, .lookup t x y false, ty, ps, af, none⟩ :: rest) T H g := OpsJ.step (runs_lookup ht.ty hk he.ty hx hy hkl hl ho) rfl k
theorem st_mapEntry {t kt et : TypeId} {x y : Operand} {n nn : Nat} {z : Value} {b : Nat} {d : TypeDesc} {n2 : Nat} {z2 : Value} {b2 : Nat} {i : Nat} {ky : List Int} {l : List (List Int × Value)} [ht : TyC P t (.map kt et) nn z b] [hk : IntsC P kt n] [he : TyC P et d n2 z2 b2]
    (hx : evalT T x = .map (some i)) (hy : evalT T y = .agg ⟨ky.map cellI⟩) (hkl : ky.length = n) (hl : ∀ x ∈ l, x.1.length = n) (ho : H[i]? = some (mapI l))
    (k : OpsJ P E ops R rest (putT T dst (.tuple #[atK l ky (constT z2), .int .i64 (numK l ky)])) (H.set i (mapI (addK l ky (constT z2)))) g) :
    OpsJ P E ops R (⟨dst, .mapEntry t x y, ty, ps, af, none⟩ :: rest) T H g := OpsJ.step (runs_mapEntry ht.ty hk he.ty hx hy hkl hl ho) rfl k
theorem st_entryStore {t : TypeId} {x s y : Operand} {i j : Nat} {v : Value} {l : List (List Int × Value)} (hx : evalT T x = .map (some i)) (hs : evalT T s = .int .i64 j) (hy : evalT T y = v) (hj : j < l.length) (ho : H[i]? = some (mapI l))
    (k : OpsJ P E ops R rest (putT T dst undef) (H.set i (mapI (setK l j v))) g) : OpsJ P E ops R (⟨dst, .entryStore t x s y, ty, ps, af, none⟩ :: rest) T H g := OpsJ.step (runs_entryStore hx hs hy hj ho) rfl k
theorem st_mapUpdate {t kt et : TypeId} {x y u : Operand} {n nn : Nat} {z : Value} {b : Nat} {i : Nat} {ky : List Int} {v : Value} {l : List (List Int × Value)} [ht : TyC P t (.map kt et) nn z b] [hk : IntsC P kt n]
    (hx : evalT T x = .map (some i)) (hy : evalT T y = .agg ⟨ky.map cellI⟩) (hu : evalT T u = v) (hkl : ky.length = n) (hl : ∀ x ∈ l, x.1.length = n) (ho : H[i]? = some (mapI l))
    (k : OpsJ P E ops R rest (putT T dst undef) (H.set i (mapI (putK l ky v))) g) : OpsJ P E ops R (⟨dst, .mapUpdate t x y u, ty, ps, af, none⟩ :: rest) T H g := OpsJ.step (runs_mapUpdate ht.ty hk hx hy hu hkl hl ho) rfl k
theorem st_range {t kt et : TypeId} {x : Operand} {nn : Nat} {z : Value} {b i : Nat} {l : List (List Int × Value)} [ht : TyC P t (.map kt et) nn z b] (hx : evalT T x = .map (some i)) (ho : H[i]? = some (mapI l))
    (k : OpsJ P E ops R rest (putT T dst (.pointer (some ⟨H.length, 0, none⟩))) (H ++ [.iter i l.length []]) g) : OpsJ P E ops R (⟨dst, .range t x, ty, ps, af, none⟩ :: rest) T H g := OpsJ.step (runs_range ht.ty hx ho) rfl k
theorem st_next {x : Operand} {i mp : Nat} {l : List (List Int × Value)} {seen : List Nat} (hx : evalT T x = .pointer (some ⟨i, 0, none⟩)) (ho : H[i]? = some (.iter mp l.length seen)) (hm : H[mp]? = some (mapI l))
    (hend : (∀ j, j < l.length → j ∈ seen) → OpsJ P E ops R rest (putT T dst (.tuple #[.bool false])) H g)
    (hstep : ∀ (j : Nat) (h : j < l.length), j ∉ seen → OpsJ P E ops R rest (putT T dst (.tuple #[.bool true, .agg ⟨l[j].1.map cellI⟩, l[j].2])) (H.set i (.iter mp l.length (seen ++ [j]))) g) :
    OpsJ P E ops R (⟨dst, .next x false, ty, ps, af, none⟩ :: rest) T H g :=
  OpsJ.stepJ (K := fun v H' g' => OpsJ P E ops R rest (putT T dst v) H' g') (OpJ.next hx ho hm hend hstep) fun _ _ _ h => h
theorem st_entry {x : Operand} {i mp j : Nat} {l : List (List Int × Value)} {seen : List Nat} (hx : evalT T x = .pointer (some ⟨i, 0, none⟩)) (ho : H[i]? = some (.iter mp l.length (seen ++ [j]))) (hm : H[mp]? = some (mapI l)) (hj : j < l.length)
    (k : OpsJ P E ops R rest (putT T dst (.tuple #[.agg ⟨l[j].1.map cellI⟩, l[j].2])) H g) : OpsJ P E ops R (⟨dst, .entry x, ty, ps, af, none⟩ :: rest) T H g := OpsJ.step (runs_entry hx ho hm hj) rfl k
end
end Go.Abs
