
import Derived.Test.YtjbiidlmpaibkaaU1
import Derived.RangeFuncIn
import Derived.RangeFuncNested
import Derived.Laws.StructEq
import Derived.Scope
import Derived.MapKept
import Derived.Laws.IdiomRangeMap
import Derived.WideKeyEntry
namespace Go.Abs
open Go
section
variable {P : Program} {T T' : List Value} {H H' : AHeap} {R : List Value → AHeap → Prop} {ops : Array Oper} {dst : Option Tmp} {ty : TypeId} {ps : String} {af : Array Edge} {rest : List Oper} {mm : Nat}
theorem Mono.of_runs {o : Oper} {v : Value} {L : AHeap} (h : Runs P o v (H ++ L) T H) (hd : isDefer o.op = false) (hL : L.all ownRow = true) : Mono P o v L T H :=
  ⟨hL, OpJ.of_runs h (fun c e => by rw [e] at hd; cases hd) ⟨rfl, rfl⟩⟩
theorem is_mono {o : Oper} (h : MonoJ P ops R mm (o :: rest) T H) : MonoJ P ops R mm (o :: rest) T H := h
theorem mj_stepL {op : Op} {v : Value} {o : AObj} (h : Runs P ⟨dst, op, ty, ps, af, none⟩ v (H ++ [o]) T H) (hd : isDefer op = false) (k : MonoJ P ops R mm rest (putT T dst v) (H ++ [o])) (hL : ownRow o = true := by rfl) :
    MonoJ P ops R (mm + 1) (⟨dst, op, ty, ps, af, none⟩ :: rest) T H := ⟨v, [o], Mono.of_runs h hd (by simpa using hL), k⟩
theorem mj_step {op : Op} {v : Value} (h : Runs P ⟨dst, op, ty, ps, af, none⟩ v H T H) (hd : isDefer op = false) (k : MonoJ P ops R mm rest (putT T dst v) H) :
    MonoJ P ops R (mm + 1) (⟨dst, op, ty, ps, af, none⟩ :: rest) T H := ⟨v, [], Mono.of_runs (by simpa using h) hd rfl, by simpa using k⟩
theorem mj_nil {l : List Oper} (h : R T H) : MonoJ P ops R 0 l T H := by cases l <;> exact h
theorem MonoJ.norm {l : List Oper} (hT : T = T') (hH : H = H') (h : MonoJ P ops R mm l T' H') : MonoJ P ops R mm l T H := by subst hT; subst hH; exact h
theorem mj_call {f : FuncId} {xs : Array Operand} {at_ : Array TypeId} {args : List Value} {K : Value → AHeap → Unit → Prop} (v : Value) (L : AHeap) [he : EntC P f] (ha : evalL T xs.toList = args) (h : CallJ P trivE f args K H ()) (hK : ∀ v' H' g', K v' H' g' → v' = v ∧ H' = H ++ L)
    (hL : L.all ownRow = true) (k : MonoJ P ops R mm rest (putT T dst v) (H ++ L)) : MonoJ P ops R (mm + 1) (⟨dst, .call { callee := .value (.func f), args := xs, argTypes := at_ }, ty, ps, af, none⟩ :: rest) T H :=
  ⟨v, L, ⟨hL, (OpJ.call he.ent ha h).mono hK⟩, k⟩
theorem mj_on {op : Op} {j : Nat} {b : Bool} (hg : guardAt ops T j = some (some b)) (k : MonoJ P ops R (mm + 1) (⟨dst, op, ty, ps, af, none⟩ :: rest) T H) : MonoJ P ops R (mm + 1) (⟨dst, op, ty, ps, af, some (j, b)⟩ :: rest) T H := by
  obtain ⟨v, L, h, k⟩ := k
  exact ⟨v, L, ⟨_, hg, fun _ => h, fun e => absurd rfl e⟩, k⟩
theorem mj_off {op : Op} {j : Nat} {b b' : Bool} (hg : guardAt ops T j = some (some b')) (hb : (b' == b) = false) (k : MonoJ P ops R mm rest (putT T dst undef) H) : MonoJ P ops R (mm + 1) (⟨dst, op, ty, ps, af, some (j, b)⟩ :: rest) T H :=
  ⟨undef, [], ⟨_, hg, fun h => (by cases h; simp at hb), fun _ => ⟨rfl, rfl⟩⟩, by simpa using k⟩
theorem mj_off' {op : Op} {j : Nat} {b : Bool} (hg : guardAt ops T j = some none) (k : MonoJ P ops R mm rest (putT T dst undef) H) : MonoJ P ops R (mm + 1) (⟨dst, op, ty, ps, af, some (j, b)⟩ :: rest) T H :=
  ⟨undef, [], ⟨_, hg, fun h => (by cases h), fun _ => ⟨rfl, rfl⟩⟩, by simpa using k⟩
theorem mj_move {x : Operand} (k : MonoJ P ops R mm rest (putT T dst (evalT T x)) H) : MonoJ P ops R (mm + 1) (⟨dst, .move x, ty, ps, af, none⟩ :: rest) T H := mj_step runs_move rfl k
theorem mj_assign {x : Operand} (k : MonoJ P ops R mm rest (putT T dst (evalT T x)) H) : MonoJ P ops R (mm + 1) (⟨dst, .assign x, ty, ps, af, none⟩ :: rest) T H := mj_step runs_assign rfl k
theorem mj_pick {c x y : Operand} {b : Bool} (hc : evalT T c = .bool b) (k : MonoJ P ops R mm rest (putT T dst (bif b then evalT T x else evalT T y)) H) : MonoJ P ops R (mm + 1) (⟨dst, .pick c x y, ty, ps, af, none⟩ :: rest) T H := mj_step (runs_pick hc) rfl k
theorem mj_nilCheck {x : Operand} {a : Addr} (hx : evalT T x = .pointer (some a)) (k : MonoJ P ops R mm rest (putT T dst (evalT T x)) H) : MonoJ P ops R (mm + 1) (⟨dst, .nilCheck x, ty, ps, af, none⟩ :: rest) T H := mj_step (runs_nilCheck hx) rfl k
theorem mj_extract {x : Operand} {j : Nat} {a : List Value} {v : Value} (hx : evalT T x = .tuple ⟨a⟩) (hv : a[j]? = some v) (k : MonoJ P ops R mm rest (putT T dst v) H) : MonoJ P ops R (mm + 1) (⟨dst, .extract x j, ty, ps, af, none⟩ :: rest) T H :=
  mj_step (runs_extract hx (by simpa using hv)) rfl k
theorem mj_int {op : BinOp} {xt yt : TypeId} {x y : Operand} {kd : IntKind} {a b : Int} {v : Value} (hx : evalT T x = .int kd a) (hy : evalT T y = .int kd b) (hv : intBin op kd a b = some v)
    (k : MonoJ P ops R mm rest (putT T dst v) H) : MonoJ P ops R (mm + 1) (⟨dst, .binOp op xt x y yt, ty, ps, af, none⟩ :: rest) T H := mj_step (runs_intBin hx hy hv) rfl k
theorem mj_add {xt yt : TypeId} {x y : Operand} {a b : Int} (hx : evalT T x = .int .i64 a) (hy : evalT T y = .int .i64 b) (hw : -9223372036854775808 ≤ a + b ∧ a + b ≤ 9223372036854775807)
    (k : MonoJ P ops R mm rest (putT T dst (.int .i64 (a + b))) H) : MonoJ P ops R (mm + 1) (⟨dst, .binOp .add xt x y yt, ty, ps, af, none⟩ :: rest) T H := mj_step (runs_intBin hx hy (by simp only [intBin, wrap64_eq hw])) rfl k
theorem mj_sub {xt yt : TypeId} {x y : Operand} {a b : Int} (hx : evalT T x = .int .i64 a) (hy : evalT T y = .int .i64 b) (hw : -9223372036854775808 ≤ a - b ∧ a - b ≤ 9223372036854775807)
    (k : MonoJ P ops R mm rest (putT T dst (.int .i64 (a - b))) H) : MonoJ P ops R (mm + 1) (⟨dst, .binOp .sub xt x y yt, ty, ps, af, none⟩ :: rest) T H := mj_step (runs_intBin hx hy (by simp only [intBin, wrap64_eq hw])) rfl k
theorem mj_mul {xt yt : TypeId} {x y : Operand} {a b : Int} (hx : evalT T x = .int .i64 a) (hy : evalT T y = .int .i64 b) (hw : -9223372036854775808 ≤ a * b ∧ a * b ≤ 9223372036854775807)
    (k : MonoJ P ops R mm rest (putT T dst (.int .i64 (a * b))) H) : MonoJ P ops R (mm + 1) (⟨dst, .binOp .mul xt x y yt, ty, ps, af, none⟩ :: rest) T H := mj_step (runs_intBin hx hy (by simp only [intBin, wrap64_eq hw])) rfl k
theorem mj_quo {xt yt : TypeId} {x y : Operand} {kd : IntKind} {a b : Int} (hx : evalT T x = .int kd a) (hy : evalT T y = .int kd b) (hb : b ≠ 0) (k : MonoJ P ops R mm rest (putT T dst (.int kd (kd.wrap (a.tdiv b)))) H) :
    MonoJ P ops R (mm + 1) (⟨dst, .binOp .quo xt x y yt, ty, ps, af, none⟩ :: rest) T H := mj_step (runs_quo hx hy hb) rfl k
theorem mj_rem {xt yt : TypeId} {x y : Operand} {kd : IntKind} {a b : Int} (hx : evalT T x = .int kd a) (hy : evalT T y = .int kd b) (hb : b ≠ 0) (k : MonoJ P ops R mm rest (putT T dst (.int kd (a.tmod b))) H) :
    MonoJ P ops R (mm + 1) (⟨dst, .binOp .rem xt x y yt, ty, ps, af, none⟩ :: rest) T H := mj_step (runs_rem hx hy hb) rfl k
theorem mj_shl {xt yt : TypeId} {x y : Operand} {kd k' : IntKind} {a b : Int} (hx : evalT T x = .int kd a) (hy : evalT T y = .int k' b) (hb : 0 ≤ b) (k : MonoJ P ops R mm rest (putT T dst (.int kd (kd.wrap (a * 2 ^ (min b.toNat kd.bits))))) H) :
    MonoJ P ops R (mm + 1) (⟨dst, .binOp .shl xt x y yt, ty, ps, af, none⟩ :: rest) T H := mj_step (runs_shl hx hy hb) rfl k
theorem mj_shr {xt yt : TypeId} {x y : Operand} {kd k' : IntKind} {a b : Int} (hx : evalT T x = .int kd a) (hy : evalT T y = .int k' b) (hb : 0 ≤ b) (k : MonoJ P ops R mm rest (putT T dst (.int kd (a.fdiv (2 ^ (min b.toNat kd.bits))))) H) :
    MonoJ P ops R (mm + 1) (⟨dst, .binOp .shr xt x y yt, ty, ps, af, none⟩ :: rest) T H := mj_step (runs_shr hx hy hb) rfl k
theorem mj_bits {op : BinOp} {xt yt : TypeId} {x y : Operand} {kd : IntKind} {a b n : Int} (hx : evalT T x = .int kd a) (hy : evalT T y = .int kd b) (hn : bitsBin op kd a b = some n) (k : MonoJ P ops R mm rest (putT T dst (.int kd n)) H) :
    MonoJ P ops R (mm + 1) (⟨dst, .binOp op xt x y yt, ty, ps, af, none⟩ :: rest) T H := mj_step (runs_bits hx hy hn) rfl k
theorem mj_eqBool {xt yt : TypeId} {x y : Operand} {a b : Bool} {n : Nat} {z : Value} {by_ : Nat} [ht : TyC P xt .bool n z by_] (hx : evalT T x = .bool a) (hy : evalT T y = .bool b) (k : MonoJ P ops R mm rest (putT T dst (.bool (a == b))) H) :
    MonoJ P ops R (mm + 1) (⟨dst, .binOp .eql xt x y yt, ty, ps, af, none⟩ :: rest) T H := mj_step (by simpa using runs_eqBool (op := .eql) ht.ty hx hy (.inl rfl)) rfl k
theorem mj_neBool {xt yt : TypeId} {x y : Operand} {a b : Bool} {n : Nat} {z : Value} {by_ : Nat} [ht : TyC P xt .bool n z by_] (hx : evalT T x = .bool a) (hy : evalT T y = .bool b) (k : MonoJ P ops R mm rest (putT T dst (.bool (!(a == b)))) H) :
    MonoJ P ops R (mm + 1) (⟨dst, .binOp .neq xt x y yt, ty, ps, af, none⟩ :: rest) T H := mj_step (by simpa using runs_eqBool (op := .neq) ht.ty hx hy (.inr rfl)) rfl k
theorem mj_not {xt : TypeId} {x : Operand} {b : Bool} (hx : evalT T x = .bool b) (k : MonoJ P ops R mm rest (putT T dst (.bool (!b))) H) : MonoJ P ops R (mm + 1) (⟨dst, .unOp .not xt x, ty, ps, af, none⟩ :: rest) T H := mj_step (runs_not hx) rfl k
theorem mj_neg {xt : TypeId} {x : Operand} {kd : IntKind} {n : Int} (hx : evalT T x = .int kd n) (k : MonoJ P ops R mm rest (putT T dst (.int kd (kd.wrap (0 - n)))) H) : MonoJ P ops R (mm + 1) (⟨dst, .unOp .neg xt x, ty, ps, af, none⟩ :: rest) T H := mj_step (runs_neg hx) rfl k
theorem mj_conv {src dt : TypeId} {x : Operand} {kd k' : IntKind} {n : Int} {ds : TypeDesc} {n1 n2 : Nat} {z1 z2 : Value} {b1 b2 : Nat} [hs : TyC P src ds n1 z1 b1] [hd : TyC P dt (.int k') n2 z2 b2] (hx : evalT T x = .int kd n)
    (k : MonoJ P ops R mm rest (putT T dst (.int k' (k'.wrap n))) H) : MonoJ P ops R (mm + 1) (⟨dst, .convert src dt x, ty, ps, af, none⟩ :: rest) T H := mj_step (runs_convInt hs.ty hd.ty hx) rfl k
theorem mj_min {x y : Operand} {at_ : Array TypeId} {kd : IntKind} {a b : Int} (hx : evalT T x = .int kd a) (hy : evalT T y = .int kd b) (k : MonoJ P ops R mm rest (putT T dst (.int kd (if b < a then b else a))) H) :
    MonoJ P ops R (mm + 1) (⟨dst, .call { callee := .builtin .min, args := #[x, y], argTypes := at_ }, ty, ps, af, none⟩ :: rest) T H := mj_step (runs_min2 hx hy) rfl k
theorem mj_max {x y : Operand} {at_ : Array TypeId} {kd : IntKind} {a b : Int} (hx : evalT T x = .int kd a) (hy : evalT T y = .int kd b) (k : MonoJ P ops R mm rest (putT T dst (.int kd (if b > a then b else a))) H) :
    MonoJ P ops R (mm + 1) (⟨dst, .call { callee := .builtin .max, args := #[x, y], argTypes := at_ }, ty, ps, af, none⟩ :: rest) T H := mj_step (runs_max2 hx hy) rfl k
theorem mj_alloc {e : TypeId} {d : TypeDesc} {n : Nat} {z : Value} {b : Nat} [ht : TyC P e d n z b] (k : MonoJ P ops R mm rest (putT T dst (.pointer (some ⟨H.length, 0, none⟩))) (H ++ [.row ((cellsL z).map constT) 1 true])) :
    MonoJ P ops R (mm + 1) (⟨dst, .alloc e, ty, ps, af, none⟩ :: rest) T H := mj_stepL (runs_alloc ht.ty rfl) rfl k
theorem mj_box {e : TypeId} {x : Operand} {v : Value} (hx : evalT T x = v) (hok : (cellsL v).all cellOk = true) (k : MonoJ P ops R mm rest (putT T dst (.pointer (some ⟨H.length, 0, none⟩))) (H ++ [.row (cellsL v) 1 true])) :
    MonoJ P ops R (mm + 1) (⟨dst, .box e x, ty, ps, af, none⟩ :: rest) T H := mj_stepL (runs_box hx rfl hok) rfl k
theorem mj_fieldAddr {s : TypeId} {x : Operand} {f i o off : Nat} [h : FaC P s f off] (hx : evalT T x = .pointer (some ⟨i, o, none⟩)) (k : MonoJ P ops R mm rest (putT T dst (.pointer (some ⟨i, o + off, none⟩))) H) :
    MonoJ P ops R (mm + 1) (⟨dst, .fieldAddr s x f, ty, ps, af, none⟩ :: rest) T H := by
  obtain ⟨fields, n, z, b, fd, d', n', z', b', h1, h2, h3, h4, rfl⟩ := h.fa
  exact mj_step (runs_fieldAddr h1 h2 h3 h4 hx) rfl k
theorem mj_indexS {t : TypeId} {x ix : Operand} {i o len cap : Nat} {kd : IntKind} {j : Int} {e : TypeId} {n : Nat} {z : Value} {b : Nat} {d' : TypeDesc} {n' : Nat} {z' : Value} {b' : Nat} [ht : TyC P t (.slice e) n z b] [he : TyC P e d' n' z' b']
    (hx : evalT T x = .slice (some ⟨i, o, none⟩) len cap) (hix : evalT T ix = .int kd j) (h0 : 0 ≤ j ∧ j < len) (k : MonoJ P ops R mm rest (putT T dst (.pointer (some ⟨i, o + j.toNat * n', none⟩))) H) :
    MonoJ P ops R (mm + 1) (⟨dst, .indexAddr t x ix, ty, ps, af, none⟩ :: rest) T H := mj_step (runs_indexAddrS ht.ty he.ty hx hix h0.1 h0.2) rfl k
theorem mj_indexA {t : TypeId} {x ix : Operand} {i o len : Nat} {kd : IntKind} {j : Int} {e : TypeId} {n : Nat} {z : Value} {b : Nat} {d' : TypeDesc} {n' : Nat} {z' : Value} {b' : Nat} [ht : TyC P t (.array len e) n z b] [he : TyC P e d' n' z' b']
    (hx : evalT T x = .pointer (some ⟨i, o, none⟩)) (hix : evalT T ix = .int kd j) (h0 : 0 ≤ j ∧ j < len) (k : MonoJ P ops R mm rest (putT T dst (.pointer (some ⟨i, o + j.toNat * n', none⟩))) H) :
    MonoJ P ops R (mm + 1) (⟨dst, .indexAddr t x ix, ty, ps, af, none⟩ :: rest) T H := mj_step (runs_indexAddrA ht.ty he.ty hx hix h0.1 h0.2) rfl k
theorem mj_load1 {t : TypeId} {x : Operand} {i o : Nat} {d : TypeDesc} {n : Nat} {z : Value} {b : Nat} {cells : List Value} {es : Nat} {own : Bool} {v : Value} [ht : TyC P t d n z b] (hd : aggD d = false) (hx : evalT T x = .pointer (some ⟨i, o, none⟩))
    (hi : H[i]? = some (.row cells es own)) (hc : cells[o]? = some v) (k : MonoJ P ops R mm rest (putT T dst v) H) : MonoJ P ops R (mm + 1) (⟨dst, .load t x, ty, ps, af, none⟩ :: rest) T H := mj_step (runs_load1 ht.ty hd hx hi hc) rfl k
theorem mj_loadN {t : TypeId} {x : Operand} {i o : Nat} {d : TypeDesc} {n : Nat} {z : Value} {b : Nat} {cells cs : List Value} {es : Nat} {own : Bool} [ht : TyC P t d n z b] (hd : aggD d = true) (hx : evalT T x = .pointer (some ⟨i, o, none⟩))
    (hi : H[i]? = some (.row cells es own)) (hn : o + n ≤ cells.length) (hcs : (cells.drop o).take n = cs) (k : MonoJ P ops R mm rest (putT T dst (.agg ⟨cs⟩)) H) : MonoJ P ops R (mm + 1) (⟨dst, .load t x, ty, ps, af, none⟩ :: rest) T H := mj_step (runs_loadN ht.ty hd hx hi hn hcs) rfl k
theorem mj_field {t : TypeId} {x : Operand} {f off size : Nat} {agg : Bool} {cs : List Value} {v : Value} [h : FdC P t f off agg size] (hx : evalT T x = .agg ⟨cs⟩)
    (hv : (if agg then some (Value.agg ⟨(cs.drop off).take size⟩) else cs[off]?) = some v) (k : MonoJ P ops R mm rest (putT T dst v) H) : MonoJ P ops R (mm + 1) (⟨dst, .field t x f, ty, ps, af, none⟩ :: rest) T H := by
  obtain ⟨fields, n, z, b, fd, d', z', b', h1, h2, h3, rfl, rfl⟩ := h.fd
  exact mj_step (runs_field h1 h2 h3 hx hv) rfl k
theorem mj_idxA {t : TypeId} {x ix : Operand} {len : Nat} {kd : IntKind} {j : Int} {e : TypeId} {n : Nat} {z : Value} {b : Nat} {d' : TypeDesc} {n' : Nat} {z' : Value} {b' : Nat} {cs : List Value} {v : Value} [ht : TyC P t (.array len e) n z b] [he : TyC P e d' n' z' b']
    (hx : evalT T x = .agg ⟨cs⟩) (hix : evalT T ix = .int kd j) (h0 : 0 ≤ j ∧ j < len) (hv : (if aggD d' then some (Value.agg ⟨(cs.drop (j.toNat * n')).take n'⟩) else cs[j.toNat * n']?) = some v) (k : MonoJ P ops R mm rest (putT T dst v) H) :
    MonoJ P ops R (mm + 1) (⟨dst, .index t x ix, ty, ps, af, none⟩ :: rest) T H := mj_step (runs_indexA ht.ty he.ty hx hix h0.1 h0.2 hv) rfl k
theorem mj_len {x : Operand} {t e : TypeId} {n : Nat} {z : Value} {b : Nat} {a : Option Addr} {len cap : Nat} [ht : TyC P t (.slice e) n z b] (hx : evalT T x = .slice a len cap) (k : MonoJ P ops R mm rest (putT T dst (.int .i64 len)) H) :
    MonoJ P ops R (mm + 1) (⟨dst, .call { callee := .builtin .len, args := #[x], argTypes := #[t] }, ty, ps, af, none⟩ :: rest) T H := mj_step (runs_lenS ht.ty hx) rfl k
theorem mj_makeFunc {f : FuncId} {first captured : Array Operand} (k : MonoJ P ops R mm rest (putT T dst (.func (.func f) ⟨evalL T first.toList⟩ ⟨evalL T captured.toList⟩)) H) :
    MonoJ P ops R (mm + 1) (⟨dst, .makeFunc (.func f) first captured, ty, ps, af, none⟩ :: rest) T H := mj_step (runs_makeFunc rfl rfl) rfl k
theorem mj_sliceTo {t : TypeId} {x hi : Operand} {e : TypeId} {n : Nat} {z : Value} {b : Nat} {d' : TypeDesc} {n' : Nat} {z' : Value} {b' : Nat} {i o len cap : Nat} {kd : IntKind} {j : Int} [ht : TyC P t (.slice e) n z b] [he : TyC P e d' n' z' b']
    (hx : evalT T x = .slice (some ⟨i, o, none⟩) len cap) (hh : evalT T hi = .int kd j) (h0 : 0 ≤ j ∧ j ≤ len) (k : MonoJ P ops R mm rest (putT T dst (.slice (some ⟨i, o, none⟩) j.toNat j.toNat)) H) :
    MonoJ P ops R (mm + 1) (⟨dst, .slice t x none (some hi) none, ty, ps, af, none⟩ :: rest) T H := mj_step (runs_sliceTo ht.ty he.ty hx hh h0.1 h0.2) rfl k
theorem mj_buildS {t : TypeId} {parts : Array (Nat × Operand)} {places : List (Nat × Nat)} {z : Value} {cs : List Value} [h : PlC P t places z] (hcs : fillA (places[·]?) ((cellsL z).map constT) (partsT T parts) = some cs) (k : MonoJ P ops R mm rest (putT T dst (.agg ⟨cs⟩)) H) :
    MonoJ P ops R (mm + 1) (⟨dst, .build t parts, ty, ps, af, none⟩ :: rest) T H := by
  obtain ⟨fields, n, b, h1, h2⟩ := h.pl
  exact mj_step (runs_buildS h1 h2 (by simpa using hcs)) rfl k
theorem mj_buildA {t : TypeId} {parts : Array (Nat × Operand)} {len : Nat} {e : TypeId} {n : Nat} {z : Value} {b : Nat} {d' : TypeDesc} {n' : Nat} {z' : Value} {b' : Nat} {cs : List Value} [ht : TyC P t (.array len e) n z b] [he : TyC P e d' n' z' b']
    (hcs : fillA (fun i => some (i * n', n')) ((cellsL z).map constT) (partsT T parts) = some cs) (k : MonoJ P ops R mm rest (putT T dst (.agg ⟨cs⟩)) H) : MonoJ P ops R (mm + 1) (⟨dst, .build t parts, ty, ps, af, none⟩ :: rest) T H :=
  mj_step (runs_buildA ht.ty he.ty hcs) rfl k
theorem mj_buildSlice {t : TypeId} {len : Nat} {parts : Array (Nat × Operand)} {e : TypeId} {n : Nat} {z : Value} {b : Nat} {d' : TypeDesc} {n' : Nat} {z' : Value} {b' : Nat} {cs : List Value} [ht : TyC P t (.slice e) n z b] [he : TyC P e d' n' z' b']
    (hlen : len * n' ≤ 2 ^ 24) (hcs : fillA (fun i => some (i * n', n')) (List.replicate (len * n') wild) (partsT T parts) = some cs) (k : MonoJ P ops R mm rest (putT T dst (.slice (some ⟨H.length, 0, none⟩) len len)) (H ++ [.row cs n' true])) :
    MonoJ P ops R (mm + 1) (⟨dst, .buildSlice t len parts, ty, ps, af, none⟩ :: rest) T H := mj_stepL (runs_buildSlice ht.ty he.ty hlen hcs) rfl k
end
section
variable {γ : Type} {P : Program} {E : Env γ} {T T' : List Value} {H H' : AHeap} {g : γ} {R : List Value → AHeap → γ → Prop} {ops : Array Oper} {dst : Option Tmp} {ty : TypeId} {ps : String} {af : Array Edge} {rest : List Oper}
theorem mj_splitT {R : List Value → AHeap → Prop} {mm : Nat} {op : Op} {j : Nat} {c : Bool} (hg : guardAt ops T j = some (some c)) (h1 : c = true → MonoJ P ops R (mm + 1) (⟨dst, op, ty, ps, af, none⟩ :: rest) T H) (h2 : c = false → MonoJ P ops R mm rest (putT T dst undef) H) :
    MonoJ P ops R (mm + 1) (⟨dst, op, ty, ps, af, some (j, true)⟩ :: rest) T H := by
  cases c with
  | true => exact mj_on hg (h1 rfl)
  | false => exact mj_off hg rfl (h2 rfl)
theorem mj_splitF {R : List Value → AHeap → Prop} {mm : Nat} {op : Op} {j : Nat} {c : Bool} (hg : guardAt ops T j = some (some c)) (h1 : c = false → MonoJ P ops R (mm + 1) (⟨dst, op, ty, ps, af, none⟩ :: rest) T H) (h2 : c = true → MonoJ P ops R mm rest (putT T dst undef) H) :
    MonoJ P ops R (mm + 1) (⟨dst, op, ty, ps, af, some (j, false)⟩ :: rest) T H := by
  cases c with
  | false => exact mj_on hg (h1 rfl)
  | true => exact mj_off hg rfl (h2 rfl)
theorem OpsJ.splitT {op : Op} {j : Nat} {c : Bool} (hg : guardAt ops T j = some (some c)) (h1 : c = true → OpsJ P E ops R (⟨dst, op, ty, ps, af, none⟩ :: rest) T H g) (h2 : c = false → OpsJ P E ops R rest (putT T dst undef) H g) :
    OpsJ P E ops R (⟨dst, op, ty, ps, af, some (j, true)⟩ :: rest) T H g :=
  ⟨_, hg, fun h => h1 (by simpa using h), fun h => h2 (by cases c with | true => exact absurd rfl h | false => rfl)⟩
theorem OpsJ.splitF {op : Op} {j : Nat} {c : Bool} (hg : guardAt ops T j = some (some c)) (h1 : c = false → OpsJ P E ops R (⟨dst, op, ty, ps, af, none⟩ :: rest) T H g) (h2 : c = true → OpsJ P E ops R rest (putT T dst undef) H g) :
    OpsJ P E ops R (⟨dst, op, ty, ps, af, some (j, false)⟩ :: rest) T H g :=
  ⟨_, hg, fun h => h1 (by simpa using h), fun h => h2 (by cases c with | false => exact absurd rfl h | true => rfl)⟩
theorem st_make1 {t : TypeId} {l c : Operand} {e : TypeId} {n : Nat} {z : Value} {b : Nat} {d' : TypeDesc} {z' : Value} {b' : Nat} {k k' : IntKind} {jl jc : Int} [ht : TyC P t (.slice e) n z b] [he : TyC P e d' 1 z' b'] (hz' : cellsL z' = [z'])
    (hl : evalT T l = .int k jl) (hc : evalT T c = .int k' jc) (h0 : 0 ≤ jl ∧ jl ≤ jc ∧ (b' : Int) * jc ≤ 281474976710656 ∧ jc ≤ 9223372036854775807)
    (kk : OpsJ P E ops R rest (putT T dst (.slice (some ⟨H.length, 0, none⟩) jl.toNat jl.toNat)) (H ++ [.row (List.replicate jl.toNat (constT z')) 1 true]) g) : OpsJ P E ops R (⟨dst, .makeSlice t l c, ty, ps, af, none⟩ :: rest) T H g :=
  OpsJ.step (runs_makeSlice ht.ty he.ty (by simp [hz']) hl hc h0.1 h0.2.1 h0.2.2.1 h0.2.2.2 (by simp) (fun j h => by simp [hz', Nat.mod_one])) rfl kk
theorem st_appendOwn {s x : Operand} {t e : TypeId} {n : Nat} {z : Value} {b : Nat} {d' : TypeDesc} {n' : Nat} {z' : Value} {b' : Nat} {i0 len cp i o m cap : Nat} {cells0 cells news : List Value} {es : Nat} {own : Bool} [ht : TyC P t (.slice e) n z b] [he : TyC P e d' n' z' b'] (hz' : (cellsL z').length = n')
    (hs_ : evalT T s = .slice (some ⟨i0, 0, none⟩) len cp) (hx : evalT T x = .slice (some ⟨i, o, none⟩) m cap) (hi0 : H[i0]? = some (.row cells0 n' true)) (hlen : len * n' ≤ cells0.length) (hi : H[i]? = some (.row cells es own))
    (hfit : o + m * n' ≤ cells.length) (hnews : (cells.drop o).take (m * n') = news) (hok : news.all cellOk = true) (h63 : len + m ≤ maxLen ∧ (len + m) * b' ≤ 140737488355328)
    (k : OpsJ P E ops R rest (putT T dst (.slice (some ⟨H.length, 0, none⟩) (len + m) (len + m))) (H.set i0 .dead ++ [.row (cells0.take (len * n') ++ news) n' true]) g) :
    OpsJ P E ops R (⟨dst, .call { callee := .builtin .append, args := #[s, x], argTypes := #[t, t] }, ty, ps, af, none⟩ :: rest) T H g :=
  OpsJ.step (runs_appendOwn ht.ty he.ty hz' hs_ hi0 hlen hx hi hfit hnews hok h63.1 h63.2) rfl k
theorem st_appendNil {s x : Operand} {t e : TypeId} {n : Nat} {z : Value} {b : Nat} {d' : TypeDesc} {n' : Nat} {z' : Value} {b' : Nat} {i o m cap : Nat} {cells news : List Value} {es : Nat} {own : Bool} [ht : TyC P t (.slice e) n z b] [he : TyC P e d' n' z' b'] (hz' : (cellsL z').length = n')
    (hs_ : evalT T s = .slice none 0 0) (hx : evalT T x = .slice (some ⟨i, o, none⟩) m cap) (hi : H[i]? = some (.row cells es own))
    (hfit : o + m * n' ≤ cells.length) (hnews : (cells.drop o).take (m * n') = news) (h63 : 0 < m ∧ m ≤ maxLen ∧ m * b' ≤ 140737488355328)
    (k : OpsJ P E ops R rest (putT T dst (.slice (some ⟨H.length, 0, none⟩) m m)) (H ++ [.row news n' true]) g) :
    OpsJ P E ops R (⟨dst, .call { callee := .builtin .append, args := #[s, x], argTypes := #[t, t] }, ty, ps, af, none⟩ :: rest) T H g :=
  OpsJ.step (runs_appendNil ht.ty he.ty hz' hs_ hx hi hfit hnews h63.1 h63.2.1 h63.2.2) rfl k
theorem st_callV {x : Operand} {xs : Array Operand} {at_ : Array TypeId} {fv : Value} {args : List Value} {K : Value → AHeap → γ → Prop} (hx : evalT T x = fv) (ha : evalL T xs.toList = args) (h : CallV P E fv args K H g)
    (k : ∀ v H' g', K v H' g' → OpsJ P E ops R rest (putT T dst v) H' g') : OpsJ P E ops R (⟨dst, .call { callee := .value x, args := xs, argTypes := at_ }, ty, ps, af, none⟩ :: rest) T H g :=
  OpsJ.stepJ (OpJ.callV hx ha h) k
end
end Go.Abs
namespace Go.Abs
open Go
def Ext (H H' : AHeap) : Prop := ∃ L, H' = H ++ L
theorem Ext.refl (H : AHeap) : Ext H H := ⟨[], by simp⟩
theorem Ext.app {H H' : AHeap} (h : Ext H H') (L : AHeap) : Ext H (H' ++ L) := by obtain ⟨M, rfl⟩ := h; exact ⟨M ++ L, by simp⟩
theorem Ext.trans {H H' H2 : AHeap} (h : Ext H H') (k : Ext H' H2) : Ext H H2 := by obtain ⟨M, rfl⟩ := h; obtain ⟨N, rfl⟩ := k; exact ⟨M ++ N, by simp⟩
theorem Ext.get {H H' : AHeap} (h : Ext H H') {i : Nat} {o : AObj} (ho : H[i]? = some o) : H'[i]? = some o := by obtain ⟨M, rfl⟩ := h; exact get_old ho
theorem Ext.len {H H' : AHeap} (h : Ext H H') : H.length ≤ H'.length := by obtain ⟨M, rfl⟩ := h; simp
theorem Ext.set {H H' : AHeap} (h : Ext H H') {i : Nat} (hi : H.length ≤ i) (o : AObj) : Ext H (H'.set i o) := by
  obtain ⟨M, rfl⟩ := h
  exact ⟨M.set (i - H.length) o, by rw [List.set_append_right _ _ hi]⟩
theorem get_set {H : AHeap} {i : Nat} {o o' : AObj} (h : H[i]? = some o') : (H.set i o)[i]? = some o := by
  rw [List.getElem?_set_self (List.getElem?_eq_some_iff.1 h).1]
theorem get_setne {H : AHeap} {i k : Nat} {o o' : AObj} (hne : i ≠ k) (h : H[k]? = some o') : (H.set i o)[k]? = some o' := by rw [List.getElem?_set_ne hne]; exact h
def RdS (H : AHeap) (v : Value) (es : Nat) (xs : List (List Value)) : Prop :=
  (∀ x ∈ xs, x.length = es) ∧
  ((∃ i o c row es' own, v = .slice (some ⟨i, o, none⟩) xs.length c ∧ H[i]? = some (.row row es' own) ∧ o + xs.length * es ≤ row.length ∧ (row.drop o).take (xs.length * es) = xs.flatten) ∨ (xs = [] ∧ (v = .slice none 0 0 ∨ v = .slice none 0 1)))
theorem RdS.ext {H H' : AHeap} {v : Value} {es : Nat} {xs : List (List Value)} (h : RdS H v es xs) (he : Ext H H') : RdS H' v es xs := by
  obtain ⟨h1, h2⟩ := h
  refine ⟨h1, ?_⟩
  rcases h2 with ⟨i, o, c, row, es', own, a, b, d⟩ | h2
  · exact .inl ⟨i, o, c, row, es', own, a, he.get b, d⟩
  · exact .inr h2
theorem flatten_at {es : Nat} : ∀ {xs : List (List Value)} {j : Nat} {x : List Value}, (∀ x ∈ xs, x.length = es) → xs[j]? = some x → (xs.flatten.drop (j * es)).take es = x
  | [], j, x, _, h => by simp at h
  | y :: ys, 0, x, hl, h => by
    simp only [List.getElem?_cons_zero, Option.some.injEq] at h
    subst h
    have := hl y (by simp)
    simp [List.flatten_cons, ← this]
  | y :: ys, j + 1, x, hl, h => by
    have hy := hl y (by simp)
    rw [List.flatten_cons, Nat.add_mul, Nat.one_mul, Nat.add_comm, List.drop_append, hy]
    have : (y.drop (es + j * es)) = [] := by rw [List.drop_eq_nil_iff]; omega
    rw [this, List.nil_append, Nat.add_sub_cancel_left]
    exact flatten_at (fun x hx => hl x (by simp [hx])) (by simpa using h)
theorem get_piece {row x : List Value} {p n k : Nat} {v : Value} (h : (row.drop p).take n = x) (hv : x[k]? = some v) : row[p + k]? = some v := by
  subst h
  rw [List.getElem?_take] at hv
  split at hv
  · rw [List.getElem?_drop] at hv; exact hv
  · cases hv
theorem get_piece0 {row x : List Value} {p n : Nat} {v : Value} (h : (row.drop p).take n = x) (hv : x[0]? = some v) : row[p]? = some v := get_piece (k := 0) h hv
section
variable {γ : Type} {P : Program} {E : Env γ} {T T' : List Value} {H H' : AHeap} {g : γ} {Q : Exit → List Value → AHeap → γ → Prop} {R : List Value → AHeap → γ → Prop} {ops : Array Oper} {dst : Option Tmp} {ty : TypeId} {ps : String} {af : Array Edge} {rest : List Oper}
theorem WPJ.loopN {c : Code} {σ : Type} (n : Nat) (pat : Nat → σ → List Value) (J : Nat → σ → AHeap → γ → Prop) (j0 : Nat) (s0 : σ) (hj : j0 ≤ n) (hT : Weak T (pat j0 s0)) (hJ : J j0 s0 H g)
    (round : ∀ j s H1 g1, j ≤ n → J j s H1 g1 → H.length ≤ H1.length → WPJ P E c (thenQ (fun T2 H2 g2 => ∃ s', j < n ∧ Weak T2 (pat (j + 1) s') ∧ J (j + 1) s' H2 g2) Q) (pat j s) H1 g1) : WPJ P E (.loop c) Q T H g := by
  classical
  let W : List Value → AHeap → γ → Nat → Prop := fun T H g k => ∃ j s, j ≤ n ∧ Weak T (pat j s) ∧ J j s H g ∧ n - j = k
  let μ : List Value → AHeap → γ → Nat := fun T H g => if h : ∃ k, W T H g k then Classical.choose (exists_min _ h) else 0
  have hμ : ∀ T H g, (∃ k, W T H g k) → W T H g (μ T H g) ∧ ∀ m, W T H g m → μ T H g ≤ m := by
    intro T H g h
    simp only [μ, dif_pos h]
    exact Classical.choose_spec (exists_min _ h)
  refine WPJ.loop (fun T H g => ∃ k, W T H g k) μ ⟨_, j0, s0, hj, hT, hJ, rfl⟩ fun T1 H1 g1 h1 hl => ?_
  obtain ⟨⟨j, s, a1, a2, a3, a4⟩, _⟩ := hμ T1 H1 g1 h1
  refine WPJ.weak a2 ((round j s H1 g1 a1 a3 hl).mono fun e T2 H2 g2 h => ?_)
  cases e with
  | normal =>
    obtain ⟨s', b1, b2, b3⟩ := h
    have hw : W T2 H2 g2 (n - (j + 1)) := ⟨j + 1, s', b1, b2, b3, rfl⟩
    have := (hμ T2 H2 g2 ⟨_, hw⟩).2 _ hw
    exact ⟨⟨_, hw⟩, by omega⟩
  | exit id => exact h
  | goto l => exact h
  | ret => exact h
  | panic ch => exact h
  | outgrown => exact h
theorem Weak.intEq {k : IntKind} {a b : Int} {l l' : List Value} (e : a = b) (h : Weak l l') : Weak (.int k a :: l) (.int k b :: l') := by subst e; exact .same h
theorem st_lenR {Hx : AHeap} {x : Operand} {t e : TypeId} {n : Nat} {z : Value} {b : Nat} {v : Value} {es : Nat} {xs : List (List Value)} [ht : TyC P t (.slice e) n z b] (hx : evalT T x = v) (hr : RdS Hx v es xs) (k : OpsJ P E ops R rest (putT T dst (.int .i64 xs.length)) H g) :
    OpsJ P E ops R (⟨dst, .call { callee := .builtin .len, args := #[x], argTypes := #[t] }, ty, ps, af, none⟩ :: rest) T H g := by
  obtain ⟨_, ⟨i, o, c, row, es', own, a, _⟩ | ⟨rfl, a | a⟩⟩ := hr
  · exact st_len (hx.trans a) k
  · exact st_len (hx.trans a) k
  · exact st_len (hx.trans a) k
theorem st_indexR {Hx : AHeap} {t : TypeId} {x ix : Operand} {kd : IntKind} {j : Int} {e : TypeId} {n : Nat} {z : Value} {b : Nat} {d' : TypeDesc} {n' : Nat} {z' : Value} {b' : Nat} {v : Value} {xs : List (List Value)} {el : List Value} [ht : TyC P t (.slice e) n z b] [he : TyC P e d' n' z' b']
    (hx : evalT T x = v) (hix : evalT T ix = .int kd j) (hr : RdS Hx v n' xs) (hext : Ext Hx H) (h0 : 0 ≤ j) (hel : xs[j.toNat]? = some el)
    (k : ∀ i p row es' own, H[i]? = some (.row row es' own) → p + n' ≤ row.length → (row.drop p).take n' = el → OpsJ P E ops R rest (putT T dst (.pointer (some ⟨i, p, none⟩))) H g) :
    OpsJ P E ops R (⟨dst, .indexAddr t x ix, ty, ps, af, none⟩ :: rest) T H g := by
  obtain ⟨h1, h2⟩ := hr
  have hlt := (List.getElem?_eq_some_iff.1 hel).1
  rcases h2 with ⟨i, o, c, row, es', own, a, b, d, f⟩ | ⟨rfl, _⟩
  · have hm : (j.toNat + 1) * n' ≤ xs.length * n' := Nat.mul_le_mul_right _ hlt
    rw [Nat.add_mul, Nat.one_mul] at hm
    refine st_indexS (hx.trans a) hix ⟨h0, by omega⟩ (k i (o + j.toNat * n') row es' own (hext.get b) (by omega) ?_)
    rw [← flatten_at h1 hel, ← f, List.drop_take, List.take_take, List.drop_drop]
    congr 1
    omega
  · simp at hlt
end
section
variable {P : Program} {T T' : List Value} {H H' : AHeap} {R : List Value → AHeap → Prop} {ops : Array Oper} {dst : Option Tmp} {ty : TypeId} {ps : String} {af : Array Edge} {rest : List Oper} {mm : Nat}
theorem mj_lenR {Hx : AHeap} {x : Operand} {t e : TypeId} {n : Nat} {z : Value} {b : Nat} {v : Value} {es : Nat} {xs : List (List Value)} [ht : TyC P t (.slice e) n z b] (hx : evalT T x = v) (hr : RdS Hx v es xs) (k : MonoJ P ops R mm rest (putT T dst (.int .i64 xs.length)) H) :
    MonoJ P ops R (mm + 1) (⟨dst, .call { callee := .builtin .len, args := #[x], argTypes := #[t] }, ty, ps, af, none⟩ :: rest) T H := by
  obtain ⟨_, ⟨i, o, c, row, es', own, a, _⟩ | ⟨rfl, a | a⟩⟩ := hr
  · exact mj_len (hx.trans a) k
  · exact mj_len (hx.trans a) k
  · exact mj_len (hx.trans a) k
theorem mj_indexR {Hx : AHeap} {t : TypeId} {x ix : Operand} {kd : IntKind} {j : Int} {e : TypeId} {n : Nat} {z : Value} {b : Nat} {d' : TypeDesc} {n' : Nat} {z' : Value} {b' : Nat} {v : Value} {xs : List (List Value)} {el : List Value} [ht : TyC P t (.slice e) n z b] [he : TyC P e d' n' z' b']
    (hx : evalT T x = v) (hix : evalT T ix = .int kd j) (hr : RdS Hx v n' xs) (hext : Ext Hx H) (h0 : 0 ≤ j) (hel : xs[j.toNat]? = some el)
    (k : ∀ i p row es' own, H[i]? = some (.row row es' own) → p + n' ≤ row.length → (row.drop p).take n' = el → MonoJ P ops R mm rest (putT T dst (.pointer (some ⟨i, p, none⟩))) H) :
    MonoJ P ops R (mm + 1) (⟨dst, .indexAddr t x ix, ty, ps, af, none⟩ :: rest) T H := by
  obtain ⟨h1, h2⟩ := hr
  have hlt := (List.getElem?_eq_some_iff.1 hel).1
  rcases h2 with ⟨i, o, c, row, es', own, a, b, d, f⟩ | ⟨rfl, _⟩
  · have hm : (j.toNat + 1) * n' ≤ xs.length * n' := Nat.mul_le_mul_right _ hlt
    rw [Nat.add_mul, Nat.one_mul] at hm
    refine mj_indexS (hx.trans a) hix ⟨h0, by omega⟩ (k i (o + j.toNat * n') row es' own (hext.get b) (by omega) ?_)
    rw [← flatten_at h1 hel, ← f, List.drop_take, List.take_take, List.drop_drop]
    congr 1
    omega
  · simp at hlt
end
theorem Tidy.ext {γ : Type} {H H' : AHeap} {K : Value → AHeap → γ → Prop} {v : Value} {g' : γ} (he : Ext H H') (hv : Mv H.length [] v v) (hk : K v H g') : Tidy H K v H' g' := by
  obtain ⟨L, rfl⟩ := he
  exact Tidy.none hv hk
end Go.Abs
namespace Go.Abs
open Go
def LiveBlk (ρ : Ren) (H : AHeap) (b : Nat) : Prop := ∃ i m o, ρ i = some m ∧ H[i]? = some o ∧ o.dead? = false ∧ m.blk = b
theorem LiveOwn.blk {ρ : Ren} {H : AHeap} {b : Nat} (h : LiveOwn ρ H b) : LiveBlk ρ H b := by
  obtain ⟨i, m, o, h1, h2, h3, _, h5⟩ := h
  exact ⟨i, m, o, h1, h2, h3, h5⟩
def shareO (sh : List Nat) (i : Nat) (o : AObj) : AObj :=
  if i ∈ sh then (match o with | .row c es _ => .row c es false | _ => .dead) else .dead
def shareH (sh : List Nat) (H : AHeap) : AHeap := H.mapIdx (shareO sh)
def shareR (sh : List Nat) (ρ : Ren) : Ren := fun i => if i ∈ sh then (ρ i).map fun m => { m with own := false } else none
theorem shareH_len (sh : List Nat) (H : AHeap) : (shareH sh H).length = H.length := by simp [shareH]
theorem shareH_get (sh : List Nat) (H : AHeap) (i : Nat) : (shareH sh H)[i]? = (H[i]?).map (shareO sh i) := by simp [shareH]
theorem shareH_row {sh : List Nat} {H : AHeap} {i : Nat} {c : List Value} {es : Nat} {own : Bool} (hi : i ∈ sh) (h : H[i]? = some (.row c es own)) : (shareH sh H)[i]? = some (.row c es false) := by
  rw [shareH_get, h]; simp [shareO, hi]
theorem shareR_some {sh : List Nat} {ρ : Ren} {i : Nat} {m : Img} (h : shareR sh ρ i = some m) : i ∈ sh ∧ ∃ m0, ρ i = some m0 ∧ m = { m0 with own := false } := by
  unfold shareR at h
  split at h
  · rename_i hi
    refine ⟨hi, ?_⟩
    cases hr : ρ i with
    | none => rw [hr] at h; cases h
    | some m0 => rw [hr] at h; exact ⟨m0, rfl, by simpa using h.symm⟩
  · cases h
def Within (sh : List Nat) (v : Value) : Prop := ∀ (ρ : Ren) (v' : Value), VRel ρ v v' → VRel (shareR sh ρ) v v'
theorem Within.flat {sh : List Nat} {v : Value} (h : flat1 v = true) : Within sh v := fun _ _ hv => flat1_rel h hv
theorem Within.ptr {sh : List Nat} {i o : Nat} (h : i ∈ sh) : Within sh (.pointer (some ⟨i, o, none⟩)) := fun ρ v' hv => by
  cases hv with
  | @ptr _ _ m h1 => exact .ptr (m := { m with own := false }) (by simp only [shareR, if_pos h, h1, Option.map_some])
theorem Within.slice {sh : List Nat} {i o l c : Nat} (h : i ∈ sh) : Within sh (.slice (some ⟨i, o, none⟩) l c) := fun ρ v' hv => by
  cases hv with
  | @slice _ _ _ _ _ m h1 h2 h3 => exact .slice (m := { m with own := false }) (by simp only [shareR, if_pos h, h1, Option.map_some]) h2 (fun e => Bool.noConfusion e)
theorem Within.func {sh : List Nat} {f : FuncId} {x c : List Value} (hx : ∀ v ∈ x, Within sh v) (hc : ∀ v ∈ c, Within sh v) : Within sh (.func (.func f) ⟨x⟩ ⟨c⟩) := fun ρ v' hv => by
  cases hv with
  | func h1 h2 h3 h4 => exact .func h1 (fun j a b => hx _ (List.getElem_mem (by simpa using a)) _ _ (h2 j a b)) h3 (fun j a b => hc _ (List.getElem_mem (by simpa using a)) _ _ (h4 j a b))
theorem Within.agg {sh : List Nat} {a : List Value} (h : ∀ v ∈ a, Within sh v) : Within sh (.agg ⟨a⟩) := fun ρ v' hv => by
  cases hv with
  | agg h1 h2 => exact .agg h1 (fun j a b => h _ (List.getElem_mem (by simpa using a)) _ _ (h2 j a b))
def pinsOf (sh : List Nat) (ρ : Ren) (n l : Nat) : List (Nat × Img) := (n, ⟨l, 0, 0, false⟩) :: sh.filterMap fun i => (ρ i).map fun m => (i, { m with own := false })
def shareV (sh : List Nat) (ρ : Ren) (n l : Nat) : Ren := (shareR sh ρ).add n ⟨l, 0, 0, false⟩
theorem share_srel {sh : List Nat} {ρ : Ren} {H : AHeap} {w : World} (hs : SRel ρ H w) (hw : ∀ i ∈ sh, ∀ c es own, H[i]? = some (.row c es own) → ∀ v ∈ c, Within sh v) {l : Nat} (hl : l < w.heap.size) :
    SRel (shareV sh ρ H.length l) (shareH sh H ++ [.tok (pinsOf sh ρ H.length l)]) w := by
  unfold shareV
  have hlen := shareH_len sh H
  have hold : ∀ {i m}, ((shareR sh ρ).add H.length ⟨l, 0, 0, false⟩) i = some m → i = H.length ∧ m = ⟨l, 0, 0, false⟩ ∨ (i < H.length ∧ i ∈ sh ∧ ∃ m0, ρ i = some m0 ∧ m = { m0 with own := false }) := by
    intro i m h
    unfold Ren.add at h
    split at h
    · rename_i e; exact .inl ⟨e, by simpa using h.symm⟩
    · obtain ⟨h1, m0, h2, h3⟩ := shareR_some h
      exact .inr ⟨(hs.dom i m0 h2).1, h1, m0, h2, h3⟩
  have hle : (shareR sh ρ).le ((shareR sh ρ).add H.length ⟨l, 0, 0, false⟩) := fun i m h => by
    obtain ⟨_, m0, h2, _⟩ := shareR_some h
    have := (hs.dom i m0 h2).1
    unfold Ren.add
    rw [if_neg (by omega)]; exact h
  refine ⟨fun i m h => ?_, fun i m o h ho => ?_, fun i j m m' o o' h h' ho ho' hd hd' hown hb => ?_⟩
  · rcases hold h with ⟨rfl, rfl⟩ | ⟨h1, _, m0, h2, rfl⟩
    · exact ⟨by simp [hlen], hl⟩
    · exact ⟨by simp [hlen]; omega, (hs.dom i m0 h2).2⟩
  · rcases hold h with ⟨rfl, rfl⟩ | ⟨h1, hi, m0, h2, rfl⟩
    · rw [List.getElem?_append_right (by omega), hlen, Nat.sub_self] at ho
      simp only [List.getElem?_cons_zero, Option.some.injEq] at ho
      subst ho
      refine ⟨rfl, fun p hp => ?_⟩
      simp only [pinsOf, List.mem_cons, List.mem_filterMap] at hp
      rcases hp with rfl | ⟨j, hj, hj2⟩
      · exact Ren.add_same _ _ _
      · cases hr : ρ j with
        | none => rw [hr] at hj2; cases hj2
        | some m0 =>
          rw [hr] at hj2
          simp only [Option.map_some, Option.some.injEq] at hj2
          subst hj2
          exact hle j _ (by simp only [shareR, if_pos hj, hr, Option.map_some])
    · rw [List.getElem?_append_left (by omega), shareH_get] at ho
      obtain ⟨o0, ho0, rfl⟩ := Option.map_eq_some_iff.1 ho
      have hor := hs.obj i m0 o0 h2 ho0
      cases o0 with
      | row c es own =>
        simp only [shareO, if_pos hi]
        obtain ⟨b1, b2, c', e, fr, b3, b4, b5, b6, b7⟩ := hor
        exact ⟨b1, rfl, c', e, fr, b3, b4, (fun e => Bool.noConfusion e), b6, fun j k1 k2 => (hw i hi c es own ho0 _ (List.getElem_mem k1) ρ _ (b7 j k1 k2)).mono hle⟩
      | map _ _ => simp only [shareO, if_pos hi]; trivial
      | iter _ _ _ => simp only [shareO, if_pos hi]; trivial
      | tok _ => simp only [shareO, if_pos hi]; trivial
      | dead => simp only [shareO, if_pos hi]; trivial
  · rcases hold h with ⟨_, rfl⟩ | ⟨_, _, m0, _, rfl⟩ <;> cases hown
theorem share_noOwn {sh : List Nat} {ρ : Ren} {H : AHeap} {l : Nat} {b : Nat} : ¬ LiveOwn (shareV sh ρ H.length l) (shareH sh H ++ [.tok (pinsOf sh ρ H.length l)]) b := by
  unfold shareV
  rintro ⟨i, m, o, h1, _, _, h4, _⟩
  unfold Ren.add at h1
  split at h1
  · simp only [Option.some.injEq] at h1; subst h1; cases h4
  · obtain ⟨_, m0, _, rfl⟩ := shareR_some h1
    cases h4
end Go.Abs
namespace Go.Abs
open Go
structure LoopJ {γ : Type} (E : Env γ) (ρ : Ren) (H : AHeap) (S : Nat → Prop) (w1 : World) (rec : Option Code → Loop) (l : Nat) (Dm : Option Nat) (x : AHeap × γ × Option Code) (S' : Nat → Prop) (w : World) (ρc : Ren) (Sc : Nat → Prop) : Prop where
  inv : Inv E ρc x.1 x.2.1 Sc w
  next : H.length ≤ x.1.length
  ext : ∀ i, i < H.length → ρc i = ρ i
  os : w.os = w1.os
  tape : w.tape = w1.tape
  out : w.output = w1.output
  size : w1.heap.size ≤ w.heap.size
  fresh : ∀ b, LiveOwn ρc x.1 b → w1.heap.size ≤ b ∨ LiveOwn ρ H b
  grow : ∀ b, Sc b → S b ∨ w1.heap.size ≤ b ∨ LiveOwn ρ H b
  keep : ∀ b, LiveBlk ρ H b → ¬ S b → ¬ LiveOwn ρ H b → w.heap[b]? = w1.heap[b]?
  rec_ : w.heap[l]? = some (.loop (rec x.2.2))
  mark : ∀ D, Dm = some D → w.heap[D]? = some (.deferred (some [])) ∧ ¬ Sc D
  nol : ¬ Sc l
  leans : ∀ b, S' b ↔ Sc b ∨ LiveBlk ρc x.1 b ∨ LiveBlk ρ H b ∨ b = l ∨ Dm = some b
theorem SRel.still {ρ : Ren} {H : AHeap} {w w' : World} (hs : SRel ρ H w) (hk : ∀ b, LiveBlk ρ H b → w'.heap[b]? = w.heap[b]?) (hz : w.heap.size ≤ w'.heap.size) : SRel ρ H w' := by
  refine ⟨fun i m h => ⟨(hs.dom i m h).1, Nat.lt_of_lt_of_le (hs.dom i m h).2 hz⟩, fun i m o h ho => ?_, hs.inj⟩
  cases hd : o.dead? with
  | true => cases o <;> first | trivial | cases hd
  | false => rw [hk m.blk ⟨i, m, o, h, ho, hd, rfl⟩]; exact hs.obj i m o h ho
def loopE {γ : Type} (E : Env γ) (ρ : Ren) (H : AHeap) (S : Nat → Prop) (w1 : World) (rec : Option Code → Loop) (l : Nat) (Dm : Option Nat) : Env (AHeap × γ × Option Code) where
  J := fun x S' w => ∃ ρc Sc, LoopJ E ρ H S w1 rec l Dm x S' w ρc Sc
  stable := by
    rintro x S' w w' ⟨ρc, Sc, h⟩ hk hz hos htp hout
    have k1 : ∀ b, Sc b → w'.heap[b]? = w.heap[b]? := fun b hb => hk b ((h.leans b).2 (.inl hb))
    have k2 : ∀ b, LiveBlk ρc x.1 b → w'.heap[b]? = w.heap[b]? := fun b hb => hk b ((h.leans b).2 (.inr (.inl hb)))
    exact ⟨ρc, Sc, {
      inv := ⟨h.inv.srel.still k2 hz, E.stable _ _ _ _ h.inv.j k1 hz hos htp hout, fun b hb => Nat.lt_of_lt_of_le (h.inv.bnd b hb) hz, h.inv.disj⟩
      next := h.next
      ext := h.ext
      os := hos.trans h.os
      tape := htp.trans h.tape
      out := hout.trans h.out
      size := Nat.le_trans h.size hz
      fresh := h.fresh
      grow := h.grow
      keep := fun b hb h1 h2 => (hk b ((h.leans b).2 (.inr (.inr (.inl hb))))).trans (h.keep b hb h1 h2)
      rec_ := (hk l ((h.leans l).2 (by simp))).trans h.rec_
      mark := fun D hD => ⟨(hk D ((h.leans D).2 (by simp [hD]))).trans (h.mark D hD).1, (h.mark D hD).2⟩
      nol := h.nol
      leans := h.leans }⟩
theorem Trans.addS {ρ ρ' : Ren} {H H' : AHeap} {S S' : Nat → Prop} {w w' : World} (h : Trans ρ H S w ρ' H' S' w') (l : Nat) : Trans ρ H (fun b => S b ∨ b = l) w ρ' H' (fun b => S' b ∨ b = l) w' :=
  ⟨h.next, h.ext, h.os, h.tape, h.out, h.size, fun b hb h1 h2 => h.keep b hb (fun h3 => h1 (.inl h3)) h2, h.fresh, fun b hb => by
    rcases hb with h1 | rfl
    · rcases h.grow b h1 with h2 | h2
      · exact .inl (.inl h2)
      · exact .inr h2
    · exact .inl (.inr rfl)⟩
theorem Trans.put (ρ : Ren) (H : AHeap) (S : Nat → Prop) (w : World) (l : Nat) (o : Obj) : Trans ρ H (fun b => S b ∨ b = l) w ρ H (fun b => S b ∨ b = l) (w.putObj l o) :=
  ⟨Nat.le_refl _, fun _ _ => rfl, rfl, rfl, rfl, by simp, fun b _ h1 _ => World.putObj_heap_other (fun e => h1 (.inr e)), fun _ h => .inr h, fun _ h => .inl h⟩
theorem LoopJ.round {γ : Type} {E : Env γ} {ρ : Ren} {H : AHeap} {S : Nat → Prop} {w1 : World} {rec : Option Code → Loop} {l : Nat} {Dm : Option Nat} {x : AHeap × γ × Option Code} {S' : Nat → Prop} {w : World} {ρc : Ren} {Sc : Nat → Prop}
    (h : LoopJ E ρ H S w1 rec l Dm x S' w ρc Sc) {w0 : World} (hs0 : SRel ρ H w0) (h0l : w0.heap.size ≤ l) (h01 : w0.heap.size ≤ w1.heap.size) {ρ2 : Ren} {H2 : AHeap} {g2 : γ} {S2 : Nat → Prop} {w2 : World} {st : Option Code} (hi : Inv E ρ2 H2 g2 S2 w2) (tr : Trans ρc x.1 (fun b => Sc b ∨ b = l) w ρ2 H2 (fun b => S2 b ∨ b = l) w2)
    (hrec : w2.heap[l]? = some (.loop (rec st))) (hmark : ∀ D, Dm = some D → w2.heap[D]? = some (.deferred (some [])) ∧ ¬ S2 D) (hnol : ¬ S2 l) :
    LoopJ E ρ H S w1 rec l Dm (H2, g2, st) (fun b => S2 b ∨ LiveBlk ρ2 H2 b ∨ LiveBlk ρ H b ∨ b = l ∨ Dm = some b) w2 ρ2 S2 where
  inv := hi
  next := Nat.le_trans h.next tr.next
  ext := fun i hi' => (tr.ext i (Nat.lt_of_lt_of_le hi' h.next)).trans (h.ext i hi')
  os := tr.os.trans h.os
  tape := tr.tape.trans h.tape
  out := tr.out.trans h.out
  size := Nat.le_trans h.size tr.size
  fresh := fun b hb => by
    rcases tr.fresh b hb with h1 | h1
    · exact .inl (Nat.le_trans h.size h1)
    · exact h.fresh b h1
  grow := fun b hb => by
    rcases tr.grow b (.inl hb) with (h1 | rfl) | h1 | h1
    · exact h.grow b h1
    · exact absurd hb hnol
    · exact .inr (.inl (Nat.le_trans h.size h1))
    · rcases h.fresh b h1 with h2 | h2
      · exact .inr (.inl h2)
      · exact .inr (.inr h2)
  keep := fun b hb h1 h2 => by
    have hlt0 : b < w0.heap.size := by
      obtain ⟨i, m, o, e1, _, _, rfl⟩ := hb
      exact (hs0.dom i m e1).2
    have hlt : b < w1.heap.size := by omega
    refine (tr.keep b (Nat.lt_of_lt_of_le hlt h.size) (fun h3 => ?_) (fun h3 => ?_)).trans (h.keep b hb h1 h2)
    · rcases h3 with h3 | rfl
      · rcases h.grow b h3 with h4 | h4 | h4
        · exact h1 h4
        · omega
        · exact h2 h4
      · omega
    · rcases h.fresh b h3 with h4 | h4
      · omega
      · exact h2 h4
  rec_ := hrec
  mark := hmark
  nol := hnol
  leans := fun b => Iff.rfl
end Go.Abs
namespace Go.Abs
open Go
def putPs (T : List Value) : List Tmp → List Value → List Value
  | p :: ps, v :: vs => putPs (T.set p v) ps vs
  | _, _ => T
theorem putPs_rel {ρ : Ren} : ∀ (ps : List Tmp) (vs vs' : List Value) (T : List Value) (tmps : Array Value), TRel ρ T tmps → vs.length = vs'.length → (∀ (j : Nat) (h : j < vs.length) (h' : j < vs'.length), VRel ρ vs[j] vs'[j]) →
    TRel ρ (putPs T ps vs) ((ps.zip vs').foldl (fun t (p, v) => t.setIfInBounds p v) tmps)
  | [], vs, vs', T, tmps, h, _, _ => by simpa [putPs] using h
  | p :: ps, [], [], T, tmps, h, _, _ => by simpa [putPs] using h
  | p :: ps, v :: vs, v' :: vs', T, tmps, h, hl, hv => by
    simp only [putPs, List.zip_cons_cons, List.foldl_cons]
    refine putPs_rel ps vs vs' _ _ ?_ (by simpa using hl) fun j a b => hv (j + 1) (by simpa using a) (by simpa using b)
    have := TRel.put (ac := { tmps := tmps, defers := [] }) h (some p) (hv 0 (by simp) (by simp))
    simpa [putT, Act.put] using this
  | p :: ps, [], v' :: vs', T, tmps, h, hl, _ => by simp at hl
  | p :: ps, v :: vs, [], T, tmps, h, hl, _ => by simp at hl
def roundQ {γ : Type} (I' : AHeap → γ → Prop) (Ix : Code → AHeap → γ → Prop) : Exit → List Value → AHeap → γ → Prop
  | .normal, _, H, g => I' H g
  | .ret, _, H, g => Ix .ret H g
  | .exit id, _, H, g => Ix (.exit id) H g
  | .goto t, _, H, g => Ix (.goto t) H g
  | _, _, _, _ => False
section
variable {γ : Type} {P : Program} {E : Env γ} {ρ : Ren} {H : AHeap} {S : Nat → Prop} {w0 w1 : World} {sh : List Nat} {fn : FuncId} {T : List Value} {tmps0 : Array Value} {ps : Array Tmp} {assign body : Code} {D0 l : Nat} {Dm : Option Nat}
def recOf (fn : FuncId) (tmps : Array Value) (ps : Array Tmp) (assign body : Code) (D0 : Nat) (pe : Option Code) : Loop :=
  { state := if pe.isNone then .ready else .done, pending := pe, fn, tmps, params := ps, assign, body, defers := D0 }
theorem rec_stays {ρc ρ2 : Ren} {Hc H2 : AHeap} {Sc S2 : Nat → Prop} {w w2 : World} (hs : SRel ρc Hc w) (tr : Trans ρc Hc Sc w ρ2 H2 S2 w2) {b : Nat} {o : Obj} (hb : w.heap[b]? = some o) (hn : ¬ Sc b) (hc : ∀ c e fr, o ≠ .cells c e fr) (hm : ∀ es ck, o ≠ .map es ck) (hit : ∀ a b c d, o ≠ .mapIter a b c d := by intro _ _ _ _ e; cases e) :
    w2.heap[b]? = some o ∧ ¬ S2 b := by
  have hlt := (Array.getElem?_eq_some_iff.1 hb).1
  have hl := not_liveOwn_of_loop hs hb hc hm hit
  refine ⟨(tr.keep b hlt hn hl).trans hb, fun h => ?_⟩
  rcases tr.grow b h with h1 | h1 | h1
  · exact hn h1
  · omega
  · exact hl h1
theorem round_caller (hs0 : SRel ρ H w0) (h0l : w0.heap.size ≤ l) (h01 : w0.heap.size ≤ w1.heap.size) (hT : TRel ρ T tmps0) {Hc : AHeap} {gc : γ} {x : List Value} {x' : Array Value} {I' : AHeap → γ → Prop} {Ix : Code → AHeap → γ → Prop}
    {S' : Nat → Prop} {w : World} {ρc : Ren} {Sc : Nat → Prop} (hJ : LoopJ E ρ H S w1 (recOf fn tmps0 ps assign body D0) l Dm (Hc, gc, none) S' w ρc Sc) (hx : ARel ρc ⟨x⟩ x')
    (hround : WPJ P E assign (thenQ (WPJ P E body (roundQ I' Ix)) (fun _ _ _ _ => False)) (putPs T ps.toList x) Hc gc)
    {R : Ending → World → Prop} (hR : ∀ (v : Value) (w2 : World) (ρ2 : Ren) (H2 : AHeap) (g2 : γ) (S2 : Nat → Prop) (st : Option Code), (v = .bool st.isNone) → (st = none ∧ I' H2 g2 ∨ ∃ c, st = some c ∧ Ix c H2 g2) →
      Trans ρc Hc (fun b => Sc b ∨ b = l) w ρ2 H2 (fun b => S2 b ∨ b = l) w2 →
      LoopJ E ρ H S w1 (recOf fn tmps0 ps assign body D0) l Dm (H2, g2, st) (fun b => S2 b ∨ LiveBlk ρ2 H2 b ∨ LiveBlk ρ H b ∨ b = l ∨ Dm = some b) w2 ρ2 S2 → R (.returned v) w2) :
    RoundIn (Wr none) 0 P l fn ((ps.zip x').foldl (fun t (p, v) => t.setIfInBounds p v) tmps0) assign body w R := by
  refine roundIn_of_wpIn trivial ?_
  have hle : ρ.le ρc := fun i m h => (hJ.ext i (hs0.dom i m h).1).trans h
  have hTc : TRel ρc (putPs T ps.toList x) ((ps.zip x').foldl (fun t (p, v) => t.setIfInBounds p v) tmps0) := by
    have := putPs_rel ps.toList x x'.toList T tmps0 (hT.mono hle) (by simpa using hx.1) (fun j a b => by have := hx.2 j (by simpa using a) (by simpa using b); simpa only [List.getElem_toArray, Array.getElem_toList] using this)
    rw [← Array.foldl_toList, Array.toList_zip]
    exact this
  have h1 := hround ρc w Sc (some l) [] { tmps := (ps.zip x').foldl (fun t (p, v) => t.setIfInBounds p v) tmps0, defers := [] } hJ.inv hTc (fun k hk => by cases hk; exact ⟨hJ.nol, _, hJ.rec_⟩) ⟨rfl, List.nodup_nil, fun D h => by cases h⟩
  refine wpIn_mono (F := (Wr none).inRound l) h1 ?_
  rintro e a2 wa ⟨ρa, Ta, Ha, ga, Sa, Dsa, i1, i2, i3, ⟨i4, i6⟩, i5⟩
  cases e with
  | normal =>
    obtain ⟨r1, r2⟩ := rec_stays hJ.inv.srel i3 hJ.rec_ hJ.nol (fun _ _ _ e => by cases e) (fun _ _ e => by cases e)
    refine ⟨_, run_beginRound r1 rfl, ?_⟩
    have hbz : (wa.putObj l (.loop { recOf fn tmps0 ps assign body D0 none with state := .busy })).heap[l]? = some (.loop { recOf fn tmps0 ps assign body D0 none with state := .busy }) := World.putObj_heap_same (Array.getElem?_eq_some_iff.1 r1).1
    have hib : Inv E ρa Ha ga Sa (wa.putObj l (.loop { recOf fn tmps0 ps assign body D0 none with state := .busy })) := i1.putObj r2 r1 (fun _ _ _ e => by cases e) (fun _ _ e => by cases e)
    have hmb : Marks a2.defers Dsa Sa (wa.putObj l (.loop { recOf fn tmps0 ps assign body D0 none with state := .busy })) := ⟨i4.eq, i4.nodup, fun D hD => ⟨(i4.at_ D hD).1, (World.putObj_heap_other (fun e => by
      have := (i4.at_ D hD).2; rw [e, r1] at this; cases this)).trans (i4.at_ D hD).2⟩⟩
    have hmarkb : ∀ D, Dm = some D → (wa.putObj l (.loop { recOf fn tmps0 ps assign body D0 none with state := .busy })).heap[D]? = some (.deferred (some [])) ∧ ¬ Sa D := fun D hD => by
      obtain ⟨q1, q2⟩ := rec_stays hJ.inv.srel i3 (hJ.mark D hD).1 (hJ.mark D hD).2 (fun _ _ _ e => by cases e) (fun _ _ e => by cases e)
      exact ⟨(World.putObj_heap_other (fun e => by rw [e, r1] at q1; cases q1)).trans q1, q2⟩
    have h2 : WPJ P E body (roundQ I' Ix) Ta Ha ga := i5
    refine wpIn_mono (F := (Wr none).inRound l) (h2 ρa _ Sa (some l) Dsa a2 hib i2 (fun k hk => by cases hk; exact ⟨r2, _, hbz⟩) hmb) ?_
    rintro e2 a3 wc ⟨ρb, Tb, Hb, gb, Sb, Dsb, j1, j2, j3, ⟨j4, j6⟩, j5⟩
    obtain ⟨u1, u2⟩ := rec_stays hib.srel j3 hbz r2 (fun _ _ _ e => by cases e) (fun _ _ e => by cases e)
    have fin : ∀ (st : Option Code), (st = none ∧ I' Hb gb ∨ ∃ c, st = some c ∧ Ix c Hb gb) → ∃ v w', (Instr.endRound l st).run P wc = .ok v w' ∧ R (.returned v) w' := by
      intro st hst
      have hz : (wc.putObj l (.loop (recOf fn tmps0 ps assign body D0 st))).heap[l]? = some (.loop (recOf fn tmps0 ps assign body D0 st)) := World.putObj_heap_same (Array.getElem?_eq_some_iff.1 u1).1
      refine ⟨_, _, run_endRound st u1, hR _ _ ρb Hb gb Sb st rfl hst (((i3.addS l).trans (Trans.put _ _ _ _ _ _)).trans ((j3.addS l).trans (Trans.put _ _ _ _ _ _))) ?_⟩
      refine hJ.round hs0 h0l h01 (j1.putObj u2 u1 (fun _ _ _ e => by cases e) (fun _ _ e => by cases e)) (((i3.addS l).trans (Trans.put _ _ _ _ _ _)).trans ((j3.addS l).trans (Trans.put _ _ _ _ _ _))) hz (fun D hD => ?_) u2
      obtain ⟨q1, q2⟩ := rec_stays hib.srel j3 (hmarkb D hD).1 (hmarkb D hD).2 (fun _ _ _ e => by cases e) (fun _ _ e => by cases e)
      exact ⟨(World.putObj_heap_other (fun e => by rw [e, u1] at q1; cases q1)).trans q1, q2⟩
    cases e2 with
    | normal => exact fin none (.inl ⟨rfl, j5⟩)
    | ret => exact fin (some .ret) (.inr ⟨_, rfl, j5⟩)
    | exit id => exact fin (some (.exit id)) (.inr ⟨_, rfl, j5⟩)
    | goto t => exact fin (some (.goto t)) (.inr ⟨_, rfl, j5⟩)
    | panic c => exact j5.elim
    | outgrown => exact j5.elim
  | exit id => exact i5.elim
  | goto t => exact i5.elim
  | ret => exact i5.elim
  | panic c => exact i5.elim
  | outgrown => exact i5.elim
end
end Go.Abs
namespace Go.Abs
open Go
section
variable {γ : Type} {P : Program} {E : Env γ} {ρ : Ren} {H : AHeap} {S : Nat → Prop} {w0 w1 : World} {sh : List Nat} {fn : FuncId} {T : List Value} {tmps0 : Array Value} {ps : Array Tmp} {assign body : Code} {D0 l : Nat} {Dm : Option Nat}
def ViewOk (sh : List Nat) (ρ : Ren) (H : AHeap) (l : Nat) (H1 : AHeap) : Prop := ∀ i o, H1[i]? = some o → o.dead? = false →
  (i = H.length ∧ o = .tok (pinsOf sh ρ H.length l)) ∨ (i ∈ sh ∧ i < H.length ∧ ∃ c es own, H[i]? = some (.row c es own) ∧ o = .row c es false) ∨ ownRow o = true ∨ ∃ es ck, o = .map es ck
def Across (sh : List Nat) (ρ : Ren) (n l : Nat) (v : Value) : Prop := ∀ (ρ2 ρc : Ren) (v' : Value), (∀ p ∈ pinsOf sh ρ n l, ρ2 p.1 = some p.2) → (∀ i, i < n → ρc i = ρ i) → VRel ρ2 v v' → VRel ρc v v'
def ownedO : AObj → Bool
  | .row _ _ own => own
  | .map _ _ => true
  | .iter _ _ _ => true
  | _ => false
theorem CallV.yield (hs0 : SRel ρ H w0) (h0l : w0.heap.size ≤ l) (h01 : w0.heap.size ≤ w1.heap.size) (hT : TRel ρ T tmps0) {Hc H1 : AHeap} {gc : γ} {x : List Value} {I' : AHeap → γ → Prop} {Ix : Code → AHeap → γ → Prop}
    (htok : H1[H.length]? = some (.tok (pinsOf sh ρ H.length l))) (hview : ViewOk sh ρ H l H1) (hw : ∀ i ∈ sh, ∀ c es own, H[i]? = some (.row c es own) → ∀ v ∈ c, Within sh v)
    (hsh : ∀ i ∈ sh, ∃ m, ρ i = some m) (hlen : x.length = ps.size) (hx : ∀ v ∈ x, Across sh ρ H.length l v)
    (hI : ∀ H2 g2, (I' H2 g2 ∨ ∃ c, Ix c H2 g2) → ∀ i ∈ sh, ∀ c es own, H[i]? = some (.row c es own) → H2[i]? = some (.row c es own))
    (hold : ∀ H2 g2, (I' H2 g2 ∨ ∃ c, Ix c H2 g2) → ∀ (i : Nat) (o : AObj), H2[i]? = some o → o.dead? = false → ownedO o = false → ∃ o' : AObj, H[i]? = some o' ∧ o'.dead? = false)
    (hround : WPJ P E assign (thenQ (WPJ P E body (roundQ I' Ix)) (fun _ _ _ _ => False)) (putPs T ps.toList x) Hc gc) :
    CallV P (loopE E ρ H S w1 (recOf fn tmps0 ps assign body D0) l Dm) (.func (.yield H.length) #[] #[]) x
      (fun v H2 x2 => H2 = H1 ∧ (v = .bool true ∧ x2.2.2 = none ∧ I' x2.1 x2.2.1 ∨ v = .bool false ∧ ∃ c, x2.2.2 = some c ∧ Ix c x2.1 x2.2.1)) H1 (Hc, gc, none) := by
  intro ρ2 w S2 fv' args' hi hf ha
  obtain ⟨ρc, Sc, hJ⟩ := hi.j
  cases hf with
  | yield h =>
    rename_i m
    have hor := hi.srel.obj _ m _ h htok
    have hpins : ∀ p ∈ pinsOf sh ρ H.length l, ρ2 p.1 = some p.2 := hor.2
    have hm : m = ⟨l, 0, 0, false⟩ := by
      have := hpins (H.length, ⟨l, 0, 0, false⟩) (by simp [pinsOf])
      rw [h] at this; cases this; rfl
    subst hm
    have hxc : ARel ρc ⟨x⟩ args' := ⟨ha.1, fun j a b => hx _ (List.getElem_mem (by simpa using a)) ρ2 ρc _ hpins hJ.ext (ha.2 j a b)⟩
    have hsz : args'.size = ps.size := by have := ha.1; simp at this; omega
    have hy := run_yield (P := P) (args := args') hJ.rec_ hsz
    refine ⟨{ target := .fn (.yield l) #[], args := #[] ++ args' }, by simp [Deferred.ofValue], .inr ⟨l, fn, _, assign, body, by have h9 := hy; simp only [recOf] at h9; simpa [invoke] using h9, round_caller hs0 h0l h01 hT hJ hxc hround ?_⟩⟩
    intro v w2 ρb H2 g2 Sb st hv hst tr hJ2
    have hII : I' H2 g2 ∨ ∃ c, Ix c H2 g2 := by
      rcases hst with ⟨_, h1⟩ | ⟨c, _, h1⟩
      · exact .inl h1
      · exact .inr ⟨c, h1⟩
    have own : ∀ b, LiveOwn ρ2 H1 b → ¬ S2 b ∧ b < w.heap.size ∧ w2.heap[b]? = w.heap[b]? := by
      intro b hb
      have hS : ¬ S2 b := fun h1 => hi.disj b h1 hb
      have hlt : b < w.heap.size := by
        obtain ⟨i, m, o, e1, _, _, _, rfl⟩ := hb
        exact (hi.srel.dom i m e1).2
      refine ⟨hS, hlt, tr.keep b hlt (fun h1 => ?_) (fun h1 => hS ((hJ.leans b).2 (.inr (.inl h1.blk))))⟩
      rcases h1 with h1 | rfl
      · exact hS ((hJ.leans b).2 (.inl h1))
      · exact hS ((hJ.leans b).2 (by simp))
    have hle2 : (shareR sh ρb).le ρ2 := fun i m1 h1 => by
      obtain ⟨hi', m0, h2, rfl⟩ := shareR_some h1
      obtain ⟨m00, h3⟩ := hsh i hi'
      have h4 : ρb i = ρ i := hJ2.ext i (hs0.dom i m00 h3).1
      rw [h4] at h2
      exact hpins (i, { m0 with own := false }) (by simp only [pinsOf, List.mem_cons, List.mem_filterMap]; exact .inr ⟨i, hi', by rw [h2]; rfl⟩)
    have hsr : SRel ρ2 H1 w2 := by
      refine ⟨fun i m1 h1 => ⟨(hi.srel.dom i m1 h1).1, Nat.lt_of_lt_of_le (hi.srel.dom i m1 h1).2 tr.size⟩, fun i m1 o h1 ho => ?_, hi.srel.inj⟩
      have hor1 := hi.srel.obj i m1 o h1 ho
      cases hd : o.dead? with
      | true => cases o <;> first | trivial | cases hd
      | false =>
        have hown : ownedO o = true → ORel ρ2 o m1 w2.heap[m1.blk]? := fun ho2 => by
          have hmo : m1.own = true := by
            cases o with
            | row c es own' => cases own' with
              | true => exact hor1.2.1
              | false => cases ho2
            | map es ck => exact hor1.1
            | iter _ _ _ => exact hor1.1
            | tok _ => cases ho2
            | dead => cases ho2
          rw [(own m1.blk ⟨i, m1, o, h1, ho, hd, hmo, rfl⟩).2.2]
          exact hor1
        rcases hview i o ho hd with ⟨_, rfl⟩ | ⟨hi', hil, c, es, own', hH, rfl⟩ | ho2 | ⟨es, ck, rfl⟩
        · exact hor1
        · obtain ⟨m0, h3⟩ := hsh i hi'
          have h4 : ρb i = some m0 := (hJ2.ext i hil).trans h3
          have h5 : ρ2 i = some { m0 with own := false } := hle2 i _ (by simp only [shareR, if_pos hi', h4, Option.map_some])
          rw [h1] at h5
          cases h5
          obtain ⟨b1, b2, c', e, fr, b3, b4, b5, b6, b7⟩ := hJ2.inv.srel.obj i m0 _ h4 (hI _ _ hII i hi' c es own' hH)
          exact ⟨b1, rfl, c', e, fr, b3, b4, (fun e => Bool.noConfusion e), b6, fun j k1 k2 => (hw i hi' c es own' hH _ (List.getElem_mem k1) ρb _ (b7 j k1 k2)).mono hle2⟩
        · exact hown (by cases o <;> simp_all [ownRow, ownedO])
        · exact hown rfl
    have s2 : ∀ b, (Sb b ∨ LiveBlk ρb H2 b ∨ LiveBlk ρ H b ∨ b = l ∨ Dm = some b) → S2 b ∨ w.heap.size ≤ b := by
      intro b hb
      have viaOwn : LiveOwn ρb H2 b → S2 b ∨ w.heap.size ≤ b := fun h1 => by
        rcases tr.fresh b h1 with h2 | h2
        · exact .inr h2
        · exact .inl ((hJ.leans b).2 (.inr (.inl h2.blk)))
      rcases hb with h1 | ⟨i, m1, o, h1, ho, hd, rfl⟩ | h1 | rfl | h1
      · rcases tr.grow b (.inl h1) with (h2 | rfl) | h2 | h2
        · exact .inl ((hJ.leans b).2 (.inl h2))
        · exact .inl ((hJ.leans b).2 (by simp))
        · exact .inr h2
        · exact .inl ((hJ.leans b).2 (.inr (.inl h2.blk)))
      · cases hoo : ownedO o with
        | true =>
          refine viaOwn ⟨i, m1, o, h1, ho, hd, ?_, rfl⟩
          have hor1 := hJ2.inv.srel.obj i m1 o h1 ho
          cases o with
          | row c es own' => cases own' with
            | true => exact hor1.2.1
            | false => cases hoo
          | map es ck => exact hor1.1
          | iter _ _ _ => exact hor1.1
          | tok _ => cases hoo
          | dead => cases hoo
        | false =>
          obtain ⟨o', ho', hd'⟩ := hold _ _ hII i o ho hd hoo
          have hil : i < H.length := (List.getElem?_eq_some_iff.1 ho').1
          exact .inl ((hJ.leans m1.blk).2 (.inr (.inr (.inl ⟨i, m1, o', (hJ2.ext i hil) ▸ h1, ho', hd', rfl⟩))))
      · exact .inl ((hJ.leans b).2 (.inr (.inr (.inl h1))))
      · exact .inl ((hJ.leans b).2 (by simp))
      · exact .inl ((hJ.leans b).2 (by simp [h1]))
    refine ⟨ρ2, v, v, H1, (H2, g2, st), _, rfl, ?_, ⟨hsr, ⟨ρb, Sb, hJ2⟩, fun b hb => ?_, fun b hb hl => ?_⟩, ⟨Nat.le_refl _, fun _ _ => rfl, tr.os, tr.tape, tr.out, tr.size, fun b hb h1 h2 => ?_, fun b hb => .inr hb, fun b hb => ?_⟩, rfl, ?_⟩
    · rw [hv]; exact .bool _
    · rcases hb with h1 | ⟨i, m1, o, h1, _, _, rfl⟩ | ⟨i, m1, o, h1, _, _, rfl⟩ | rfl | h1
      · exact hJ2.inv.bnd b h1
      · exact (hJ2.inv.srel.dom i m1 h1).2
      · have := (hs0.dom i m1 h1).2; have := hJ2.size; omega
      · exact (Array.getElem?_eq_some_iff.1 hJ2.rec_).1
      · exact (Array.getElem?_eq_some_iff.1 (hJ2.mark b h1).1).1
    · obtain ⟨o1, o2, _⟩ := own b hl
      rcases s2 b hb with h1 | h1
      · exact o1 h1
      · omega
    · refine tr.keep b hb (fun h3 => ?_) (fun h3 => h1 ((hJ.leans b).2 (.inr (.inl h3.blk))))
      rcases h3 with h3 | rfl
      · exact h1 ((hJ.leans b).2 (.inl h3))
      · exact h1 ((hJ.leans b).2 (by simp))
    · rcases s2 b hb with h1 | h1
      · exact .inl h1
      · exact .inr (.inl h1)
    · rcases hst with ⟨rfl, h1⟩ | ⟨c, rfl, h1⟩
      · exact .inl ⟨by rw [hv]; rfl, rfl, h1⟩
      · exact .inr ⟨by rw [hv]; rfl, c, rfl, h1⟩
end
end Go.Abs
namespace Go.Abs
open Go
def ExtOwn (H H' : AHeap) : Prop := ∃ L, H' = H ++ L ∧ ∀ o ∈ L, o.dead? = true ∨ ownedO o = true
theorem ExtOwn.refl (H : AHeap) : ExtOwn H H := ⟨[], by simp, fun _ h => by cases h⟩
theorem view_of_ext {sh : List Nat} {ρ : Ren} {H : AHeap} {l : Nat} {H1 : AHeap} (h : ExtOwn (shareH sh H ++ [.tok (pinsOf sh ρ H.length l)]) H1) : H1[H.length]? = some (.tok (pinsOf sh ρ H.length l)) ∧ ViewOk sh ρ H l H1 := by
  obtain ⟨L, rfl, hL⟩ := h
  have hlen := shareH_len sh H
  refine ⟨by rw [List.getElem?_append_left (by simp [hlen]), List.getElem?_append_right (by omega), hlen]; simp, fun i o ho hd => ?_⟩
  by_cases c1 : i < H.length
  · rw [List.getElem?_append_left (by simp [hlen]; omega), List.getElem?_append_left (by omega), shareH_get] at ho
    obtain ⟨o0, ho0, rfl⟩ := Option.map_eq_some_iff.1 ho
    by_cases hi : i ∈ sh
    · simp only [shareO, if_pos hi] at hd ⊢
      cases o0 with
      | row c es own => exact .inr (.inl ⟨hi, c1, c, es, own, ho0, rfl⟩)
      | map _ _ => cases hd
      | iter _ _ _ => cases hd
      | tok _ => cases hd
      | dead => cases hd
    · simp only [shareO, if_neg hi] at hd; cases hd
  · by_cases c2 : i = H.length
    · subst c2
      rw [List.getElem?_append_left (by simp [hlen]), List.getElem?_append_right (by omega), hlen] at ho
      simp at ho
      exact .inl ⟨rfl, ho.symm⟩
    · rw [List.getElem?_append_right (by simp [hlen]; omega)] at ho
      have hm := hL o (List.mem_of_getElem? ho)
      rcases hm with h1 | h1
      · rw [h1] at hd; cases hd
      · cases o with
        | row c es own => exact .inr (.inr (.inl h1))
        | map es ck => exact .inr (.inr (.inr ⟨es, ck, rfl⟩))
        | iter mp ck sn => exact .inr (.inr (.inl rfl))
        | tok _ => cases h1
        | dead => cases h1
section
variable {γ : Type} {P : Program} {E : Env γ}
theorem enter_loop {w : World} {ro : Option Nat} (hro : ∀ k, ro = some k → ∃ r, w.heap[k]? = some (.loop r)) (fn : FuncId) (tmps : Array Value) (ps : Array Tmp) (assign body : Code) :
    ∃ (l : Nat) (Dm : Option Nat) (w1 : World) (D0 : Nat), (Instr.enterLoop fn tmps ps assign body ro).run P w = .ok (l, Dm.toList.map fun D => { target := .collected D, args := #[] }) w1 ∧
      w1.heap[l]? = some (.loop (recOf fn tmps ps assign body D0 none)) ∧ w.heap.size ≤ l ∧ w.heap.size ≤ w1.heap.size ∧ (∀ b, b < w.heap.size → w1.heap[b]? = w.heap[b]?) ∧ w1.os = w.os ∧ w1.tape = w.tape ∧ w1.output = w.output ∧
      (∀ D, Dm = some D → w.heap.size ≤ D ∧ D ≠ l ∧ w1.heap[D]? = some (.deferred (some []))) := by
  have halloc : ∀ (w : World) (o : Obj) (b : Nat), b < w.heap.size → (w.alloc o).heap[b]? = w.heap[b]? := fun w o b hb => by simp only [World.alloc]; rw [Array.getElem?_push, if_neg (by omega)]
  cases ro with
  | none =>
    refine ⟨w.heap.size + 1, some w.heap.size, _, w.heap.size, run_enterLoop_outer _ _ _ _ _, ?_, by omega, by simp; omega, fun b hb => ?_, rfl, rfl, rfl, fun D hD => ?_⟩
    · have := World.alloc_heap_new (w.alloc (.deferred (some []))) (.loop (recOf fn tmps ps assign body w.heap.size none))
      rwa [World.size_alloc] at this
    · rw [halloc _ _ b (by simp; omega), halloc _ _ b hb]
    · cases hD
      refine ⟨Nat.le_refl _, by omega, ?_⟩
      rw [halloc _ _ _ (by simp)]
      exact World.alloc_heap_new w _
  | some k =>
    obtain ⟨r, hr⟩ := hro k rfl
    exact ⟨w.heap.size, none, _, r.defers, run_enterLoop_inner hr _ _ _ _ _, World.alloc_heap_new w _, Nat.le_refl _, by simp, fun b hb => halloc _ _ b hb, rfl, rfl, rfl, fun D hD => by cases hD⟩
theorem ARel.append {ρ : Ren} {a a' b b' : Array Value} (h1 : ARel ρ a a') (h2 : ARel ρ b b') : ARel ρ (a ++ b) (a' ++ b') := by
  refine ⟨by simp [h1.1, h2.1], fun j k1 k2 => ?_⟩
  by_cases hj : j < a.size
  · rw [Array.getElem_append_left hj, Array.getElem_append_left (h1.1 ▸ hj)]; exact h1.2 _ _ _
  · simp only [Array.size_append] at k1 k2
    have e := h1.1
    rw [Array.getElem_append_right (by omega), Array.getElem_append_right (by omega)]
    have := h2.2 (j - a.size) (by omega) (by omega)
    simpa only [e] using this
theorem WPJ.rangeFunc {gop : Operand} {ps : Array Tmp} {assign body : Code} {Q : Exit → List Value → AHeap → γ → Prop} {T : List Value} {H : AHeap} {g : γ} {gf : FuncId} {fx cx : List Value} (hg : evalT T gop = .func (.func gf) ⟨fx⟩ ⟨cx⟩) (he : Enters P gf)
    (sh : List Nat) (xs : List (List Value)) (hsh : ∀ (ρ : Ren) (w : World), SRel ρ H w → (∀ v', VRel ρ (.func (.func gf) ⟨fx⟩ ⟨cx⟩) v' → ∀ i ∈ sh, ∃ m, ρ i = some m))
    (hfx : ∀ v ∈ fx, Within sh v) (hcx : ∀ v ∈ cx, Within sh v) (hw : ∀ i ∈ sh, ∀ c es own, H[i]? = some (.row c es own) → ∀ v ∈ c, Within sh v)
    (hxl : ∀ x ∈ xs, x.length = ps.size) (hxa : ∀ (ρ : Ren) (w : World), SRel ρ H w → (∀ i ∈ sh, ∃ m, ρ i = some m) → ∀ x ∈ xs, ∀ v ∈ x, ∀ l, Across sh ρ H.length l v)
    (I : Nat → AHeap → γ → Prop) (Ix : Code → AHeap → γ → Prop) (h0 : I 0 H g)
    (hI : ∀ H2 g2, ((∃ k, I k H2 g2) ∨ ∃ c, Ix c H2 g2) → (∀ i ∈ sh, ∀ c es own, H[i]? = some (.row c es own) → H2[i]? = some (.row c es own)) ∧ (∀ (i : Nat) (o : AObj), H2[i]? = some o → o.dead? = false → ownedO o = false → ∃ o' : AObj, H[i]? = some o' ∧ o'.dead? = false))
    (hit : ∀ (γ' : Type) (E' : Env γ') (J : Nat → γ' → Prop) (Jx : γ' → Prop) (yn : Nat) (Hi : AHeap) (g0 : γ'), (∀ i ∈ sh, ∀ c es own, H[i]? = some (.row c es own) → Hi[i]? = some (.row c es false)) →
      (∀ k x, xs[k]? = some x → ∀ H1 g1, ExtOwn Hi H1 → J k g1 → CallV P E' (.func (.yield yn) #[] #[]) x (fun v H2 g2 => H2 = H1 ∧ (v = .bool true ∧ J (k + 1) g2 ∨ v = .bool false ∧ Jx g2)) H1 g1) → J 0 g0 →
      CallJ P E' gf (fx ++ ([.func (.yield yn) #[] #[]] ++ cx)) (fun _ H' g' => H' = Hi ∧ (J xs.length g' ∨ Jx g')) Hi g0)
    (round : ∀ k x Hc gc, xs[k]? = some x → I k Hc gc → WPJ P E assign (thenQ (WPJ P E body (roundQ (I (k + 1)) Ix)) (fun _ _ _ _ => False)) (putPs T ps.toList x) Hc gc)
    (done : ∀ Hc gc, I xs.length Hc gc → Q .normal T Hc gc) (stop : ∀ c Hc gc, Ix c Hc gc → WPJ P E c Q T Hc gc) : WPJ P E (.rangeFunc gop ps assign body) Q T H g := by
  intro ρ w S ro Ds ac hi ht hr hm
  refine wpIn_rangeFunc fun fn _ => ?_
  obtain ⟨l, Dm, w1, D0, e1, e2, e3, e4, e5, e6, e7, e8, e9⟩ := enter_loop (P := P) (w := w) (ro := ro) (fun k hk => (hr k hk).2) fn ac.tmps ps assign body
  have hgv := hg ▸ ht.eval gop
  obtain ⟨x', c', hev, hx1, hx2, hc1, hc2⟩ : ∃ x' c', ac.eval gop = .func (.func gf) x' c' ∧ fx.length = x'.size ∧ (∀ (j : Nat) (h : j < fx.length) (h' : j < x'.size), VRel ρ fx[j] x'[j]) ∧ cx.length = c'.size ∧ (∀ (j : Nat) (h : j < cx.length) (h' : j < c'.size), VRel ρ cx[j] c'[j]) := by
    generalize ac.eval gop = fv at hgv
    cases hgv with
    | func a b c d => exact ⟨_, _, rfl, by simpa using a, fun j h h' => b j (by simpa using h) h', by simpa using c, fun j h h' => d j (by simpa using h) h'⟩
  have hshd : ∀ i ∈ sh, ∃ m, ρ i = some m := hsh ρ w hi.srel _ hgv
  have hs1 : SRel ρ H w1 := hi.srel.still (fun b hb => e5 b (by obtain ⟨i, m, o, q1, _, _, rfl⟩ := hb; exact (hi.srel.dom i m q1).2)) e4
  have hll : l < w1.heap.size := (Array.getElem?_eq_some_iff.1 e2).1
  have hJ : LoopJ E ρ H S w1 (recOf fn ac.tmps ps assign body D0) l Dm (H, g, none) (fun b => S b ∨ LiveBlk ρ H b ∨ LiveBlk ρ H b ∨ b = l ∨ Dm = some b) w1 ρ S := {
    inv := ⟨hs1, E.stable _ _ _ _ hi.j (fun b hb => e5 b (hi.bnd b hb)) e4 e6 e7 e8, fun b hb => Nat.lt_of_lt_of_le (hi.bnd b hb) e4, hi.disj⟩
    next := Nat.le_refl _
    ext := fun _ _ => rfl
    os := rfl
    tape := rfl
    out := rfl
    size := Nat.le_refl _
    fresh := fun _ h => .inr h
    grow := fun _ h => .inl h
    keep := fun _ _ _ _ => rfl
    rec_ := e2
    mark := fun D hD => ⟨(e9 D hD).2.2, fun h => by have := hi.bnd D h; have := (e9 D hD).1; omega⟩
    nol := fun h => by have := hi.bnd l h; omega
    leans := fun _ => Iff.rfl }
  have hsv := share_srel hs1 hw hll
  have hle : (shareR sh ρ).le (shareV sh ρ H.length l) := fun i m h => by
    obtain ⟨_, m0, h2, _⟩ := shareR_some h
    have := (hi.srel.dom i m0 h2).1
    unfold shareV Ren.add
    rw [if_neg (by omega)]; exact h
  have hcall := hit _ (loopE E ρ H S w1 (recOf fn ac.tmps ps assign body D0) l Dm) (fun k x => x.2.2 = none ∧ I k x.1 x.2.1) (fun x => ∃ c, x.2.2 = some c ∧ Ix c x.1 x.2.1) H.length
    (shareH sh H ++ [.tok (pinsOf sh ρ H.length l)]) (H, g, none)
    (fun i hi' c es own hH => by rw [List.getElem?_append_left (by rw [shareH_len]; exact (List.getElem?_eq_some_iff.1 hH).1)]; exact shareH_row hi' hH)
    (by
      rintro k x hx H1 ⟨Hc, gc, st⟩ hext ⟨hst, hIk⟩
      simp only at hst hIk
      subst hst
      obtain ⟨htok, hview⟩ := view_of_ext hext
      have hxm := List.mem_of_getElem? hx
      exact CallV.yield hi.srel e3 e4 ht htok hview hw hshd (hxl x hxm) (fun v hv => hxa ρ w hi.srel hshd x hxm v hv l) (fun H2 g2 h => (hI H2 g2 (h.imp (fun h => ⟨k + 1, h⟩) id)).1) (fun H2 g2 h => (hI H2 g2 (h.imp (fun h => ⟨k + 1, h⟩) id)).2) (round k x Hc gc hx hIk))
    ⟨rfl, h0⟩
  have hinv : Inv (loopE E ρ H S w1 (recOf fn ac.tmps ps assign body D0) l Dm) (shareV sh ρ H.length l) (shareH sh H ++ [.tok (pinsOf sh ρ H.length l)]) (H, g, none) (fun b => S b ∨ LiveBlk ρ H b ∨ LiveBlk ρ H b ∨ b = l ∨ Dm = some b) w1 := by
    refine ⟨hsv, ⟨ρ, S, hJ⟩, fun b hb => ?_, fun b _ => share_noOwn⟩
    rcases hb with h1 | ⟨i, m1, o, h1, _, _, rfl⟩ | ⟨i, m1, o, h1, _, _, rfl⟩ | rfl | h1
    · have := hi.bnd b h1; omega
    · exact (hs1.dom i m1 h1).2
    · exact (hs1.dom i m1 h1).2
    · exact hll
    · exact (Array.getElem?_eq_some_iff.1 (e9 b h1).2.2).1
  have hargs : ARel (shareV sh ρ H.length l) ⟨fx ++ ([.func (.yield H.length) #[] #[]] ++ cx)⟩ (x' ++ #[.func (.yield l) #[] #[]] ++ c') := by
    have a1 : ARel (shareV sh ρ H.length l) ⟨fx⟩ x' := ⟨by simpa using hx1, fun j a b => (hfx _ (List.getElem_mem (by simpa using a)) ρ _ (hx2 j (by simpa using a) b)).mono hle⟩
    have a2 : ARel (shareV sh ρ H.length l) ⟨cx⟩ c' := ⟨by simpa using hc1, fun j a b => (hcx _ (List.getElem_mem (by simpa using a)) ρ _ (hc2 j (by simpa using a) b)).mono hle⟩
    have a3 : ARel (shareV sh ρ H.length l) ⟨[.func (.yield H.length) #[] #[]]⟩ #[.func (.yield l) #[] #[]] := ⟨rfl, fun j a b => by
      have : j = 0 := by simp at a; omega
      subst this
      exact .yield (m := ⟨l, 0, 0, false⟩) (Ren.add_same _ _ _)⟩
    have := (a1.append a3).append a2
    simpa [List.append_assoc] using this
  have hcr := hcall _ w1 _ _ hinv hargs
  refine ⟨l, _, w1, { target := .fn (.func gf) c', args := x' ++ #[.func (.yield l) #[] #[]] }, w1, gf, x' ++ #[.func (.yield l) #[] #[]] ++ c', w1, e1, ?_, fun _ _ => trivial, by simp [invoke, he _ _], fun h => by simp [Wr, Fence.wide] at h, ?_⟩
  · simp only [resolve, hev]
    simp [go_sem]
  · refine callsIn_Wr.2 (hcr.mono ?_)
    rintro e w3 ⟨ρ', v, v', H', ⟨Hc, gc, st⟩, S', rfl, _, hi3, tr3, rfl, hend⟩
    obtain ⟨ρc, Sc, hJ3⟩ := hi3.j
    have hend' := run_endLoop (P := P) hJ3.rec_ (by cases st <;> simp [recOf])
    refine ⟨_, _, hend', ?_⟩
    have hno : ∀ b, b < w.heap.size → b ≠ l := fun b hb e => by omega
    have hput : ∀ o b, b ≠ l → (w3.putObj l o).heap[b]? = w3.heap[b]? := fun o b hb => World.putObj_heap_other hb
    have hic := hJ3.inv.putObj (o' := .loop { recOf fn ac.tmps ps assign body D0 st with state := .exhausted }) hJ3.nol hJ3.rec_ (fun _ _ _ e => by cases e) (fun _ _ e => by cases e)
    have trc : Trans ρ H S w ρc Hc Sc (w3.putObj l (.loop { recOf fn ac.tmps ps assign body D0 st with state := .exhausted })) := {
      next := hJ3.next
      ext := hJ3.ext
      os := hJ3.os.trans e6
      tape := hJ3.tape.trans e7
      out := hJ3.out.trans e8
      size := by have := hJ3.size; simp; omega
      keep := fun b hb h1 h2 => by
        rw [hput _ b (hno b hb)]
        by_cases hlb : LiveBlk ρ H b
        · exact (hJ3.keep b hlb h1 h2).trans (e5 b hb)
        · refine (tr3.keep b (by omega) (fun h3 => ?_) share_noOwn).trans (e5 b hb)
          rcases h3 with h3 | h3 | h3 | h3 | h3
          · exact h1 h3
          · exact hlb h3
          · exact hlb h3
          · exact hno b hb h3
          · have := (e9 b h3).1; omega
      fresh := fun b hb => by
        rcases hJ3.fresh b hb with h1 | h1
        · exact .inl (by omega)
        · exact .inr h1
      grow := fun b hb => by
        rcases hJ3.grow b hb with h1 | h1 | h1
        · exact .inl h1
        · exact .inr (.inl (by omega))
        · exact .inr (.inr h1) }
    have hmk := hm.trans hi.srel trc
    have hDs : ∀ D ∈ Ds, D < w.heap.size := fun D hD => (Array.getElem?_eq_some_iff.1 (hm.at_ D hD).2).1
    have hmk2 : Marks (Dm.toList.map (fun D => ({ target := .collected D, args := #[] } : Deferred)) ++ ac.defers) (Dm.toList ++ Ds) Sc (w3.putObj l (.loop { recOf fn ac.tmps ps assign body D0 st with state := .exhausted })) := by
      refine ⟨by rw [List.map_append, hm.eq], ?_, fun D hD => ?_⟩
      · cases Dm with
        | none => exact hm.nodup
        | some D => exact List.nodup_cons.2 ⟨fun h => by have := hDs D h; have := (e9 D rfl).1; omega, hm.nodup⟩
      · rcases List.mem_append.1 hD with h1 | h1
        · have hDm : Dm = some D := by simpa using h1
          exact ⟨(hJ3.mark D hDm).2, (hput _ D (e9 D hDm).2.1).trans (hJ3.mark D hDm).1⟩
        · exact hmk.at_ D h1
    have hnew : ∀ D ∈ Dm.toList ++ Ds, D ∈ Ds ∨ w.heap.size ≤ D := fun D hD => by
      rcases List.mem_append.1 hD with h1 | h1
      · exact .inr (e9 D (by simpa using h1)).1
      · exact .inl h1
    have htc : TRel ρc T ac.tmps := ht.mono (trc.le hi.srel)
    rcases hend with ⟨hst, hIn⟩ | ⟨c, hst, hIx⟩
    · simp only at hst hIn
      subst hst
      exact ⟨ρc, T, Hc, gc, Sc, _, hic, htc, trc, ⟨hmk2, hnew⟩, done Hc gc hIn⟩
    · simp only at hst hIx
      subst hst
      exact wpIn_mono (stop c Hc gc hIx ρc _ Sc ro _ { ac with defers := Dm.toList.map (fun D => ({ target := .collected D, args := #[] } : Deferred)) ++ ac.defers } hic htc (hr.trans hi.srel trc) hmk2) fun e a w' hp => hp.from trc hnew
end
end Go.Abs
namespace Go.Abs
open Go
def maskT (T : List Value) : List Nat → List Value
  | [] => T
  | i :: l => maskT (T.set i wild) l
def updT (T : List Value) : List (Nat × Value) → List Value
  | [] => T
  | p :: l => updT (T.set p.1 p.2) l
theorem Weak.of {a b : List Value} (hl : b.length = a.length) (h : ∀ j : Nat, b[j]? = a[j]? ∨ b[j]? = some Go.Abs.wild) : Weak a b := by
  induction a generalizing b with
  | nil => cases b with
    | nil => exact .nil
    | cons x l => simp at hl
  | cons x a ih => cases b with
    | nil => simp at hl
    | cons y b =>
      have h0 := h 0
      have ht : Weak a b := ih (by simpa using hl) fun j => by simpa using h (j + 1)
      simp only [List.getElem?_cons_zero, Option.some.injEq] at h0
      rcases h0 with rfl | rfl
      · exact .same ht
      · exact .wild ht
theorem maskT_spec : ∀ (l : List Nat) (T : List Value), (maskT T l).length = T.length ∧ ∀ j : Nat, (maskT T l)[j]? = T[j]? ∨ (maskT T l)[j]? = some wild
  | [], T => ⟨rfl, fun _ => .inl rfl⟩
  | i :: l, T => by
    obtain ⟨h1, h2⟩ := maskT_spec l (T.set i wild)
    refine ⟨by rw [maskT, h1]; simp, fun j => ?_⟩
    rw [maskT]
    rcases h2 j with h | h
    · rw [List.getElem?_set] at h
      split at h
      · split at h
        · exact .inr h
        · rename_i h3 h4
          subst h3
          exact .inl (h.trans (List.getElem?_eq_none (by omega)).symm)
      · exact .inl h
    · exact .inr h
theorem updT_spec {T : List Value} : ∀ (l : List (Nat × Value)) (U : List Value), U.length = T.length → (∀ j : Nat, U[j]? = T[j]? ∨ U[j]? = some wild) → (∀ p ∈ l, T[p.1]? = some p.2) →
    (updT U l).length = T.length ∧ ∀ j : Nat, (updT U l)[j]? = T[j]? ∨ (updT U l)[j]? = some wild
  | [], U, h1, h2, _ => ⟨h1, h2⟩
  | p :: l, U, h1, h2, h3 => by
    rw [updT]
    refine updT_spec l _ (by simpa using h1) (fun j => ?_) fun q hq => h3 q (by simp [hq])
    have hp := h3 p (by simp)
    rw [List.getElem?_set]
    split
    · rename_i e
      subst e
      split
      · exact .inl hp.symm
      · rename_i h4
        have := (List.getElem?_eq_some_iff.1 hp).1
        omega
    · exact h2 j
section
variable {γ : Type} {P : Program} {E : Env γ} {T : List Value} {H : AHeap} {g : γ} {Q : Exit → List Value → AHeap → γ → Prop}
theorem WPJ.loopT {c : Code} {σ : Type} (n : Nat) (ws : List Nat) (us : Nat → σ → List (Nat × Value)) (J : Nat → σ → AHeap → γ → Prop) (j0 : Nat) (s0 : σ) (hj : j0 ≤ n) (hT : ∀ p ∈ us j0 s0, T[p.1]? = some p.2) (hJ : J j0 s0 H g)
    (round : ∀ j s H1 g1, j ≤ n → J j s H1 g1 → H.length ≤ H1.length → WPJ P E c (thenQ (fun T2 H2 g2 => ∃ s', j < n ∧ Weak T2 (updT (maskT T ws) (us (j + 1) s')) ∧ J (j + 1) s' H2 g2) Q) (updT (maskT T ws) (us j s)) H1 g1) : WPJ P E (.loop c) Q T H g :=
  WPJ.loopN n (fun j s => updT (maskT T ws) (us j s)) J j0 s0 hj (by
    obtain ⟨h1, h2⟩ := maskT_spec ws T
    obtain ⟨h3, h4⟩ := updT_spec (us j0 s0) _ h1 h2 hT
    exact Weak.of h3 h4) hJ round
end
end Go.Abs
namespace Go.Abs
open Go
def Plain (v : Value) : Prop := ∀ (sh : List Nat), Within sh v
theorem Plain.flat {v : Value} (h : flat1 v = true) : Plain v := fun _ => Within.flat h
theorem Plain.wild : Plain Go.Abs.wild := fun _ _ _ hv => by cases hv; exact .wild _
def idOf : Value → List Nat
  | .slice (some a) _ _ => [a.block]
  | _ => []
def PlainS (H : AHeap) (v : Value) : Prop := ∀ i ∈ idOf v, ∃ row es, H[i]? = some (.row row es false) ∧ ∀ x ∈ row, Plain x
theorem PlainS.ext {H H' : AHeap} {v : Value} (h : PlainS H v) (he : Ext H H') : PlainS H' v := fun i hi => by
  obtain ⟨row, es, h1, h2⟩ := h i hi
  exact ⟨row, es, he.get h1, h2⟩
def Viewed (sh : List Nat) (H Hi : AHeap) : Prop := ∀ i ∈ sh, ∀ c es own, H[i]? = some (.row c es own) → Hi[i]? = some (.row c es false)
theorem RdS.viewed {sh : List Nat} {H Hi : AHeap} {v : Value} {es : Nat} {xs : List (List Value)} (h : RdS H v es xs) (hs : ∀ i ∈ idOf v, i ∈ sh) (hv : Viewed sh H Hi) : RdS Hi v es xs := by
  obtain ⟨h1, h2⟩ := h
  refine ⟨h1, ?_⟩
  rcases h2 with ⟨i, o, c, row, es', own, a, b, d⟩ | h2
  · exact .inl ⟨i, o, c, row, es', false, a, hv i (hs i (by rw [a]; simp [idOf])) _ _ _ b, d⟩
  · exact .inr h2
theorem PlainS.viewed {sh : List Nat} {H Hi : AHeap} {v : Value} (h : PlainS H v) (hs : ∀ i ∈ idOf v, i ∈ sh) (hv : Viewed sh H Hi) : PlainS Hi v := fun i hi => by
  obtain ⟨row, es, h1, h2⟩ := h i hi
  exact ⟨row, es, hv i (hs i hi) _ _ _ h1, h2⟩
theorem Within.idOf {sh : List Nat} {v : Value} {H : AHeap} {es : Nat} {xs : List (List Value)} (h : RdS H v es xs) (hs : ∀ i ∈ idOf v, i ∈ sh) : Within sh v := by
  obtain ⟨_, h2⟩ := h
  rcases h2 with ⟨i, o, c, row, es', own, rfl, _⟩ | ⟨_, rfl | rfl⟩
  · exact .slice (hs i (by simp [Go.Abs.idOf]))
  · exact .flat rfl
  · exact .flat rfl
def Hits (P : Program) (gf : FuncId) (fx cx : List Value) (ok : AHeap → Prop) (xs : List (List Value)) : Prop :=
  ∀ (γ' : Type) (E' : Env γ') (J : Nat → γ' → Prop) (Jx : γ' → Prop) (yn : Nat) (Hi : AHeap) (g0 : γ'), ok Hi →
    (∀ k x, xs[k]? = some x → ∀ H1 g1, ExtOwn Hi H1 → J k g1 → CallV P E' (.func (.yield yn) #[] #[]) x (fun v H2 g2 => H2 = H1 ∧ (v = .bool true ∧ J (k + 1) g2 ∨ v = .bool false ∧ Jx g2)) H1 g1) → J 0 g0 →
    CallJ P E' gf (fx ++ ([.func (.yield yn) #[] #[]] ++ cx)) (fun _ H' g' => H' = Hi ∧ (J xs.length g' ∨ Jx g')) Hi g0
theorem Across.flat {sh : List Nat} {ρ : Ren} {n l : Nat} {v : Value} (h : flat1 v = true) : Across sh ρ n l v := fun _ _ _ _ _ hv => flat1_rel h hv
theorem Across.agg {sh : List Nat} {ρ : Ren} {n l : Nat} {a : List Value} (h : ∀ v ∈ a, Across sh ρ n l v) : Across sh ρ n l (.agg ⟨a⟩) := fun ρ2 ρc v' h1 h2 hv => by
  cases hv with
  | agg hs hh => exact .agg hs fun j a b => h _ (List.getElem_mem (by simpa using a)) ρ2 ρc _ h1 h2 (hh j a b)
theorem Across.slice {sh : List Nat} {ρ : Ren} {n l : Nat} {i o len cap : Nat} {H : AHeap} {w : World} {row : List Value} {es : Nat} (hs : SRel ρ H w) (hi : i ∈ sh) (hn : i < n) (hm : ∃ m, ρ i = some m) (ho : H[i]? = some (.row row es false)) :
    Across sh ρ n l (.slice (some ⟨i, o, none⟩) len cap) := fun ρ2 ρc v' h1 h2 hv => by
  obtain ⟨m, hm⟩ := hm
  have hf : m.own = false := (hs.obj i m _ hm ho).2.1
  have h3 : ρ2 i = some { m with own := false } := h1 (i, { m with own := false }) (by simp only [pinsOf, List.mem_cons, List.mem_filterMap]; exact .inr ⟨i, hi, by rw [hm]; rfl⟩)
  cases hv with
  | slice h4 h5 h6 =>
    rw [h3] at h4
    cases h4
    exact .slice (m := m) ((h2 i hn).trans hm) h5 (fun e => by rw [hf] at e; cases e)
section
variable {γ : Type} {P : Program} {E : Env γ}
theorem WPJ.rangeHits {gop : Operand} {ps : Array Tmp} {assign body : Code} {Q : Exit → List Value → AHeap → γ → Prop} {T : List Value} {H : AHeap} {g : γ} {gf : FuncId} {fx cx : List Value} {ok : AHeap → Prop}
    (sh : List Nat) (xs : List (List Value)) (hg : evalT T gop = .func (.func gf) ⟨fx⟩ ⟨cx⟩) (he : Enters P gf) (hit : Hits P gf fx cx ok xs) (hok : ∀ Hi, Viewed sh H Hi → ok Hi)
    (hsh : ∀ (ρ : Ren) (w : World), SRel ρ H w → (∀ v', VRel ρ (.func (.func gf) ⟨fx⟩ ⟨cx⟩) v' → ∀ i ∈ sh, ∃ m, ρ i = some m))
    (hfx : ∀ v ∈ fx, Within sh v) (hcx : ∀ v ∈ cx, Within sh v) (hw : ∀ i ∈ sh, ∀ c es own, H[i]? = some (.row c es own) → ∀ v ∈ c, Within sh v)
    (hxl : ∀ x ∈ xs, x.length = ps.size) (hxa : ∀ (ρ : Ren) (w : World), SRel ρ H w → (∀ i ∈ sh, ∃ m, ρ i = some m) → ∀ x ∈ xs, ∀ v ∈ x, ∀ l, Across sh ρ H.length l v)
    (I : Nat → AHeap → γ → Prop) (Ix : Code → AHeap → γ → Prop) (h0 : I 0 H g)
    (hI : ∀ H2 g2, ((∃ k, I k H2 g2) ∨ ∃ c, Ix c H2 g2) → (∀ i ∈ sh, ∀ c es own, H[i]? = some (.row c es own) → H2[i]? = some (.row c es own)) ∧ (∀ (i : Nat) (o : AObj), H2[i]? = some o → o.dead? = false → ownedO o = false → ∃ o' : AObj, H[i]? = some o' ∧ o'.dead? = false))
    (round : ∀ k x Hc gc, xs[k]? = some x → I k Hc gc → WPJ P E assign (thenQ (WPJ P E body (roundQ (I (k + 1)) Ix)) (fun _ _ _ _ => False)) (putPs T ps.toList x) Hc gc)
    (done : ∀ Hc gc, I xs.length Hc gc → Q .normal T Hc gc) (stop : ∀ c Hc gc, Ix c Hc gc → WPJ P E c Q T Hc gc) : WPJ P E (.rangeFunc gop ps assign body) Q T H g := by
  exact WPJ.rangeFunc hg he sh xs hsh hfx hcx hw hxl hxa I Ix h0 hI (fun γ' E' J Jx yn Hi g0 h2 h3 h4 => hit γ' E' J Jx yn Hi g0 (hok Hi h2) h3 h4) round done stop
end
end Go.Abs
namespace Go.Abs
open Go
theorem SRel.aliasOf {ρ : Ren} {H : AHeap} {w : World} (h : SRel ρ H w) (m : Img) (o : AObj) (hm : m.own = false) (hlt : m.blk < w.heap.size) (hor : ORel ρ o m w.heap[m.blk]?) (hno : ¬ LiveOwn ρ H m.blk) : SRel (ρ.add H.length m) (H ++ [o]) w := by
  have hle : ρ.le (ρ.add H.length m) := fun i m' hi => by
    have := (h.dom i m' hi).1
    unfold Ren.add
    rw [if_neg (by omega)]; exact hi
  have hold : ∀ {i m'}, (ρ.add H.length m) i = some m' → i = H.length ∧ m' = m ∨ i < H.length ∧ ρ i = some m' := fun {i m'} hi => by
    unfold Ren.add at hi
    split at hi
    · rename_i e; exact .inl ⟨e, by simpa using hi.symm⟩
    · exact .inr ⟨(h.dom i m' hi).1, hi⟩
  have hnew : (H ++ [o])[H.length]? = some o := by simp
  refine ⟨fun i m' hi => ?_, fun i m' o' hi ho => ?_, fun i j m1 m2 o1 o2 hi hj ho1 ho2 hd1 hd2 hown hbb => ?_⟩
  · rcases hold hi with ⟨rfl, rfl⟩ | ⟨h1, h2⟩
    · exact ⟨by simp, hlt⟩
    · exact ⟨by simp; omega, (h.dom i m' h2).2⟩
  · rcases hold hi with ⟨rfl, rfl⟩ | ⟨h1, h2⟩
    · rw [hnew] at ho; cases ho; exact hor.mono hle
    · rw [List.getElem?_append_left h1] at ho
      exact (h.obj i m' o' h2 ho).mono hle
  · rcases hold hi with ⟨rfl, rfl⟩ | ⟨h1, h2⟩
    · rw [hm] at hown; cases hown
    · rw [List.getElem?_append_left h1] at ho1
      rcases hold hj with ⟨rfl, rfl⟩ | ⟨h3, h4⟩
      · exact absurd ⟨i, m1, o1, h2, ho1, hd1, hown, hbb⟩ hno
      · rw [List.getElem?_append_left h3] at ho2
        exact h.inj i j m1 m2 o1 o2 h2 h4 ho1 ho2 hd1 hd2 hown hbb
theorem alias_own {ρ : Ren} {H : AHeap} {w : World} (h : SRel ρ H w) (m : Img) (o : AObj) (hm : m.own = false) {b : Nat} (hb : LiveOwn (ρ.add H.length m) (H ++ [o]) b) : LiveOwn ρ H b := by
  obtain ⟨i, m', o', h1, h2, h3, h4, rfl⟩ := hb
  unfold Ren.add at h1
  split at h1
  · simp only [Option.some.injEq] at h1; subst h1; rw [hm] at h4; cases h4
  · have := (h.dom i m' h1).1
    rw [List.getElem?_append_left this] at h2
    exact ⟨i, m', o', h1, h2, h3, h4, rfl⟩
theorem LoopJ.alias {γ : Type} {E : Env γ} {ρ : Ren} {H : AHeap} {S : Nat → Prop} {w1 : World} {rec : Option Code → Loop} {l : Nat} {Dm : Option Nat} {Hc : AHeap} {gc : γ} {st : Option Code} {S' : Nat → Prop} {w : World} {ρc : Ren} {Sc : Nat → Prop}
    (h : LoopJ E ρ H S w1 rec l Dm (Hc, gc, st) S' w ρc Sc) (m : Img) (o : AObj) (hm : m.own = false) (hlt : m.blk < w.heap.size) (hor : ORel ρc o m w.heap[m.blk]?) (hno : ¬ LiveOwn ρc Hc m.blk) :
    LoopJ E ρ H S w1 rec l Dm (Hc ++ [o], gc, st) (fun b => Sc b ∨ LiveBlk (ρc.add Hc.length m) (Hc ++ [o]) b ∨ LiveBlk ρ H b ∨ b = l ∨ Dm = some b) w (ρc.add Hc.length m) Sc where
  inv := ⟨h.inv.srel.aliasOf m o hm hlt hor hno, h.inv.j, h.inv.bnd, fun b hb hL => h.inv.disj b hb (alias_own h.inv.srel m o hm hL)⟩
  next := by have := h.next; simp at this ⊢; omega
  ext := fun i hi => by
    have := h.next
    have h2 := h.ext i hi
    unfold Ren.add
    rw [if_neg (by simp at this; omega)]; exact h2
  os := h.os
  tape := h.tape
  out := h.out
  size := h.size
  fresh := fun b hb => h.fresh b (alias_own h.inv.srel m o hm hb)
  grow := h.grow
  keep := h.keep
  rec_ := h.rec_
  mark := h.mark
  nol := h.nol
  leans := fun b => Iff.rfl
section
variable {γ : Type} {P : Program} {E : Env γ} {ρ : Ren} {H : AHeap} {S : Nat → Prop} {w0 w1 : World} {sh : List Nat} {fn : FuncId} {T : List Value} {tmps0 : Array Value} {ps : Array Tmp} {assign body : Code} {D0 l : Nat} {Dm : Option Nat}
end
end Go.Abs
namespace Go.Abs
open Go
inductive Handed (x : List Value) (Hc : AHeap) : Option Nat → Value → AHeap → Prop
  | row {cs : List Value} {cap : Nat} (h : cs.take x.length = x) (hf : cs.all flat1 = true) : Handed x Hc (some Hc.length) (.slice (some ⟨Hc.length, 0, none⟩) x.length cap) (Hc ++ [.row cs 1 false])
  | nil (h : x = [] := by rfl) : Handed x Hc none (.slice none 0 0) Hc
def HitsS (P : Program) (gf : FuncId) (fx cx : List Value) (ok : AHeap → Prop) (xs : List (List Value)) : Prop :=
  ∀ (γ' : Type) (E' : Env γ') (J : Nat → γ' → Prop) (Jx : γ' → Prop) (yn : Nat) (Hi : AHeap) (g0 : γ'), ok Hi →
    (∀ k x, xs[k]? = some x → ∀ H1 g1 i cap cs, ExtOwn Hi H1 → H1[i]? = some (.row cs 1 true) → cs.all flat1 = true → cs.take x.length = x → J k g1 → CallV P E' (.func (.yield yn) #[] #[]) [.slice (some ⟨i, 0, none⟩) x.length cap] (fun v H2 g2 => H2 = H1.set i .dead ∧ (v = .bool true ∧ J (k + 1) g2 ∨ v = .bool false ∧ Jx g2)) H1 g1) →
    (∀ k, xs[k]? = some [] → ∀ H1 g1, ExtOwn Hi H1 → J k g1 → CallV P E' (.func (.yield yn) #[] #[]) [.slice none 0 0] (fun v H2 g2 => H2 = H1 ∧ (v = .bool true ∧ J (k + 1) g2 ∨ v = .bool false ∧ Jx g2)) H1 g1) → J 0 g0 →
    CallJ P E' gf (fx ++ ([.func (.yield yn) #[] #[]] ++ cx)) (fun _ H' g' => H' = Hi ∧ (J xs.length g' ∨ Jx g')) Hi g0
section
variable {γ : Type} {P : Program} {E : Env γ}
end
end Go.Abs
namespace Go.Abs
open Go
def lendO : AObj → AObj
  | .row c es _ => .row c es false
  | _ => .dead
def lendH (H : AHeap) : AHeap := H.map lendO
def lendR (ρ : Ren) : Ren := fun i => (ρ i).map fun m => { m with own := false }
def Apart (n : Nat) (v : Value) : Prop := ∀ (ρa ρb : Ren) (v' : Value), (∀ i, n ≤ i → ρa i = ρb i) → VRel ρa v v' → VRel ρb v v'
theorem Apart.flat {n : Nat} {v : Value} (h : flat1 v = true) : Apart n v := fun _ _ _ _ hv => flat1_rel h hv
theorem Apart.slice {n i o l c : Nat} (h : n ≤ i) : Apart n (.slice (some ⟨i, o, none⟩) l c) := fun ρa ρb v' hab hv => by
  cases hv with
  | slice h1 h2 h3 => exact .slice ((hab i h).symm.trans h1) h2 h3
theorem Apart.agg {n : Nat} {a : List Value} (h : ∀ v ∈ a, Apart n v) : Apart n (.agg ⟨a⟩) := fun ρa ρb v' hab hv => by
  cases hv with
  | agg hs hh => exact .agg hs fun j p q => h _ (List.getElem_mem (by simpa using p)) ρa ρb _ hab (hh j p q)
theorem Apart.tuple {n : Nat} {a : List Value} (h : ∀ v ∈ a, Apart n v) : Apart n (.tuple ⟨a⟩) := fun ρa ρb v' hab hv => by
  cases hv with
  | tuple hs hh => exact .tuple hs fun j p q => h _ (List.getElem_mem (by simpa using p)) ρa ρb _ hab (hh j p q)
def flatOwn : AObj → Bool
  | .row cells _ own => own && cells.all flat1
  | .dead => true
  | _ => false
end Go.Abs
namespace Go.Abs
open Go
theorem get_setc {l : List Value} {n : Nat} {v : Value} (h : n < l.length) : (l.set n v)[n]? = some v := List.getElem?_set_self h
theorem get_setcne {l : List Value} {n m : Nat} {u v : Value} (h : n ≠ m) (h2 : l[m]? = some u) : (l.set n v)[m]? = some u := by rw [List.getElem?_set_ne h]; exact h2
theorem fillA_cons {place : Nat → Option (Nat × Nat)} {cells cs : List Value} {i off size : Nat} {v : Value} {rest : List (Nat × Value)} (hp : place i = some (off, size)) (h1 : (cellsL v).all cellOk = true) (h2 : (cellsL v).length = size) (h3 : off + size ≤ cells.length)
    (h : fillA place (splice cells off (cellsL v)) rest = some cs) : fillA place cells ((i, v) :: rest) = some cs := by
  simp only [fillA, hp]
  rw [if_pos (by simp [h2, h3]; simpa using h1)]
  exact h
def readV (tmps : Array Value) : ResultVar → Sem Value
  | .tmp t => pure (tmps.getD t undef)
  | .cell a t => do loadVar t (← asAddr (tmps.getD a undef))
def RV (P : Program) (r : ResultVar) (T : List Value) (H : AHeap) (v : Value) : Prop :=
  ∀ (ρ : Ren) (w : World) (tmps : Array Value), SRel ρ H w → TRel ρ T tmps → ∃ v', (readV tmps r).run P w = .ok v' w ∧ VRel ρ v v'
theorem results_eq (fn : Func) (tmps : Array Value) : results fn tmps = (do let vs ← fn.results.mapM (readV tmps); pure (if h : vs.size = 1 then vs[0] else .tuple vs)) := by
  rfl
theorem RV.tmp {P : Program} {T : List Value} {H : AHeap} {t : Tmp} {v : Value} (hv : getT T t = v) : RV P (.tmp t) T H v := fun ρ w tmps _ ht => ⟨tmps.getD t undef, by simp [readV], hv ▸ ht.getD t⟩
theorem RV.cell {P : Program} {T : List Value} {H : AHeap} {p : Tmp} {t : TypeId} {i o : Nat} {d : TypeDesc} {n : Nat} {z : Value} {b : Nat} {cells : List Value} {es : Nat} {own : Bool} {v : Value}
    (ht : Ty P t d n z b) (hp : getT T p = .pointer (some ⟨i, o, none⟩)) (hi : H[i]? = some (.row cells es own)) (hv : (if aggD d then (if o + n ≤ cells.length then some (Value.agg ⟨(cells.drop o).take n⟩) else none) else cells[o]?) = some v) : RV P (.cell p t) T H v := fun _ρ _w _tmps hs hT =>
  run_loadVar_rel hs ht hi hv (hp ▸ hT.getD p)
theorem Res.two {P : Program} {fn : Func} {T : List Value} {H : AHeap} {r1 r2 : ResultVar} {v1 v2 : Value} (h : fn.results = #[r1, r2]) (h1 : RV P r1 T H v1) (h2 : RV P r2 T H v2) : Res P fn T H (.tuple #[v1, v2]) := fun ρ w tmps hs hT => by
  obtain ⟨u1, e1, q1⟩ := h1 ρ w tmps hs hT
  obtain ⟨u2, e2, q2⟩ := h2 ρ w tmps hs hT
  refine ⟨.tuple #[u1, u2], ?_, .tuple rfl fun j k1 k2 => by
    match j, k1 with
    | 0, _ => exact q1
    | 1, _ => exact q2⟩
  rw [results_eq, h]
  simp [Sem.run_bind, e1, e2]
theorem RV.cellN {P : Program} {T : List Value} {H : AHeap} {p : Tmp} {t : TypeId} {i o : Nat} {d : TypeDesc} {n : Nat} {z : Value} {b : Nat} {cells cs : List Value} {es : Nat} {own : Bool} [ht : TyC P t d n z b] (hd : aggD d = true)
    (hp : getT T p = .pointer (some ⟨i, o, none⟩)) (hi : H[i]? = some (.row cells es own)) (hn : o + n ≤ cells.length) (hc : (cells.drop o).take n = cs) : RV P (.cell p t) T H (.agg ⟨cs⟩) := RV.cell ht.ty hp hi (by rw [hd, ← hc]; simp [hn])
theorem RV.cell1 {P : Program} {T : List Value} {H : AHeap} {p : Tmp} {t : TypeId} {i o : Nat} {d : TypeDesc} {n : Nat} {z : Value} {b : Nat} {cells : List Value} {v : Value} {es : Nat} {own : Bool} [ht : TyC P t d n z b] (hd : aggD d = false)
    (hp : getT T p = .pointer (some ⟨i, o, none⟩)) (hi : H[i]? = some (.row cells es own)) (hc : cells[o]? = some v) : RV P (.cell p t) T H v := RV.cell ht.ty hp hi (by rw [hd]; simp [hc])
theorem rep_get {α : Type} (c : List α) : ∀ (k j : Nat) (h : j < (List.replicate k c).flatten.length), ∃ h2 : j % c.length < c.length, (List.replicate k c).flatten[j] = c[j % c.length]
  | 0, j, h => by simp at h
  | k + 1, j, h => by
    simp only [List.replicate_succ, List.flatten_cons] at h ⊢
    have hc : 0 < c.length := by
      rcases Nat.eq_zero_or_pos c.length with h0 | h0
      · have : c = [] := List.length_eq_zero_iff.1 h0
        subst this; simp at h
      · exact h0
    refine ⟨Nat.mod_lt _ hc, ?_⟩
    by_cases hj : j < c.length
    · rw [List.getElem_append_left hj]
      simp only [Nat.mod_eq_of_lt hj]
    · rw [List.getElem_append_right (by omega)]
      obtain ⟨h2, h3⟩ := rep_get c k (j - c.length) (by simp at h ⊢; omega)
      rw [h3]
      have : (j - c.length) % c.length = j % c.length := by
        have e : j = (j - c.length) + c.length := by omega
        rw [e, Nat.add_mod_right]; simp
      simp only [this]
theorem st_makeN {γ : Type} {P : Program} {E : Env γ} {T : List Value} {H : AHeap} {g : γ} {R : List Value → AHeap → γ → Prop} {ops : Array Oper} {dst : Option Tmp} {ty : TypeId} {ps : String} {af : Array Edge} {rest : List Oper} {t : TypeId} {l c : Operand} {e : TypeId} {n : Nat} {z : Value} {b : Nat} {d' : TypeDesc} {n' : Nat} {z' : Value} {b' : Nat} {k k' : IntKind} {jl jc : Int} [ht : TyC P t (.slice e) n z b] [he : TyC P e d' n' z' b'] (hz' : (cellsL z').length = n')
    (hl : evalT T l = .int k jl) (hc : evalT T c = .int k' jc) (h0 : 0 ≤ jl ∧ jl ≤ jc ∧ (b' : Int) * jc ≤ 281474976710656 ∧ jc ≤ 9223372036854775807)
    (kk : OpsJ P E ops R rest (putT T dst (.slice (some ⟨H.length, 0, none⟩) jl.toNat jl.toNat)) (H ++ [.row (List.replicate jl.toNat ((cellsL z').map constT)).flatten n' true]) g) : OpsJ P E ops R (⟨dst, .makeSlice t l c, ty, ps, af, none⟩ :: rest) T H g :=
  OpsJ.step (runs_makeSlice ht.ty he.ty hz' hl hc h0.1 h0.2.1 h0.2.2.1 h0.2.2.2 (by simp [hz']) (fun j h => by
    obtain ⟨h2, h3⟩ := rep_get ((cellsL z').map constT) jl.toNat j h
    rw [h3]
    simp only [List.length_map, hz'] at h2 ⊢
    rw [List.getElem_map]
    congr 1
    rw [List.getD_eq_getElem?_getD, List.getElem?_eq_getElem (by omega)]; rfl)) rfl kk
structure Hold (A : Prop) : Prop where
  out : A
structure Hold2 (p B : Prop) : Prop where
  out : p → B
theorem tf (h : true = false) : False := Bool.noConfusion h
theorem ft (h : false = true) : False := Bool.noConfusion h
theorem tf2 {c : Bool} (h : c = true) (h2 : c = false) : False := tf (h.symm.trans h2)
theorem ft2 {c : Bool} (h : c = false) (h2 : c = true) : False := ft (h.symm.trans h2)
def opTag : Op → Nat
  | .move _ => 0
  | .assign _ => 1
  | .fieldAddr _ _ _ => 2
  | .load _ _ => 3
  | .binOp .add _ _ _ _ => 4
  | .binOp .sub _ _ _ _ => 5
  | .binOp .mul _ _ _ _ => 6
  | .binOp .quo _ _ _ _ => 7
  | .binOp .rem _ _ _ _ => 8
  | .binOp .shl _ _ _ _ => 9
  | .binOp .shr _ _ _ _ => 10
  | .binOp _ _ _ _ _ => 11
  | .call _ => 12
  | .extract _ _ => 13
  | .store _ _ _ => 14
  | .indexAddr _ _ _ => 15
  | .pick _ _ _ => 16
  | .box _ _ => 17
  | .alloc _ => 18
  | .field _ _ _ => 19
  | .index _ _ _ => 20
  | .nilCheck _ => 21
  | .unOp _ _ _ => 22
  | .convert _ _ _ => 23
  | .makeFunc _ _ _ => 24
  | .makeSlice _ _ _ => 25
  | .slice _ _ _ _ _ => 26
  | .build _ _ => 27
  | .buildSlice _ _ _ => 28
  | _ => 29
def codeTag : Code → Nat
  | .seq _ _ => 0
  | .region _ _ _ => 1
  | .ret => 2
  | .block _ _ => 3
  | .cond _ _ _ => 4
  | .skip => 5
  | .exit _ => 6
  | .label _ => 7
  | _ => 8
section
variable {γ : Type} {P : Program} {E : Env γ}
theorem roundQ_n {I' : AHeap → γ → Prop} {Ix : Code → AHeap → γ → Prop} {T : List Value} {H : AHeap} {g : γ} (h : I' H g) : roundQ I' Ix .normal T H g := h
theorem roundQ_ret {I' : AHeap → γ → Prop} {Ix : Code → AHeap → γ → Prop} {T : List Value} {H : AHeap} {g : γ} (h : Ix .ret H g) : roundQ I' Ix .ret T H g := h
theorem roundQ_exit {I' : AHeap → γ → Prop} {Ix : Code → AHeap → γ → Prop} {T : List Value} {H : AHeap} {g : γ} {id : Nat} (h : Ix (.exit id) H g) : roundQ I' Ix (.exit id) T H g := h
theorem tag_le (n : Nat) {T : List Value} {H : AHeap} {g : γ} {R : List Value → AHeap → γ → Prop} {ops : Array Oper} {dst : Option Tmp} {ty : TypeId} {ps : String} {af : Array Edge} {rest : List Oper} {op : Op} (_h : Nat.ble (opTag op) n = true) (k : OpsJ P E ops R (⟨dst, op, ty, ps, af, none⟩ :: rest) T H g) : OpsJ P E ops R (⟨dst, op, ty, ps, af, none⟩ :: rest) T H g := k
theorem mtag_le (n : Nat) {T : List Value} {H : AHeap} {R : List Value → AHeap → Prop} {mm : Nat} {ops : Array Oper} {dst : Option Tmp} {ty : TypeId} {ps : String} {af : Array Edge} {rest : List Oper} {op : Op} (_h : Nat.ble (opTag op) n = true) (k : MonoJ P ops R mm (⟨dst, op, ty, ps, af, none⟩ :: rest) T H) : MonoJ P ops R mm (⟨dst, op, ty, ps, af, none⟩ :: rest) T H := k
theorem ctag_le (n : Nat) {T : List Value} {H : AHeap} {g : γ} {c : Code} {Q : Exit → List Value → AHeap → γ → Prop} (_h : Nat.ble (codeTag c) n = true) (k : WPJ P E c Q T H g) : WPJ P E c Q T H g := k
theorem is_ung {T : List Value} {H : AHeap} {g : γ} {R : List Value → AHeap → γ → Prop} {ops : Array Oper} {dst : Option Tmp} {ty : TypeId} {ps : String} {af : Array Edge} {rest : List Oper} {op : Op} (h : OpsJ P E ops R (⟨dst, op, ty, ps, af, none⟩ :: rest) T H g) : OpsJ P E ops R (⟨dst, op, ty, ps, af, none⟩ :: rest) T H g := h
theorem is_mung {T : List Value} {H : AHeap} {R : List Value → AHeap → Prop} {mm : Nat} {ops : Array Oper} {dst : Option Tmp} {ty : TypeId} {ps : String} {af : Array Edge} {rest : List Oper} {op : Op} (h : MonoJ P ops R mm (⟨dst, op, ty, ps, af, none⟩ :: rest) T H) : MonoJ P ops R mm (⟨dst, op, ty, ps, af, none⟩ :: rest) T H := h
theorem is_ucall {T : List Value} {H : AHeap} {g : γ} {R : List Value → AHeap → γ → Prop} {ops : Array Oper} {dst : Option Tmp} {ty : TypeId} {ps : String} {af : Array Edge} {rest : List Oper} {x : Operand} {xs : Array Operand} {at_ : Array TypeId} (h : OpsJ P E ops R (⟨dst, .call { callee := .value x, args := xs, argTypes := at_ }, ty, ps, af, none⟩ :: rest) T H g) : OpsJ P E ops R (⟨dst, .call { callee := .value x, args := xs, argTypes := at_ }, ty, ps, af, none⟩ :: rest) T H g := h
theorem is_umcall {T : List Value} {H : AHeap} {R : List Value → AHeap → Prop} {mm : Nat} {ops : Array Oper} {dst : Option Tmp} {ty : TypeId} {ps : String} {af : Array Edge} {rest : List Oper} {x : Operand} {xs : Array Operand} {at_ : Array TypeId} (h : MonoJ P ops R mm (⟨dst, .call { callee := .value x, args := xs, argTypes := at_ }, ty, ps, af, none⟩ :: rest) T H) : MonoJ P ops R mm (⟨dst, .call { callee := .value x, args := xs, argTypes := at_ }, ty, ps, af, none⟩ :: rest) T H := h
theorem st_store1 {T : List Value} {H : AHeap} {g : γ} {R : List Value → AHeap → γ → Prop} {ops : Array Oper} {dst : Option Tmp} {ty : TypeId} {ps : String} {af : Array Edge} {rest : List Oper} {t : TypeId} {x y : Operand} {i o : Nat} {d : TypeDesc} {z : Value} {b : Nat} {cells : List Value} {es : Nat} {v : Value} [ht : TyC P t d 1 z b] (hx : evalT T x = .pointer (some ⟨i, o, none⟩)) (hy : evalT T y = v)
    (hc : cellsL v = [v]) (hok : cellOk v = true) (hi : H[i]? = some (.row cells es true)) (ho : o + 1 ≤ cells.length) (k : OpsJ P E ops R rest (putT T dst undef) (H.set i (.row (cells.set o v) es true)) g) : OpsJ P E ops R (⟨dst, .store t x y, ty, ps, af, none⟩ :: rest) T H g := by
  refine st_store hx hy (by rw [hc]; simp [hok]) (by rw [hc]; rfl) hi ho ?_
  have e : splice cells o (cellsL v) = cells.set o v := by
    rw [hc, List.set_eq_take_append_cons_drop, if_pos (by omega)]
    simp [splice]
  rw [e]; exact k
theorem st_storeA {T : List Value} {H : AHeap} {g : γ} {R : List Value → AHeap → γ → Prop} {ops : Array Oper} {dst : Option Tmp} {ty : TypeId} {ps : String} {af : Array Edge} {rest : List Oper} {t : TypeId} {x y : Operand} {i n : Nat} {d : TypeDesc} {z : Value} {b : Nat} {cells : List Value} {es : Nat} {v : Value} [ht : TyC P t d n z b] (hx : evalT T x = .pointer (some ⟨i, 0, none⟩)) (hy : evalT T y = v)
    (hn : (cellsL v).length = n) (hok : (cellsL v).all cellOk = true) (hi : H[i]? = some (.row cells es true)) (hf : cells.length = n) (k : OpsJ P E ops R rest (putT T dst undef) (H.set i (.row (cellsL v) es true)) g) : OpsJ P E ops R (⟨dst, .store t x y, ty, ps, af, none⟩ :: rest) T H g := by
  refine st_store hx hy hok hn hi (by omega) ?_
  have e : splice cells 0 (cellsL v) = cellsL v := by
    simp [splice, hn, hf]
  rw [e]; exact k
theorem Res.cellN {fn : Func} {T : List Value} {H : AHeap} {p : Tmp} {t : TypeId} {i o : Nat} {d : TypeDesc} {n : Nat} {z : Value} {b : Nat} {cells cs : List Value} {es : Nat} {own : Bool} [ht : TyC P t d n z b] (h : fn.results = #[.cell p t]) (hd : aggD d = true)
    (hp : getT T p = .pointer (some ⟨i, o, none⟩)) (hi : H[i]? = some (.row cells es own)) (hn : o + n ≤ cells.length) (hc : (cells.drop o).take n = cs) : Res P fn T H (.agg ⟨cs⟩) := Res.cell h ht.ty hp hi (by rw [hd, ← hc]; simp [hn])
theorem Res.cell1 {fn : Func} {T : List Value} {H : AHeap} {p : Tmp} {t : TypeId} {i o : Nat} {d : TypeDesc} {n : Nat} {z : Value} {b : Nat} {cells : List Value} {v : Value} {es : Nat} {own : Bool} [ht : TyC P t d n z b] (h : fn.results = #[.cell p t]) (hd : aggD d = false)
    (hp : getT T p = .pointer (some ⟨i, o, none⟩)) (hi : H[i]? = some (.row cells es own)) (hc : cells[o]? = some v) : Res P fn T H v := Res.cell h ht.ty hp hi (by rw [hd]; simp [hc])
theorem st_callP {T : List Value} {H : AHeap} {g : γ} {R : List Value → AHeap → γ → Prop} {ops : Array Oper} {dst : Option Tmp} {ty : TypeId} {ps : String} {af : Array Edge} {rest : List Oper} {f : FuncId} {xs : Array Operand} {at_ : Array TypeId} {args : List Value} {X : Value} [he : EntC P f] (ha : evalL T xs.toList = args := by first | rfl | (simp only [evalL, evalT, getT, constT]; rfl))
    (h : CallJ P E f args (fun v H' g' => v = X ∧ H' = H ∧ g' = g) H g) (k : OpsJ P E ops R rest (putT T dst X) H g) : OpsJ P E ops R (⟨dst, .call { callee := .value (.func f), args := xs, argTypes := at_ }, ty, ps, af, none⟩ :: rest) T H g :=
  st_call ha h (by rintro _ _ _ ⟨rfl, rfl, rfl⟩; exact k)
theorem st_callVP {T : List Value} {H : AHeap} {g : γ} {R : List Value → AHeap → γ → Prop} {ops : Array Oper} {dst : Option Tmp} {ty : TypeId} {ps : String} {af : Array Edge} {rest : List Oper} {x : Operand} {xs : Array Operand} {at_ : Array TypeId} {fv : Value} {args : List Value} {X : Value} (hx : evalT T x = fv := by first | rfl | (simp only [evalL, evalT, getT, constT]; rfl)) (ha : evalL T xs.toList = args := by first | rfl | (simp only [evalL, evalT, getT, constT]; rfl))
    (h : CallV P E fv args (fun v H' g' => v = X ∧ H' = H ∧ g' = g) H g) (k : OpsJ P E ops R rest (putT T dst X) H g) : OpsJ P E ops R (⟨dst, .call { callee := .value x, args := xs, argTypes := at_ }, ty, ps, af, none⟩ :: rest) T H g :=
  st_callV hx ha h (by rintro _ _ _ ⟨rfl, rfl, rfl⟩; exact k)
theorem mj_callP {T : List Value} {H : AHeap} {R : List Value → AHeap → Prop} {mm : Nat} {ops : Array Oper} {dst : Option Tmp} {ty : TypeId} {ps : String} {af : Array Edge} {rest : List Oper} {f : FuncId} {xs : Array Operand} {at_ : Array TypeId} {args : List Value} {X : Value} [he : EntC P f] (ha : evalL T xs.toList = args := by first | rfl | (simp only [evalL, evalT, getT, constT]; rfl))
    (h : CallJ P trivE f args (fun v H' g' => v = X ∧ H' = H ∧ g' = ()) H ()) (k : MonoJ P ops R mm rest (putT T dst X) H) : MonoJ P ops R (mm + 1) (⟨dst, .call { callee := .value (.func f), args := xs, argTypes := at_ }, ty, ps, af, none⟩ :: rest) T H :=
  mj_call X [] ha h (fun _ _ _ h => ⟨h.1, by rw [h.2.1, List.append_nil]⟩) rfl (by rw [List.append_nil]; exact k)
class IsU (A : Prop) : Prop where
  t : True
class IsW (A : Prop) : Prop where
  t : True
class IsO (A : Prop) : Prop where
  t : True
class IsM (A : Prop) : Prop where
  t : True
class IsE (A : Prop) : Prop where
  t : True
class IsX (A : Prop) : Prop where
  t : True
class IsT (A : Prop) : Prop where
  t : True
instance isE1 {T : List Value} {H : AHeap} {g : γ} {R : List Value → AHeap → γ → Prop} {ops : Array Oper} : IsE (OpsJ P E ops R [] T H g) := ⟨trivial⟩
instance isE2 {next : List Value → AHeap → γ → Prop} {Q : Exit → List Value → AHeap → γ → Prop} {e : Exit} {T : List Value} {H : AHeap} {g : γ} : IsE (thenQ next Q e T H g) := ⟨trivial⟩
instance isE3 {id : Nat} {Q : Exit → List Value → AHeap → γ → Prop} {e : Exit} {T : List Value} {H : AHeap} {g : γ} : IsE (blockQ id Q e T H g) := ⟨trivial⟩
instance isE4 {I' : AHeap → γ → Prop} {Ix : Code → AHeap → γ → Prop} {e : Exit} {T : List Value} {H : AHeap} {g : γ} : IsE (roundQ I' Ix e T H g) := ⟨trivial⟩
instance isX1 {fn : Func} {K : Value → AHeap → γ → Prop} {e : Exit} {T : List Value} {H : AHeap} {g : γ} : IsX (exitQ P fn K e T H g) := ⟨trivial⟩
instance isT1 {H H' : AHeap} {K : Value → AHeap → γ → Prop} {v : Value} {g : γ} : IsT (Tidy H K v H' g) := ⟨trivial⟩
instance isU {T : List Value} {H : AHeap} {g : γ} {R : List Value → AHeap → γ → Prop} {ops : Array Oper} {dst : Option Tmp} {ty : TypeId} {ps : String} {af : Array Edge} {rest : List Oper} {op : Op} : IsU (OpsJ P E ops R (⟨dst, op, ty, ps, af, none⟩ :: rest) T H g) := ⟨trivial⟩
instance isO {T : List Value} {H : AHeap} {g : γ} {R : List Value → AHeap → γ → Prop} {ops : Array Oper} {l : List Oper} : IsO (OpsJ P E ops R l T H g) := ⟨trivial⟩
instance isM {T : List Value} {H : AHeap} {R : List Value → AHeap → Prop} {ops : Array Oper} {mm : Nat} {l : List Oper} : IsM (MonoJ P ops R mm l T H) := ⟨trivial⟩
instance isW {T : List Value} {H : AHeap} {g : γ} {c : Code} {Q : Exit → List Value → AHeap → γ → Prop} : IsW (WPJ P E c Q T H g) := ⟨trivial⟩
theorem NSo {p : Prop} (h : p := by first | (simp only [putT, List.set_cons_zero, List.set_cons_succ, evalT, getT, constT, cellsL, splice, List.take_zero, List.take_succ_cons, List.drop_zero, List.drop_succ_cons, List.take_nil, List.drop_nil, List.nil_append, List.cons_append, List.append_nil, List.append_assoc, List.length_cons, List.length_nil, List.map_cons, List.map_nil, Nat.zero_add, Nat.add_zero, Nat.reduceAdd, Nat.reduceMul, Nat.reduceSub, List.replicate_succ, List.replicate_zero, set_new, set_new0, evalL, Int.reduceToNat, Nat.reduceLT, cond_true, cond_false, List.length_append, List.length_map, List.length_set, Int.toNat_natCast]; omega) | fail) : p := h
theorem NSr {p : Prop} (h : p := by first | (simp only [putT, List.set_cons_zero, List.set_cons_succ, evalT, getT, constT, cellsL, splice, List.take_zero, List.take_succ_cons, List.drop_zero, List.drop_succ_cons, List.take_nil, List.drop_nil, List.nil_append, List.cons_append, List.append_nil, List.append_assoc, List.length_cons, List.length_nil, List.map_cons, List.map_nil, Nat.zero_add, Nat.add_zero, Nat.reduceAdd, Nat.reduceMul, Nat.reduceSub, List.replicate_succ, List.replicate_zero, set_new, set_new0, evalL, Int.reduceToNat, Nat.reduceLT, cond_true, cond_false, List.length_append, List.length_map, List.length_set, Int.toNat_natCast]; rfl) | fail) : p := h
theorem NSa {p : Prop} (h : p := by first | (simp only [putT, List.set_cons_zero, List.set_cons_succ, evalT, getT, constT, cellsL, splice, List.take_zero, List.take_succ_cons, List.drop_zero, List.drop_succ_cons, List.take_nil, List.drop_nil, List.nil_append, List.cons_append, List.append_nil, List.append_assoc, List.length_cons, List.length_nil, List.map_cons, List.map_nil, Nat.zero_add, Nat.add_zero, Nat.reduceAdd, Nat.reduceMul, Nat.reduceSub, List.replicate_succ, List.replicate_zero, set_new, set_new0, evalL, Int.reduceToNat, Nat.reduceLT, cond_true, cond_false, List.length_append, List.length_map, List.length_set, Int.toNat_natCast]; assumption) | fail) : p := h
theorem NSd {p : Prop} (h : p := by first | (simp only [putT, List.set_cons_zero, List.set_cons_succ, evalT, getT, constT, cellsL, splice, List.take_zero, List.take_succ_cons, List.drop_zero, List.drop_succ_cons, List.take_nil, List.drop_nil, List.nil_append, List.cons_append, List.append_nil, List.append_assoc, List.length_cons, List.length_nil, List.map_cons, List.map_nil, Nat.zero_add, Nat.add_zero, Nat.reduceAdd, Nat.reduceMul, Nat.reduceSub, List.replicate_succ, List.replicate_zero, set_new, set_new0, evalL, Int.reduceToNat, Nat.reduceLT, cond_true, cond_false, List.length_append, List.length_map, List.length_set, Int.toNat_natCast]; done) | fail) : p := h
theorem getA {l : AHeap} {n : Nat} {o : AObj} (h : l[n]? = some o := by first | ((repeat' (first | exact get_new0 rfl | exact get_new rfl | assumption | refine get_set (o' := ?_) ?_ | refine get_setne (by omega) ?_ | refine get_old ?_ | fail)); done) | fail) : l[n]? = some o := h
theorem extA {H H' : AHeap} (h : Ext H H' := by first | ((repeat' (first | assumption | with_reducible exact Ext.refl _ | refine Ext.set ?_ (by omega) _ | refine Ext.app ?_ _ | fail)); done) | fail) : Ext H H' := h
theorem W1 {A B : Prop} [IsU B] (a : A) (h : Hold A → B := by
    intro k
    first
    | (refine is_ung ?_; refine OpsJ.norm (by first | (simp only [putT, List.set_cons_succ, List.set_cons_zero, evalT, getT, constT, cond_true, cond_false, Bool.not_true, Bool.not_false, List.length_map, evalL, List.toList_toArray]; rfl) | rfl) rfl ?_; (first | (refine tag_le 14 rfl ?_; (first | (refine tag_le 7 rfl ?_; (first | (refine tag_le 3 rfl ?_; (first | (refine tag_le 1 rfl ?_; (first | (refine tag_le 0 rfl ?_; (exact st_move k.out)) | (exact st_assign k.out))) | (first | (refine tag_le 2 rfl ?_; (exact st_fieldAddr rfl k.out)) | (first | exact st_load1 rfl rfl getA (by first | rfl | assumption | exact get_setc (by first | omega | (simp [*]; omega)) | exact get_setcne (by omega) (by assumption) | exact get_piece0 (by assumption) rfl | exact get_piece (by assumption) rfl | exact NSa | exact NSr | (simp [*]; done)) k.out | exact st_loadN rfl rfl getA (by first | decide | omega | exact NSo | (simp [*]; omega) | (simp [*]; done)) (by first | assumption | exact NSa | exact NSr | rfl) k.out)))) | (first | (refine tag_le 5 rfl ?_; (first | (refine tag_le 4 rfl ?_; (exact st_add rfl rfl (by first | omega | exact NSo | (simp [*]; omega)) k.out)) | (exact st_sub rfl rfl (by first | omega | exact NSo | (simp [*]; omega)) k.out))) | (first | (refine tag_le 6 rfl ?_; (exact st_mul rfl rfl (by first | omega | exact NSo | (simp [*]; omega)) k.out)) | (first | exact st_quo0 rfl rfl (by first | omega | exact NSo | (simp [*]; omega)) k.out | exact st_quo rfl rfl (by first | omega | exact NSo | (simp [*]; omega)) k.out))))) | (first | (refine tag_le 11 rfl ?_; (first | (refine tag_le 9 rfl ?_; (first | (refine tag_le 8 rfl ?_; (first | exact st_rem0 rfl rfl (by first | omega | exact NSo | (simp [*]; omega)) k.out | exact st_rem rfl rfl (by first | omega | exact NSo | (simp [*]; omega)) k.out)) | (exact st_shl rfl rfl (by first | omega | exact NSo | (simp [*]; omega)) k.out))) | (first | (refine tag_le 10 rfl ?_; (exact st_shr rfl rfl (by first | omega | exact NSo | (simp [*]; omega)) k.out)) | (first | exact st_int rfl rfl rfl k.out | exact st_eqBool rfl rfl k.out | exact st_neBool rfl rfl k.out | exact st_bits rfl rfl rfl k.out)))) | (first | (refine tag_le 13 rfl ?_; (first | (refine tag_le 12 rfl ?_; (first | exact st_len rfl k.out | exact st_lenR rfl (by assumption) k.out | exact st_max rfl rfl k.out | exact st_min rfl rfl k.out)) | (exact st_extract rfl rfl k.out))) | (first | (refine st_store1 rfl rfl rfl (by first | rfl | assumption | (simp [*]; done)) getA (by first | decide | omega | exact NSo | (simp [*]; omega) | (simp [*]; done)) ?_; refine OpsJ.normA ?_; exact k.out) | (refine st_storeA rfl rfl (by first | rfl | assumption | exact NSa | exact NSd | (simp [*]; done)) (by first | rfl | assumption | exact NSa | (simp [*]; done)) getA (by first | rfl | assumption | exact NSa | exact NSd | (simp [*]; done)) ?_; refine OpsJ.normA ?_; exact k.out) | (refine st_store rfl rfl (by first | rfl | assumption | exact NSa | (simp [*]; done)) (by first | rfl | assumption | exact NSa | exact NSd | (simp [*]; done)) getA (by first | decide | omega | exact NSo | (simp [*]; omega) | (simp [*]; done)) ?_; refine OpsJ.normA ?_; exact k.out)))))) | (first | (refine tag_le 21 rfl ?_; (first | (refine tag_le 18 rfl ?_; (first | (refine tag_le 16 rfl ?_; (first | (refine tag_le 15 rfl ?_; (first | exact st_indexR rfl rfl (by assumption) extA (by first | omega | exact NSo | (simp [*]; omega)) (by assumption) k.out | exact st_indexS rfl rfl (by first | omega | exact NSo | (simp [*]; omega)) k.out | exact st_indexA rfl rfl (by first | omega | exact NSo | (simp [*]; omega)) k.out)) | (exact st_pick rfl k.out))) | (first | (refine tag_le 17 rfl ?_; ((refine st_box rfl (by first | rfl | assumption | exact NSa | (simp [*]; done)) ?_; refine OpsJ.normA ?_; exact k.out))) | ((refine st_alloc ?_; refine OpsJ.normA ?_; exact k.out))))) | (first | (refine tag_le 20 rfl ?_; (first | (refine tag_le 19 rfl ?_; (exact st_field rfl rfl k.out)) | (exact st_idxA rfl rfl (by first | omega | exact NSo | (simp [*]; omega)) rfl k.out))) | (exact st_nilCheck rfl k.out)))) | (first | (refine tag_le 25 rfl ?_; (first | (refine tag_le 23 rfl ?_; (first | (refine tag_le 22 rfl ?_; (first | exact st_not rfl k.out | exact st_neg rfl k.out)) | (exact st_conv rfl k.out))) | (first | (refine tag_le 24 rfl ?_; (exact st_makeFunc k.out)) | (first | (refine st_make1 rfl rfl rfl (by first | omega | exact NSo | (simp [*]; omega)) ?_; refine OpsJ.normA ?_; exact k.out) | (refine st_makeN (by rfl) rfl rfl (by first | omega | exact NSo | (simp [*]; omega)) ?_; refine OpsJ.normA ?_; exact k.out))))) | (first | (refine tag_le 27 rfl ?_; (first | (refine tag_le 26 rfl ?_; (exact st_sliceTo rfl rfl (by first | omega | exact NSo | (simp [*]; omega)) k.out)) | (first | exact st_buildS (by first | rfl | exact (fillA_cons rfl (by first | rfl | assumption | exact NSa | (simp [*]; done)) rfl (by first | exact Nat.le_of_ble_eq_true rfl | (simp [splice, cellsL]; done) | (simp [splice, cellsL]; omega)) rfl) | exact (fillA_cons rfl (by first | rfl | assumption | exact NSa | (simp [*]; done)) rfl (by first | exact Nat.le_of_ble_eq_true rfl | (simp [splice, cellsL]; done) | (simp [splice, cellsL]; omega)) (fillA_cons rfl (by first | rfl | assumption | exact NSa | (simp [*]; done)) rfl (by first | exact Nat.le_of_ble_eq_true rfl | (simp [splice, cellsL]; done) | (simp [splice, cellsL]; omega)) rfl)) | exact (fillA_cons rfl (by first | rfl | assumption | exact NSa | (simp [*]; done)) rfl (by first | exact Nat.le_of_ble_eq_true rfl | (simp [splice, cellsL]; done) | (simp [splice, cellsL]; omega)) (fillA_cons rfl (by first | rfl | assumption | exact NSa | (simp [*]; done)) rfl (by first | exact Nat.le_of_ble_eq_true rfl | (simp [splice, cellsL]; done) | (simp [splice, cellsL]; omega)) (fillA_cons rfl (by first | rfl | assumption | exact NSa | (simp [*]; done)) rfl (by first | exact Nat.le_of_ble_eq_true rfl | (simp [splice, cellsL]; done) | (simp [splice, cellsL]; omega)) rfl))) | exact (fillA_cons rfl (by first | rfl | assumption | exact NSa | (simp [*]; done)) rfl (by first | exact Nat.le_of_ble_eq_true rfl | (simp [splice, cellsL]; done) | (simp [splice, cellsL]; omega)) (fillA_cons rfl (by first | rfl | assumption | exact NSa | (simp [*]; done)) rfl (by first | exact Nat.le_of_ble_eq_true rfl | (simp [splice, cellsL]; done) | (simp [splice, cellsL]; omega)) (fillA_cons rfl (by first | rfl | assumption | exact NSa | (simp [*]; done)) rfl (by first | exact Nat.le_of_ble_eq_true rfl | (simp [splice, cellsL]; done) | (simp [splice, cellsL]; omega)) (fillA_cons rfl (by first | rfl | assumption | exact NSa | (simp [*]; done)) rfl (by first | exact Nat.le_of_ble_eq_true rfl | (simp [splice, cellsL]; done) | (simp [splice, cellsL]; omega)) rfl)))) | exact (fillA_cons rfl (by first | rfl | assumption | exact NSa | (simp [*]; done)) rfl (by first | exact Nat.le_of_ble_eq_true rfl | (simp [splice, cellsL]; done) | (simp [splice, cellsL]; omega)) (fillA_cons rfl (by first | rfl | assumption | exact NSa | (simp [*]; done)) rfl (by first | exact Nat.le_of_ble_eq_true rfl | (simp [splice, cellsL]; done) | (simp [splice, cellsL]; omega)) (fillA_cons rfl (by first | rfl | assumption | exact NSa | (simp [*]; done)) rfl (by first | exact Nat.le_of_ble_eq_true rfl | (simp [splice, cellsL]; done) | (simp [splice, cellsL]; omega)) (fillA_cons rfl (by first | rfl | assumption | exact NSa | (simp [*]; done)) rfl (by first | exact Nat.le_of_ble_eq_true rfl | (simp [splice, cellsL]; done) | (simp [splice, cellsL]; omega)) (fillA_cons rfl (by first | rfl | assumption | exact NSa | (simp [*]; done)) rfl (by first | exact Nat.le_of_ble_eq_true rfl | (simp [splice, cellsL]; done) | (simp [splice, cellsL]; omega)) rfl)))))) k.out | exact st_buildA (by first | rfl | exact (fillA_cons rfl (by first | rfl | assumption | exact NSa | (simp [*]; done)) rfl (by first | exact Nat.le_of_ble_eq_true rfl | (simp [splice, cellsL]; done) | (simp [splice, cellsL]; omega)) rfl) | exact (fillA_cons rfl (by first | rfl | assumption | exact NSa | (simp [*]; done)) rfl (by first | exact Nat.le_of_ble_eq_true rfl | (simp [splice, cellsL]; done) | (simp [splice, cellsL]; omega)) (fillA_cons rfl (by first | rfl | assumption | exact NSa | (simp [*]; done)) rfl (by first | exact Nat.le_of_ble_eq_true rfl | (simp [splice, cellsL]; done) | (simp [splice, cellsL]; omega)) rfl)) | exact (fillA_cons rfl (by first | rfl | assumption | exact NSa | (simp [*]; done)) rfl (by first | exact Nat.le_of_ble_eq_true rfl | (simp [splice, cellsL]; done) | (simp [splice, cellsL]; omega)) (fillA_cons rfl (by first | rfl | assumption | exact NSa | (simp [*]; done)) rfl (by first | exact Nat.le_of_ble_eq_true rfl | (simp [splice, cellsL]; done) | (simp [splice, cellsL]; omega)) (fillA_cons rfl (by first | rfl | assumption | exact NSa | (simp [*]; done)) rfl (by first | exact Nat.le_of_ble_eq_true rfl | (simp [splice, cellsL]; done) | (simp [splice, cellsL]; omega)) rfl))) | exact (fillA_cons rfl (by first | rfl | assumption | exact NSa | (simp [*]; done)) rfl (by first | exact Nat.le_of_ble_eq_true rfl | (simp [splice, cellsL]; done) | (simp [splice, cellsL]; omega)) (fillA_cons rfl (by first | rfl | assumption | exact NSa | (simp [*]; done)) rfl (by first | exact Nat.le_of_ble_eq_true rfl | (simp [splice, cellsL]; done) | (simp [splice, cellsL]; omega)) (fillA_cons rfl (by first | rfl | assumption | exact NSa | (simp [*]; done)) rfl (by first | exact Nat.le_of_ble_eq_true rfl | (simp [splice, cellsL]; done) | (simp [splice, cellsL]; omega)) (fillA_cons rfl (by first | rfl | assumption | exact NSa | (simp [*]; done)) rfl (by first | exact Nat.le_of_ble_eq_true rfl | (simp [splice, cellsL]; done) | (simp [splice, cellsL]; omega)) rfl)))) | exact (fillA_cons rfl (by first | rfl | assumption | exact NSa | (simp [*]; done)) rfl (by first | exact Nat.le_of_ble_eq_true rfl | (simp [splice, cellsL]; done) | (simp [splice, cellsL]; omega)) (fillA_cons rfl (by first | rfl | assumption | exact NSa | (simp [*]; done)) rfl (by first | exact Nat.le_of_ble_eq_true rfl | (simp [splice, cellsL]; done) | (simp [splice, cellsL]; omega)) (fillA_cons rfl (by first | rfl | assumption | exact NSa | (simp [*]; done)) rfl (by first | exact Nat.le_of_ble_eq_true rfl | (simp [splice, cellsL]; done) | (simp [splice, cellsL]; omega)) (fillA_cons rfl (by first | rfl | assumption | exact NSa | (simp [*]; done)) rfl (by first | exact Nat.le_of_ble_eq_true rfl | (simp [splice, cellsL]; done) | (simp [splice, cellsL]; omega)) (fillA_cons rfl (by first | rfl | assumption | exact NSa | (simp [*]; done)) rfl (by first | exact Nat.le_of_ble_eq_true rfl | (simp [splice, cellsL]; done) | (simp [splice, cellsL]; omega)) rfl)))))) k.out))) | ((refine st_buildSlice (by decide) (by first | rfl | exact (fillA_cons rfl (by first | rfl | assumption | exact NSa | (simp [*]; done)) rfl (by first | exact Nat.le_of_ble_eq_true rfl | (simp [splice, cellsL]; done) | (simp [splice, cellsL]; omega)) rfl) | exact (fillA_cons rfl (by first | rfl | assumption | exact NSa | (simp [*]; done)) rfl (by first | exact Nat.le_of_ble_eq_true rfl | (simp [splice, cellsL]; done) | (simp [splice, cellsL]; omega)) (fillA_cons rfl (by first | rfl | assumption | exact NSa | (simp [*]; done)) rfl (by first | exact Nat.le_of_ble_eq_true rfl | (simp [splice, cellsL]; done) | (simp [splice, cellsL]; omega)) rfl)) | exact (fillA_cons rfl (by first | rfl | assumption | exact NSa | (simp [*]; done)) rfl (by first | exact Nat.le_of_ble_eq_true rfl | (simp [splice, cellsL]; done) | (simp [splice, cellsL]; omega)) (fillA_cons rfl (by first | rfl | assumption | exact NSa | (simp [*]; done)) rfl (by first | exact Nat.le_of_ble_eq_true rfl | (simp [splice, cellsL]; done) | (simp [splice, cellsL]; omega)) (fillA_cons rfl (by first | rfl | assumption | exact NSa | (simp [*]; done)) rfl (by first | exact Nat.le_of_ble_eq_true rfl | (simp [splice, cellsL]; done) | (simp [splice, cellsL]; omega)) rfl))) | exact (fillA_cons rfl (by first | rfl | assumption | exact NSa | (simp [*]; done)) rfl (by first | exact Nat.le_of_ble_eq_true rfl | (simp [splice, cellsL]; done) | (simp [splice, cellsL]; omega)) (fillA_cons rfl (by first | rfl | assumption | exact NSa | (simp [*]; done)) rfl (by first | exact Nat.le_of_ble_eq_true rfl | (simp [splice, cellsL]; done) | (simp [splice, cellsL]; omega)) (fillA_cons rfl (by first | rfl | assumption | exact NSa | (simp [*]; done)) rfl (by first | exact Nat.le_of_ble_eq_true rfl | (simp [splice, cellsL]; done) | (simp [splice, cellsL]; omega)) (fillA_cons rfl (by first | rfl | assumption | exact NSa | (simp [*]; done)) rfl (by first | exact Nat.le_of_ble_eq_true rfl | (simp [splice, cellsL]; done) | (simp [splice, cellsL]; omega)) rfl)))) | exact (fillA_cons rfl (by first | rfl | assumption | exact NSa | (simp [*]; done)) rfl (by first | exact Nat.le_of_ble_eq_true rfl | (simp [splice, cellsL]; done) | (simp [splice, cellsL]; omega)) (fillA_cons rfl (by first | rfl | assumption | exact NSa | (simp [*]; done)) rfl (by first | exact Nat.le_of_ble_eq_true rfl | (simp [splice, cellsL]; done) | (simp [splice, cellsL]; omega)) (fillA_cons rfl (by first | rfl | assumption | exact NSa | (simp [*]; done)) rfl (by first | exact Nat.le_of_ble_eq_true rfl | (simp [splice, cellsL]; done) | (simp [splice, cellsL]; omega)) (fillA_cons rfl (by first | rfl | assumption | exact NSa | (simp [*]; done)) rfl (by first | exact Nat.le_of_ble_eq_true rfl | (simp [splice, cellsL]; done) | (simp [splice, cellsL]; omega)) (fillA_cons rfl (by first | rfl | assumption | exact NSa | (simp [*]; done)) rfl (by first | exact Nat.le_of_ble_eq_true rfl | (simp [splice, cellsL]; done) | (simp [splice, cellsL]; omega)) rfl)))))) ?_; refine OpsJ.normA ?_; exact k.out)))))))
    | fail
    ) : B := h ⟨a⟩
theorem Wc {A B : Prop} [IsW B] (a : A) (h : Hold A → B := by
    intro k
    first
    | (refine is_code ?_; (first | (refine ctag_le 4 rfl ?_; (first | (refine ctag_le 2 rfl ?_; (first | (refine ctag_le 1 rfl ?_; (first | (refine ctag_le 0 rfl ?_; (exact WPJ.seq k.out)) | (exact WPJ.region k.out))) | (exact WPJ.ret k.out))) | (first | (refine ctag_le 3 rfl ?_; (exact WPJ.block k.out)) | (first | exact WPJ.cond (b := true) rfl (fun _ => k.out) (fun hb => (tf hb).elim) | exact WPJ.cond (b := false) rfl (fun hb => (ft hb).elim) (fun _ => k.out))))) | (first | (refine ctag_le 6 rfl ?_; (first | (refine ctag_le 5 rfl ?_; (exact WPJ.skip k.out)) | (exact WPJ.exit k.out))) | (first | (refine ctag_le 7 rfl ?_; (exact WPJ.label k.out)) | (fail)))))
    | fail
    ) : B := h ⟨a⟩
theorem Wg {A B : Prop} [IsO B] (a : A) (h : Hold A → B := by
    intro k
    first
    | (refine is_step ?_; refine OpsJ.norm (by first | (simp only [putT, List.set_cons_succ, List.set_cons_zero, evalT, getT, constT, cond_true, cond_false, Bool.not_true, Bool.not_false, List.length_map, evalL, List.toList_toArray]; rfl) | rfl) rfl ?_; first | exact OpsJ.on rfl k.out | exact OpsJ.off rfl rfl k.out | exact OpsJ.off' rfl k.out)
    | fail
    ) : B := h ⟨a⟩
theorem We {A B : Prop} [IsE B] (a : A) (h : Hold A → B := by
    intro k
    first
    | (refine OpsJ.norm (by first | (simp only [putT, List.set_cons_succ, List.set_cons_zero, evalT, getT, constT, cond_true, cond_false, Bool.not_true, Bool.not_false, List.length_map, evalL, List.toList_toArray]; rfl) | rfl) rfl ?_; exact OpsJ.nil k.out)
    | with_reducible exact thenQ_n k.out
    | with_reducible exact thenQ_ret k.out
    | with_reducible exact blockQ_n k.out
    | with_reducible exact blockQ_ret k.out
    | with_reducible exact thenQ_exit k.out
    | with_reducible exact roundQ_n k.out
    | with_reducible exact roundQ_ret k.out
    | with_reducible exact roundQ_exit k.out
    | with_reducible exact blockQ_exit k.out
    | exact blockQ_exit' rfl k.out
    | fail
    ) : B := h ⟨a⟩
theorem Wx {A B : Prop} [IsX B] (a : A) (h : Hold A → B := by
    intro k
    first
    | exact exitQ_ret (Res.tmp rfl (by first | (simp only [getT]; rfl) | rfl)) k.out
    | exact exitQ_n (Res.tmp rfl (by first | (simp only [getT]; rfl) | rfl)) k.out
    | exact exitQ_ret (Res.tmp2 rfl (by first | (simp only [getT]; rfl) | rfl) (by first | (simp only [getT]; rfl) | rfl)) k.out
    | exact exitQ_n (Res.tmp2 rfl (by first | (simp only [getT]; rfl) | rfl) (by first | (simp only [getT]; rfl) | rfl)) k.out
    | exact exitQ_ret (Res.tmp3 rfl (by first | (simp only [getT]; rfl) | rfl) (by first | (simp only [getT]; rfl) | rfl) (by first | (simp only [getT]; rfl) | rfl)) k.out
    | exact exitQ_n (Res.tmp3 rfl (by first | (simp only [getT]; rfl) | rfl) (by first | (simp only [getT]; rfl) | rfl) (by first | (simp only [getT]; rfl) | rfl)) k.out
    | exact exitQ_ret (Res.cellN rfl rfl (by first | (simp only [getT]; rfl) | rfl) getA (by first | decide | omega | exact NSo | (simp [*]; omega) | (simp [*]; done)) (by first | assumption | exact NSa | exact NSr | rfl)) k.out
    | exact exitQ_n (Res.cellN rfl rfl (by first | (simp only [getT]; rfl) | rfl) getA (by first | decide | omega | exact NSo | (simp [*]; omega) | (simp [*]; done)) (by first | assumption | exact NSa | exact NSr | rfl)) k.out
    | exact exitQ_ret (Res.cell1 rfl rfl (by first | (simp only [getT]; rfl) | rfl) getA (by first | rfl | assumption | exact get_setc (by first | omega | (simp [*]; omega)) | exact get_setcne (by omega) (by assumption) | exact get_piece0 (by assumption) rfl | exact get_piece (by assumption) rfl | exact NSa | exact NSr | (simp [*]; done))) k.out
    | exact exitQ_n (Res.cell1 rfl rfl (by first | (simp only [getT]; rfl) | rfl) getA (by first | rfl | assumption | exact get_setc (by first | omega | (simp [*]; omega)) | exact get_setcne (by omega) (by assumption) | exact get_piece0 (by assumption) rfl | exact get_piece (by assumption) rfl | exact NSa | exact NSr | (simp [*]; done))) k.out
    | exact exitQ_ret (Res.nothing rfl) k.out
    | exact exitQ_n (Res.nothing rfl) k.out
    | exact exitQ_ret (Res.two rfl (RV.cellN rfl (by first | (simp only [getT]; rfl) | rfl) getA (by first | decide | omega | exact NSo | (simp [*]; omega) | (simp [*]; done)) (by first | assumption | exact NSa | exact NSr | rfl)) (RV.tmp (by first | (simp only [getT]; rfl) | rfl))) k.out
    | exact exitQ_n (Res.two rfl (RV.cellN rfl (by first | (simp only [getT]; rfl) | rfl) getA (by first | decide | omega | exact NSo | (simp [*]; omega) | (simp [*]; done)) (by first | assumption | exact NSa | exact NSr | rfl)) (RV.tmp (by first | (simp only [getT]; rfl) | rfl))) k.out
    | exact exitQ_ret (Res.two rfl (RV.cell1 rfl (by first | (simp only [getT]; rfl) | rfl) getA (by first | rfl | assumption | exact get_setc (by first | omega | (simp [*]; omega)) | exact get_setcne (by omega) (by assumption) | exact get_piece0 (by assumption) rfl | exact get_piece (by assumption) rfl | exact NSa | exact NSr | (simp [*]; done))) (RV.tmp (by first | (simp only [getT]; rfl) | rfl))) k.out
    | exact exitQ_n (Res.two rfl (RV.cell1 rfl (by first | (simp only [getT]; rfl) | rfl) getA (by first | rfl | assumption | exact get_setc (by first | omega | (simp [*]; omega)) | exact get_setcne (by omega) (by assumption) | exact get_piece0 (by assumption) rfl | exact get_piece (by assumption) rfl | exact NSa | exact NSr | (simp [*]; done))) (RV.tmp (by first | (simp only [getT]; rfl) | rfl))) k.out
    | fail
    ) : B := h ⟨a⟩
theorem Wt {A B : Prop} [IsT B] (a : A) (h : Hold A → B := by
    intro k
    first
    | exact Tidy.none (by first | exact .flat rfl | exact .tuple0 | exact .tuple2 (.flat rfl) (.flat rfl) | exact .tuple3 (.flat rfl) (.flat rfl) (.flat rfl) | exact .agg rfl | exact .tuple2 (.agg rfl) (.flat rfl) | exact .tuple2 (.agg (by assumption)) (.flat rfl)) k.out
    | exact Tidy.none' (by first | exact .flat rfl | exact .tuple0 | exact .tuple2 (.flat rfl) (.flat rfl) | exact .tuple3 (.flat rfl) (.flat rfl) (.flat rfl) | exact .agg rfl | exact .tuple2 (.agg rfl) (.flat rfl) | exact .tuple2 (.agg (by assumption)) (.flat rfl)) k.out
    | exact Tidy.ext extA (by first | exact .flat rfl | exact .tuple0 | exact .tuple2 (.flat rfl) (.flat rfl) | exact .tuple3 (.flat rfl) (.flat rfl) (.flat rfl) | exact .agg rfl | exact .tuple2 (.agg rfl) (.flat rfl) | exact .tuple2 (.agg (by assumption)) (.flat rfl)) k.out
    | fail
    ) : B := h ⟨a⟩
theorem OpsJ.list {T : List Value} {H : AHeap} {g : γ} {R : List Value → AHeap → γ → Prop} {ops : Array Oper} {l l' : List Oper} (hl : l = l') (k : OpsJ P E ops R l' T H g) : OpsJ P E ops R l T H g := hl ▸ k
theorem Wl {A B : Prop} [IsO B] (a : A) (h : Hold A → B := by
    intro k
    first
    | (refine OpsJ.list (by simp only [List.drop_succ_cons, List.drop_zero]; rfl) ?_; exact k.out)
    | fail
    ) : B := h ⟨a⟩
theorem Wm {A B : Prop} [IsM B] (a : A) (h : Hold A → B := by
    intro k
    first
    | (refine is_mung ?_; refine MonoJ.norm (by first | (simp only [putT, List.set_cons_succ, List.set_cons_zero, evalT, getT, constT, cond_true, cond_false, Bool.not_true, Bool.not_false, List.length_map, evalL, List.toList_toArray]; rfl) | rfl) rfl ?_; (first | (refine mtag_le 14 rfl ?_; (first | (refine mtag_le 7 rfl ?_; (first | (refine mtag_le 3 rfl ?_; (first | (refine mtag_le 1 rfl ?_; (first | (refine mtag_le 0 rfl ?_; (exact mj_move k.out)) | (exact mj_assign k.out))) | (first | (refine mtag_le 2 rfl ?_; (exact mj_fieldAddr rfl k.out)) | (first | exact mj_load1 rfl rfl getA (by first | rfl | assumption | exact get_setc (by first | omega | (simp [*]; omega)) | exact get_setcne (by omega) (by assumption) | exact get_piece0 (by assumption) rfl | exact get_piece (by assumption) rfl | exact NSa | exact NSr | (simp [*]; done)) k.out | exact mj_loadN rfl rfl getA (by first | decide | omega | exact NSo | (simp [*]; omega) | (simp [*]; done)) (by first | assumption | exact NSa | exact NSr | rfl) k.out)))) | (first | (refine mtag_le 5 rfl ?_; (first | (refine mtag_le 4 rfl ?_; (exact mj_add rfl rfl (by first | omega | exact NSo | (simp [*]; omega)) k.out)) | (exact mj_sub rfl rfl (by first | omega | exact NSo | (simp [*]; omega)) k.out))) | (first | (refine mtag_le 6 rfl ?_; (exact mj_mul rfl rfl (by first | omega | exact NSo | (simp [*]; omega)) k.out)) | (first | exact mj_quo0 rfl rfl (by first | omega | exact NSo | (simp [*]; omega)) k.out | exact mj_quo rfl rfl (by first | omega | exact NSo | (simp [*]; omega)) k.out))))) | (first | (refine mtag_le 11 rfl ?_; (first | (refine mtag_le 9 rfl ?_; (first | (refine mtag_le 8 rfl ?_; (first | exact mj_rem0 rfl rfl (by first | omega | exact NSo | (simp [*]; omega)) k.out | exact mj_rem rfl rfl (by first | omega | exact NSo | (simp [*]; omega)) k.out)) | (exact mj_shl rfl rfl (by first | omega | exact NSo | (simp [*]; omega)) k.out))) | (first | (refine mtag_le 10 rfl ?_; (exact mj_shr rfl rfl (by first | omega | exact NSo | (simp [*]; omega)) k.out)) | (first | exact mj_int rfl rfl rfl k.out | exact mj_eqBool rfl rfl k.out | exact mj_neBool rfl rfl k.out | exact mj_bits rfl rfl rfl k.out)))) | (first | (refine mtag_le 13 rfl ?_; (first | (refine mtag_le 12 rfl ?_; (first | exact mj_len rfl k.out | exact mj_lenR rfl (by assumption) k.out | exact mj_max rfl rfl k.out | exact mj_min rfl rfl k.out)) | (exact mj_extract rfl rfl k.out))) | (fail))))) | (first | (refine mtag_le 21 rfl ?_; (first | (refine mtag_le 18 rfl ?_; (first | (refine mtag_le 16 rfl ?_; (first | (refine mtag_le 15 rfl ?_; (first | exact mj_indexR rfl rfl (by assumption) extA (by first | omega | exact NSo | (simp [*]; omega)) (by assumption) k.out | exact mj_indexS rfl rfl (by first | omega | exact NSo | (simp [*]; omega)) k.out | exact mj_indexA rfl rfl (by first | omega | exact NSo | (simp [*]; omega)) k.out)) | (exact mj_pick rfl k.out))) | (first | (refine mtag_le 17 rfl ?_; ((refine mj_box rfl (by first | rfl | assumption | exact NSa | (simp [*]; done)) ?_; refine MonoJ.normA ?_; exact k.out))) | ((refine mj_alloc ?_; refine MonoJ.normA ?_; exact k.out))))) | (first | (refine mtag_le 20 rfl ?_; (first | (refine mtag_le 19 rfl ?_; (exact mj_field rfl rfl k.out)) | (exact mj_idxA rfl rfl (by first | omega | exact NSo | (simp [*]; omega)) rfl k.out))) | (exact mj_nilCheck rfl k.out)))) | (first | (refine mtag_le 25 rfl ?_; (first | (refine mtag_le 23 rfl ?_; (first | (refine mtag_le 22 rfl ?_; (first | exact mj_not rfl k.out | exact mj_neg rfl k.out)) | (exact mj_conv rfl k.out))) | (first | (refine mtag_le 24 rfl ?_; (exact mj_makeFunc k.out)) | (first | (refine mj_make1 rfl rfl rfl (by first | omega | exact NSo | (simp [*]; omega)) ?_; refine MonoJ.normA ?_; exact k.out) | (refine mj_makeN (by rfl) rfl rfl (by first | omega | exact NSo | (simp [*]; omega)) ?_; refine MonoJ.normA ?_; exact k.out))))) | (first | (refine mtag_le 27 rfl ?_; (first | (refine mtag_le 26 rfl ?_; (exact mj_sliceTo rfl rfl (by first | omega | exact NSo | (simp [*]; omega)) k.out)) | (first | exact mj_buildS (by first | rfl | exact (fillA_cons rfl (by first | rfl | assumption | exact NSa | (simp [*]; done)) rfl (by first | exact Nat.le_of_ble_eq_true rfl | (simp [splice, cellsL]; done) | (simp [splice, cellsL]; omega)) rfl) | exact (fillA_cons rfl (by first | rfl | assumption | exact NSa | (simp [*]; done)) rfl (by first | exact Nat.le_of_ble_eq_true rfl | (simp [splice, cellsL]; done) | (simp [splice, cellsL]; omega)) (fillA_cons rfl (by first | rfl | assumption | exact NSa | (simp [*]; done)) rfl (by first | exact Nat.le_of_ble_eq_true rfl | (simp [splice, cellsL]; done) | (simp [splice, cellsL]; omega)) rfl)) | exact (fillA_cons rfl (by first | rfl | assumption | exact NSa | (simp [*]; done)) rfl (by first | exact Nat.le_of_ble_eq_true rfl | (simp [splice, cellsL]; done) | (simp [splice, cellsL]; omega)) (fillA_cons rfl (by first | rfl | assumption | exact NSa | (simp [*]; done)) rfl (by first | exact Nat.le_of_ble_eq_true rfl | (simp [splice, cellsL]; done) | (simp [splice, cellsL]; omega)) (fillA_cons rfl (by first | rfl | assumption | exact NSa | (simp [*]; done)) rfl (by first | exact Nat.le_of_ble_eq_true rfl | (simp [splice, cellsL]; done) | (simp [splice, cellsL]; omega)) rfl))) | exact (fillA_cons rfl (by first | rfl | assumption | exact NSa | (simp [*]; done)) rfl (by first | exact Nat.le_of_ble_eq_true rfl | (simp [splice, cellsL]; done) | (simp [splice, cellsL]; omega)) (fillA_cons rfl (by first | rfl | assumption | exact NSa | (simp [*]; done)) rfl (by first | exact Nat.le_of_ble_eq_true rfl | (simp [splice, cellsL]; done) | (simp [splice, cellsL]; omega)) (fillA_cons rfl (by first | rfl | assumption | exact NSa | (simp [*]; done)) rfl (by first | exact Nat.le_of_ble_eq_true rfl | (simp [splice, cellsL]; done) | (simp [splice, cellsL]; omega)) (fillA_cons rfl (by first | rfl | assumption | exact NSa | (simp [*]; done)) rfl (by first | exact Nat.le_of_ble_eq_true rfl | (simp [splice, cellsL]; done) | (simp [splice, cellsL]; omega)) rfl)))) | exact (fillA_cons rfl (by first | rfl | assumption | exact NSa | (simp [*]; done)) rfl (by first | exact Nat.le_of_ble_eq_true rfl | (simp [splice, cellsL]; done) | (simp [splice, cellsL]; omega)) (fillA_cons rfl (by first | rfl | assumption | exact NSa | (simp [*]; done)) rfl (by first | exact Nat.le_of_ble_eq_true rfl | (simp [splice, cellsL]; done) | (simp [splice, cellsL]; omega)) (fillA_cons rfl (by first | rfl | assumption | exact NSa | (simp [*]; done)) rfl (by first | exact Nat.le_of_ble_eq_true rfl | (simp [splice, cellsL]; done) | (simp [splice, cellsL]; omega)) (fillA_cons rfl (by first | rfl | assumption | exact NSa | (simp [*]; done)) rfl (by first | exact Nat.le_of_ble_eq_true rfl | (simp [splice, cellsL]; done) | (simp [splice, cellsL]; omega)) (fillA_cons rfl (by first | rfl | assumption | exact NSa | (simp [*]; done)) rfl (by first | exact Nat.le_of_ble_eq_true rfl | (simp [splice, cellsL]; done) | (simp [splice, cellsL]; omega)) rfl)))))) k.out | exact mj_buildA (by first | rfl | exact (fillA_cons rfl (by first | rfl | assumption | exact NSa | (simp [*]; done)) rfl (by first | exact Nat.le_of_ble_eq_true rfl | (simp [splice, cellsL]; done) | (simp [splice, cellsL]; omega)) rfl) | exact (fillA_cons rfl (by first | rfl | assumption | exact NSa | (simp [*]; done)) rfl (by first | exact Nat.le_of_ble_eq_true rfl | (simp [splice, cellsL]; done) | (simp [splice, cellsL]; omega)) (fillA_cons rfl (by first | rfl | assumption | exact NSa | (simp [*]; done)) rfl (by first | exact Nat.le_of_ble_eq_true rfl | (simp [splice, cellsL]; done) | (simp [splice, cellsL]; omega)) rfl)) | exact (fillA_cons rfl (by first | rfl | assumption | exact NSa | (simp [*]; done)) rfl (by first | exact Nat.le_of_ble_eq_true rfl | (simp [splice, cellsL]; done) | (simp [splice, cellsL]; omega)) (fillA_cons rfl (by first | rfl | assumption | exact NSa | (simp [*]; done)) rfl (by first | exact Nat.le_of_ble_eq_true rfl | (simp [splice, cellsL]; done) | (simp [splice, cellsL]; omega)) (fillA_cons rfl (by first | rfl | assumption | exact NSa | (simp [*]; done)) rfl (by first | exact Nat.le_of_ble_eq_true rfl | (simp [splice, cellsL]; done) | (simp [splice, cellsL]; omega)) rfl))) | exact (fillA_cons rfl (by first | rfl | assumption | exact NSa | (simp [*]; done)) rfl (by first | exact Nat.le_of_ble_eq_true rfl | (simp [splice, cellsL]; done) | (simp [splice, cellsL]; omega)) (fillA_cons rfl (by first | rfl | assumption | exact NSa | (simp [*]; done)) rfl (by first | exact Nat.le_of_ble_eq_true rfl | (simp [splice, cellsL]; done) | (simp [splice, cellsL]; omega)) (fillA_cons rfl (by first | rfl | assumption | exact NSa | (simp [*]; done)) rfl (by first | exact Nat.le_of_ble_eq_true rfl | (simp [splice, cellsL]; done) | (simp [splice, cellsL]; omega)) (fillA_cons rfl (by first | rfl | assumption | exact NSa | (simp [*]; done)) rfl (by first | exact Nat.le_of_ble_eq_true rfl | (simp [splice, cellsL]; done) | (simp [splice, cellsL]; omega)) rfl)))) | exact (fillA_cons rfl (by first | rfl | assumption | exact NSa | (simp [*]; done)) rfl (by first | exact Nat.le_of_ble_eq_true rfl | (simp [splice, cellsL]; done) | (simp [splice, cellsL]; omega)) (fillA_cons rfl (by first | rfl | assumption | exact NSa | (simp [*]; done)) rfl (by first | exact Nat.le_of_ble_eq_true rfl | (simp [splice, cellsL]; done) | (simp [splice, cellsL]; omega)) (fillA_cons rfl (by first | rfl | assumption | exact NSa | (simp [*]; done)) rfl (by first | exact Nat.le_of_ble_eq_true rfl | (simp [splice, cellsL]; done) | (simp [splice, cellsL]; omega)) (fillA_cons rfl (by first | rfl | assumption | exact NSa | (simp [*]; done)) rfl (by first | exact Nat.le_of_ble_eq_true rfl | (simp [splice, cellsL]; done) | (simp [splice, cellsL]; omega)) (fillA_cons rfl (by first | rfl | assumption | exact NSa | (simp [*]; done)) rfl (by first | exact Nat.le_of_ble_eq_true rfl | (simp [splice, cellsL]; done) | (simp [splice, cellsL]; omega)) rfl)))))) k.out))) | ((refine mj_buildSlice (by decide) (by first | rfl | exact (fillA_cons rfl (by first | rfl | assumption | exact NSa | (simp [*]; done)) rfl (by first | exact Nat.le_of_ble_eq_true rfl | (simp [splice, cellsL]; done) | (simp [splice, cellsL]; omega)) rfl) | exact (fillA_cons rfl (by first | rfl | assumption | exact NSa | (simp [*]; done)) rfl (by first | exact Nat.le_of_ble_eq_true rfl | (simp [splice, cellsL]; done) | (simp [splice, cellsL]; omega)) (fillA_cons rfl (by first | rfl | assumption | exact NSa | (simp [*]; done)) rfl (by first | exact Nat.le_of_ble_eq_true rfl | (simp [splice, cellsL]; done) | (simp [splice, cellsL]; omega)) rfl)) | exact (fillA_cons rfl (by first | rfl | assumption | exact NSa | (simp [*]; done)) rfl (by first | exact Nat.le_of_ble_eq_true rfl | (simp [splice, cellsL]; done) | (simp [splice, cellsL]; omega)) (fillA_cons rfl (by first | rfl | assumption | exact NSa | (simp [*]; done)) rfl (by first | exact Nat.le_of_ble_eq_true rfl | (simp [splice, cellsL]; done) | (simp [splice, cellsL]; omega)) (fillA_cons rfl (by first | rfl | assumption | exact NSa | (simp [*]; done)) rfl (by first | exact Nat.le_of_ble_eq_true rfl | (simp [splice, cellsL]; done) | (simp [splice, cellsL]; omega)) rfl))) | exact (fillA_cons rfl (by first | rfl | assumption | exact NSa | (simp [*]; done)) rfl (by first | exact Nat.le_of_ble_eq_true rfl | (simp [splice, cellsL]; done) | (simp [splice, cellsL]; omega)) (fillA_cons rfl (by first | rfl | assumption | exact NSa | (simp [*]; done)) rfl (by first | exact Nat.le_of_ble_eq_true rfl | (simp [splice, cellsL]; done) | (simp [splice, cellsL]; omega)) (fillA_cons rfl (by first | rfl | assumption | exact NSa | (simp [*]; done)) rfl (by first | exact Nat.le_of_ble_eq_true rfl | (simp [splice, cellsL]; done) | (simp [splice, cellsL]; omega)) (fillA_cons rfl (by first | rfl | assumption | exact NSa | (simp [*]; done)) rfl (by first | exact Nat.le_of_ble_eq_true rfl | (simp [splice, cellsL]; done) | (simp [splice, cellsL]; omega)) rfl)))) | exact (fillA_cons rfl (by first | rfl | assumption | exact NSa | (simp [*]; done)) rfl (by first | exact Nat.le_of_ble_eq_true rfl | (simp [splice, cellsL]; done) | (simp [splice, cellsL]; omega)) (fillA_cons rfl (by first | rfl | assumption | exact NSa | (simp [*]; done)) rfl (by first | exact Nat.le_of_ble_eq_true rfl | (simp [splice, cellsL]; done) | (simp [splice, cellsL]; omega)) (fillA_cons rfl (by first | rfl | assumption | exact NSa | (simp [*]; done)) rfl (by first | exact Nat.le_of_ble_eq_true rfl | (simp [splice, cellsL]; done) | (simp [splice, cellsL]; omega)) (fillA_cons rfl (by first | rfl | assumption | exact NSa | (simp [*]; done)) rfl (by first | exact Nat.le_of_ble_eq_true rfl | (simp [splice, cellsL]; done) | (simp [splice, cellsL]; omega)) (fillA_cons rfl (by first | rfl | assumption | exact NSa | (simp [*]; done)) rfl (by first | exact Nat.le_of_ble_eq_true rfl | (simp [splice, cellsL]; done) | (simp [splice, cellsL]; omega)) rfl)))))) ?_; refine MonoJ.normA ?_; exact k.out)))))))
    | (refine is_mono ?_; refine MonoJ.norm (by first | (simp only [putT, List.set_cons_succ, List.set_cons_zero, evalT, getT, constT, cond_true, cond_false, Bool.not_true, Bool.not_false, List.length_map, evalL, List.toList_toArray]; rfl) | rfl) rfl ?_; first | exact mj_on rfl k.out | exact mj_off rfl rfl k.out | exact mj_off' rfl k.out)
    | (refine MonoJ.norm (by first | (simp only [putT, List.set_cons_succ, List.set_cons_zero, evalT, getT, constT, cond_true, cond_false, Bool.not_true, Bool.not_false, List.length_map, evalL, List.toList_toArray]; rfl) | rfl) rfl ?_; exact mj_nil k.out)
    | fail
    ) : B := h ⟨a⟩
theorem W2c {p1 p2 B1 B2 B : Prop} [IsW B] (a1 : p1 → B1) (a2 : p2 → B2) (h : Hold2 p1 B1 → Hold2 p2 B2 → B := by
    intro k1 k2
    first | exact WPJ.cond rfl (fun hb => k1.out hb) (fun hb => k2.out hb) | fail
    ) : B := h ⟨a1⟩ ⟨a2⟩
theorem W2 {p1 p2 B1 B2 B : Prop} [IsO B] (a1 : p1 → B1) (a2 : p2 → B2) (h : Hold2 p1 B1 → Hold2 p2 B2 → B := by
    intro k1 k2
    first
    | (refine is_step ?_; refine OpsJ.norm (by first | (simp only [putT, List.set_cons_succ, List.set_cons_zero, evalT, getT, constT, cond_true, cond_false, Bool.not_true, Bool.not_false, List.length_map, evalL, List.toList_toArray]; rfl) | rfl) rfl ?_; refine OpsJ.splitT rfl (fun hb => ?_) (fun hb => ?_); (simp only [hb]; exact k1.out hb); (simp only [hb]; exact k2.out hb))
    | (refine is_step ?_; refine OpsJ.norm (by first | (simp only [putT, List.set_cons_succ, List.set_cons_zero, evalT, getT, constT, cond_true, cond_false, Bool.not_true, Bool.not_false, List.length_map, evalL, List.toList_toArray]; rfl) | rfl) rfl ?_; refine OpsJ.splitF rfl (fun hb => ?_) (fun hb => ?_); (simp only [hb]; exact k1.out hb); (simp only [hb]; exact k2.out hb))
    | fail
    ) : B := h ⟨a1⟩ ⟨a2⟩
theorem W2m {p1 p2 B1 B2 B : Prop} [IsM B] (a1 : p1 → B1) (a2 : p2 → B2) (h : Hold2 p1 B1 → Hold2 p2 B2 → B := by
    intro k1 k2
    first
    | (refine is_mono ?_; refine MonoJ.norm (by first | (simp only [putT, List.set_cons_succ, List.set_cons_zero, evalT, getT, constT, cond_true, cond_false, Bool.not_true, Bool.not_false, List.length_map, evalL, List.toList_toArray]; rfl) | rfl) rfl ?_; refine mj_splitT rfl (fun hb => ?_) (fun hb => ?_); (simp only [hb]; exact k1.out hb); (simp only [hb]; exact k2.out hb))
    | (refine is_mono ?_; refine MonoJ.norm (by first | (simp only [putT, List.set_cons_succ, List.set_cons_zero, evalT, getT, constT, cond_true, cond_false, Bool.not_true, Bool.not_false, List.length_map, evalL, List.toList_toArray]; rfl) | rfl) rfl ?_; refine mj_splitF rfl (fun hb => ?_) (fun hb => ?_); (simp only [hb]; exact k1.out hb); (simp only [hb]; exact k2.out hb))
    | fail
    ) : B := h ⟨a1⟩ ⟨a2⟩
theorem Wdead {p X : Prop} (h : p → False := by
    intro hb
    first
    | exact tf hb
    | exact ft hb
    | exact tf2 hb (by assumption)
    | exact ft2 hb (by assumption)
    | (simp only [bne_iff_ne, bne_eq_false_iff_eq, decide_eq_true_eq, decide_eq_false_iff_not, Bool.not_eq_true', Bool.not_eq_false', Int.not_lt, Int.not_le, ge_iff_le, gt_iff_lt, beq_iff_eq, beq_eq_false_iff_ne, ne_eq, Bool.true_eq_false, Bool.false_eq_true, reduceCtorEq, List.length_map, Bool.and_eq_true, Bool.or_eq_true, Bool.and_eq_false_iff, Bool.or_eq_false_iff] at hb; first | done | omega)
    | fail) : p → X := fun hp => (h hp).elim
theorem Wlive {p q X : Prop} (k : q → X) (h : p → q := by
    intro hb
    first
    | (simp only [bne_iff_ne, bne_eq_false_iff_eq, decide_eq_true_eq, decide_eq_false_iff_not, Bool.not_eq_true', Bool.not_eq_false', Int.not_lt, Int.not_le, ge_iff_le, gt_iff_lt, beq_iff_eq, beq_eq_false_iff_ne, ne_eq, Bool.true_eq_false, Bool.false_eq_true, reduceCtorEq, List.length_map, Bool.and_eq_true, Bool.or_eq_true, Bool.and_eq_false_iff, Bool.or_eq_false_iff] at hb; exact hb)
    | exact hb
    | fail) : p → X := fun hp => k (h hp)
end
end Go.Abs
namespace Go.Abs
open Go
theorem all_range_ints (xs ys : List Int) (h : xs.length = ys.length) : ((List.range xs.length).all fun i => xs.getD i 0 == ys.getD i 0) = decide (xs = ys) := by
  rw [Bool.eq_iff_iff]
  simp only [List.all_eq_true, List.mem_range, beq_iff_eq, decide_eq_true_eq]
  constructor
  · intro ha
    refine List.ext_getElem h fun i h1 h2 => ?_
    have := ha i h1
    simpa [List.getD_eq_getElem?_getD, List.getElem?_eq_getElem h1, List.getElem?_eq_getElem h2] using this
  · rintro rfl i _; rfl
abbrev cellI (n : Int) : Value := .int .i64 n
theorem run_equal_ints {P : Program} {t e : TypeId} {n n1 : Nat} {z z' : Value} {b b' : Nat} (ht : Ty P t (.array n e) n1 z b) (he : Ty P e (.int .i64) 1 z' b') (xs ys : List Int) (hx : xs.length = n) (hy : ys.length = n) (w : World) :
    (Op.equalIn 10000 t (.agg (xs.map cellI).toArray) (.agg (ys.map cellI).toArray)).run P w = .ok (decide (xs = ys)) w := by
  show (Op.equalIn (9999 + 1) t _ _).run P w = _
  rw [← all_range_ints xs ys (by omega), hx, List.range_eq_range', Op.equalIn]
  simp only [Sem.run_bind, ht.und w, Result.andThen_ok, he.sizeOf w, Std.Legacy.Range.forIn_eq_forIn_range', Std.Legacy.Range.size, Nat.sub_zero, Nat.add_sub_cancel, Nat.div_one]
  have hl : ∀ i ∈ List.range' 0 n 1, i < n := fun i hi => by simpa using (List.mem_range'_1.1 hi).2
  generalize List.range' 0 n 1 = l at hl ⊢
  induction l with
  | nil => simp
  | cons i l ih =>
    have hi : i < n := hl i (by simp)
    have px : (part e (xs.map cellI).toArray (i * 1)).run P w = .ok (cellI (xs.getD i 0)) w := by
      obtain ⟨v, h1, h2⟩ := run_part_rel (ρ := fun _ => none) (w := w) (cs := (xs.map cellI).toArray) (cs' := (xs.map cellI).toArray) (off := i * 1) (v := cellI (xs.getD i 0)) he ⟨rfl, fun j h1 h2 => by simp; exact .int _ _⟩ (by simp [aggD, List.getD_eq_getElem?_getD, List.getElem?_eq_getElem (show i < xs.length by omega)])
      rw [h1, rel_int h2]
    have py : (part e (ys.map cellI).toArray (i * 1)).run P w = .ok (cellI (ys.getD i 0)) w := by
      obtain ⟨v, h1, h2⟩ := run_part_rel (ρ := fun _ => none) (w := w) (cs := (ys.map cellI).toArray) (cs' := (ys.map cellI).toArray) (off := i * 1) (v := cellI (ys.getD i 0)) he ⟨rfl, fun j h1 h2 => by simp; exact .int _ _⟩ (by simp [aggD, List.getD_eq_getElem?_getD, List.getElem?_eq_getElem (show i < ys.length by omega)])
      rw [h1, rel_int h2]
    have pe : (Op.equalIn 9999 e (cellI (xs.getD i 0)) (cellI (ys.getD i 0))).run P w = .ok (xs.getD i 0 == ys.getD i 0) w := by
      show (Op.equalIn (9998 + 1) e _ _).run P w = _
      rw [Op.equalIn, Sem.run_bind, he.und w]
      rfl
    simp only [List.forIn_cons, Sem.run_bind, px, py, pe, Result.andThen_ok, List.all_cons]
    cases hb : (xs.getD i 0 == ys.getD i 0)
    · simp
    · simp only [Bool.not_true, Bool.false_eq_true, if_false, Sem.run_pure, Result.andThen_ok, Bool.true_and]
      exact ih fun j hj => hl j (by simp [hj])
theorem rel_ints {ρ : Ren} {xs : List Int} {v : Value} (h : VRel ρ (.agg ⟨xs.map cellI⟩) v) : v = .agg (xs.map cellI).toArray := by
  cases h with
  | @agg a a' hs h =>
    congr 1
    refine Array.ext (by simpa using hs.symm) fun j h1 h2 => ?_
    have h3 := h j (by simpa using h2) h1
    simp only [List.size_toArray, List.length_map] at h2
    rw [show (({ toList := xs.map cellI } : Array Value)[j]'(by simpa using h2)) = cellI xs[j] by simp] at h3
    simpa using rel_int h3
theorem st_eqNilS {γ : Type} {P : Program} {E : Env γ} {T : List Value} {H : AHeap} {g : γ} {R : List Value → AHeap → γ → Prop} {ops : Array Oper} {dst : Option Tmp} {ty : TypeId} {ps : String} {af : Array Edge} {rest : List Oper} {xt yt e : TypeId} {x y : Operand} {n : Nat} {z : Value} {b : Nat} [ht : TyC P xt (.slice e) n z b]
    (hx : evalT T x = .slice none 0 0) (hy : evalT T y = .slice none 0 0) (k : OpsJ P E ops R rest (putT T dst (.bool true)) H g) : OpsJ P E ops R (⟨dst, .binOp .eql xt x y yt, ty, ps, af, none⟩ :: rest) T H g :=
  OpsJ.step (runs_bin hx hy fun ρ w x' y' h1 h2 _ => by
    rw [rel_nilSlice h1, rel_nilSlice h2]
    refine ⟨.bool true, ?_, .bool _⟩
    have he : (Op.equal xt (.slice none 0 0) (.slice none 0 0)).run P w = .ok true w := by
      show (Op.equalIn (9999 + 1) xt _ _).run P w = _
      rw [Op.equalIn, Sem.run_bind, ht.ty.und w]; rfl
    simp [eqGuard, binOp, he]) rfl k
theorem st_eqSomeS {γ : Type} {P : Program} {E : Env γ} {T : List Value} {H : AHeap} {g : γ} {R : List Value → AHeap → γ → Prop} {ops : Array Oper} {dst : Option Tmp} {ty : TypeId} {ps : String} {af : Array Edge} {rest : List Oper} {xt yt e : TypeId} {x y : Operand} {n : Nat} {z : Value} {b i o l c : Nat} [ht : TyC P xt (.slice e) n z b]
    (hx : evalT T x = .slice (some ⟨i, o, none⟩) l c) (hy : evalT T y = .slice none 0 0) (k : OpsJ P E ops R rest (putT T dst (.bool false)) H g) : OpsJ P E ops R (⟨dst, .binOp .eql xt x y yt, ty, ps, af, none⟩ :: rest) T H g :=
  OpsJ.step (runs_bin hx hy fun ρ w x' y' h1 h2 _ => by
    rw [rel_nilSlice h2]
    cases h1 with
    | @slice _ _ _ _ cap' m a1 a2 a3 =>
      refine ⟨.bool false, ?_, .bool _⟩
      have he : (Op.equal xt (.slice (some ⟨m.blk, o, none⟩) l cap') (.slice none 0 0)).run P w = .ok false w := by
        show (Op.equalIn (9999 + 1) xt _ _).run P w = _
        rw [Op.equalIn, Sem.run_bind, ht.ty.und w]; rfl
      simp [eqGuard, binOp, he]) rfl k
end Go.Abs
namespace Go.Abs
open Go
def Froz (n : Nat) (v : Value) : Prop := ∀ (ρa ρb : Ren) (v' : Value), (∀ i, i < n → ρb i = ρa i) → (∀ m, ρa n = some m → ρb n = some { m with own := false }) → VRel ρa v v' → VRel ρb v v'
theorem Froz.low {n : Nat} {v : Value} (h : Low n v) : Froz n v := fun ρa ρb v' h1 _ hv => h ρa ρb v' h1 hv
theorem Froz.slice {n o l c : Nat} : Froz n (.slice (some ⟨n, o, none⟩) l c) := fun ρa ρb v' _ h2 hv => by
  cases hv with
  | @slice _ _ _ _ cap' m h1 h3 h4 => exact VRel.slice (m := { m with own := false }) (h2 _ h1) h3 (fun e => Bool.noConfusion e)
theorem Froz.agg {n : Nat} {a : List Value} (h : ∀ v ∈ a, Froz n v) : Froz n (.agg ⟨a⟩) := fun ρa ρb v' h1 h2 hv => by
  cases hv with
  | agg hs hh => exact .agg hs fun j p q => h _ (List.getElem_mem (by simpa using p)) ρa ρb _ h1 h2 (hh j p q)
theorem CallJ.freeze {γ : Type} {P : Program} {E : Env γ} {f : FuncId} {args : List Value} {K K' : Value → AHeap → γ → Prop} {H : AHeap} {g : γ} (h : CallJ P E f args K H g)
    (hK : ∀ v H' g', K v H' g' → K' v H' g' ∨ ∃ c es, H' = H ++ [.row c es true] ∧ c.all flat1 = true ∧ Froz H.length v ∧ K' v (H ++ [.row c es false]) g') : CallJ P E f args K' H g := by
  intro ρ w S args' hi ha
  refine (h ρ w S args' hi ha).mono ?_
  rintro e w' ⟨ρ', v, v', H', g', S', rfl, hv, hi2, tr, hk⟩
  rcases hK _ _ _ hk with hk' | ⟨c, es, rfl, hc, hf, hk'⟩
  · exact ⟨ρ', v, v', H', g', S', rfl, hv, hi2, tr, hk'⟩
  have hlen : ∀ o : AObj, List.length (H ++ [o]) = H.length + 1 := fun o => by simp
  let ρ2 : Ren := fun i => if i < H.length then ρ' i else (ρ' i).map fun m => { m with own := false }
  have low : ∀ i, i < H.length → ρ2 i = ρ' i := fun i h => if_pos h
  have high : ∀ i, H.length ≤ i → ρ2 i = (ρ' i).map fun m => { m with own := false } := fun i h => if_neg (by omega)
  have lowe : ∀ i, i < H.length → ρ2 i = ρ i := fun i h => (low i h).trans (tr.ext i h)
  have le1 : ρ.le ρ' := fun i m hm => (tr.ext i (hi.srel.dom i m hm).1).trans hm
  have le2 : ρ.le ρ2 := fun i m hm => (lowe i (hi.srel.dom i m hm).1).trans hm
  have inv : ∀ i m, ρ2 i = some m → (i < H.length ∧ ρ' i = some m ∧ ρ i = some m) ∨ (i = H.length ∧ m.own = false ∧ ∃ m0, ρ' i = some m0 ∧ m = { m0 with own := false }) := by
    intro i m hm
    by_cases hn : i < H.length
    · exact .inl ⟨hn, by rw [← low i hn]; exact hm, by rw [← lowe i hn]; exact hm⟩
    · rw [high i (by omega)] at hm
      obtain ⟨m0, h0, rfl⟩ := Option.map_eq_some_iff.1 hm
      have := (hi2.srel.dom i m0 h0).1
      rw [hlen] at this
      exact .inr ⟨by omega, rfl, m0, h0, rfl⟩
  have at0 : ∀ o : AObj, (H ++ [o])[H.length]? = some o := fun o => by simp
  have own2 : ∀ b, LiveOwn ρ2 (H ++ [.row c es false]) b → LiveOwn ρ' (H ++ [.row c es true]) b := by
    rintro b ⟨i, m, o, e1, e2, e3, e4, rfl⟩
    rcases inv i m e1 with ⟨hn, q1, _⟩ | ⟨_, q1, _⟩
    · rw [List.getElem?_append_left hn] at e2
      exact ⟨i, m, o, q1, by rw [List.getElem?_append_left hn]; exact e2, e3, e4, rfl⟩
    · rw [q1] at e4; cases e4
  have hs3 : SRel ρ2 (H ++ [.row c es false]) w' := by
    refine ⟨fun i m hm => ?_, fun i m o hm ho => ?_, fun i j m m' o o' hm hm' ho ho' hd hd' hown hb => ?_⟩
    · rcases inv i m hm with ⟨hn, q1, _⟩ | ⟨rfl, _, m0, q1, rfl⟩
      · exact ⟨by rw [hlen]; omega, (hi2.srel.dom i m q1).2⟩
      · exact ⟨by rw [hlen]; omega, (hi2.srel.dom _ m0 q1).2⟩
    · rcases inv i m hm with ⟨hn, q1, q2⟩ | ⟨rfl, _, m0, q1, rfl⟩
      · rw [List.getElem?_append_left hn] at ho
        exact (ORel.restrict le1 (hi.srel.obj i m o q2 ho) (hi2.srel.obj i m o q1 (by rw [List.getElem?_append_left hn]; exact ho))).mono le2
      · rw [at0] at ho
        cases ho
        obtain ⟨b1, b2, c', e, fr, b3, b4, b5, b6, b7⟩ := hi2.srel.obj _ m0 _ q1 (at0 _)
        exact ⟨b1, rfl, c', e, fr, b3, b4, (fun e => Bool.noConfusion e), b6, fun j k1 k2 => flat1_rel (List.all_eq_true.1 hc _ (List.getElem_mem k1)) (b7 j k1 k2)⟩
    · rcases inv i m hm with ⟨hn, q1, _⟩ | ⟨_, q1, _⟩
      · rw [List.getElem?_append_left hn] at ho
        rcases inv j m' hm' with ⟨hn', q1', _⟩ | ⟨rfl, _, m0, q1', rfl⟩
        · rw [List.getElem?_append_left hn'] at ho'
          exact hi2.srel.inj i j m m' o o' q1 q1' (by rw [List.getElem?_append_left hn]; exact ho) (by rw [List.getElem?_append_left hn']; exact ho') hd hd' hown hb
        · exact hi2.srel.inj i _ m m0 o (.row c es true) q1 q1' (by rw [List.getElem?_append_left hn]; exact ho) (at0 _) hd rfl hown hb
      · rw [q1] at hown; cases hown
  have hv2 : VRel ρ2 v v' := hf ρ' ρ2 v' low (fun m hm => by rw [high _ (Nat.le_refl _), hm]; rfl) hv
  exact ⟨ρ2, v, v', H ++ [.row c es false], g', S', rfl, hv2, ⟨hs3, hi2.j, hi2.bnd, fun b hb hl => hi2.disj b hb (own2 b hl)⟩, ⟨by rw [hlen]; omega, lowe, tr.os, tr.tape, tr.out, tr.size, tr.keep, fun b hb => tr.fresh b (own2 b hb), tr.grow⟩, hk'⟩
end Go.Abs
namespace Go.Abs
open Go
theorem LiveOwn.unkill {ρ : Ren} {H : AHeap} {i b : Nat} (h : LiveOwn ρ (H.set i .dead) b) : LiveOwn ρ H b := by
  obtain ⟨j, m, o, e1, e2, e3, e4, e5⟩ := h
  by_cases hij : i = j
  · subst hij
    rw [List.getElem?_set] at e2
    simp only [if_true] at e2
    split at e2
    · cases e2; cases e3
    · cases e2
  · rw [List.getElem?_set_ne hij] at e2
    exact ⟨j, m, o, e1, e2, e3, e4, e5⟩
theorem SRel.kill {ρ : Ren} {H : AHeap} {w : World} (h : SRel ρ H w) (i : Nat) : SRel ρ (H.set i .dead) w := by
  have key : ∀ (j : Nat) (o : AObj), (H.set i .dead)[j]? = some o → o = .dead ∨ H[j]? = some o := fun j o ho => by
    by_cases hij : i = j
    · subst hij
      rw [List.getElem?_set] at ho
      simp only [if_true] at ho
      split at ho
      · cases ho; exact .inl rfl
      · cases ho
    · rw [List.getElem?_set_ne hij] at ho; exact .inr ho
  refine ⟨fun j m hj => by rw [List.length_set]; exact h.dom j m hj, fun j m o hj ho => ?_, fun j k m m' o o' hj hk ho ho' hd hd' hown hb => ?_⟩
  · rcases key j o ho with rfl | h1
    · trivial
    · exact h.obj j m o hj h1
  · rcases key j o ho with rfl | h1
    · cases hd
    · rcases key k o' ho' with rfl | h2
      · cases hd'
      · exact h.inj j k m m' o o' hj hk h1 h2 hd hd' hown hb
theorem WPJ.kill {γ : Type} {P : Program} {E : Env γ} {c : Code} {Q : Exit → List Value → AHeap → γ → Prop} {T : List Value} {H : AHeap} {g : γ} (i : Nat) (h : WPJ P E c Q T (H.set i .dead) g) : WPJ P E c Q T H g := by
  intro ρ w S ro Ds ac hi ht hr hm
  refine wpIn_mono (h ρ w S ro Ds ac ⟨hi.srel.kill i, hi.j, hi.bnd, fun b hb hl => hi.disj b hb hl.unkill⟩ ht hr hm) fun e ac' w' hp => ?_
  obtain ⟨ρ', T', H', g', S', Ds', h1, h2, tr, h4, h5⟩ := hp
  have hl : (H.set i .dead).length = H.length := List.length_set
  exact ⟨ρ', T', H', g', S', Ds', h1, h2, ⟨by have := tr.next; omega, fun j hj => tr.ext j (by omega), tr.os, tr.tape, tr.out, tr.size, fun b hb hs hn => tr.keep b hb hs (fun hl => hn hl.unkill), fun b hb => (tr.fresh b hb).imp id LiveOwn.unkill, fun b hb => (tr.grow b hb).imp id (fun h => h.imp id LiveOwn.unkill)⟩, h4, h5⟩
end Go.Abs
namespace Go.Abs
open Go
section
variable {F : Fence} {n : Nat} {P : Program} {b : Frame} {k : List Item} {cs : List Frame} {Q : Exit → Act → World → Prop} {a : Act} {w : World}
theorem stepR_scope {c : Code} : step P (lone (b.atR a (.code (.scope c) :: k)) cs w) = .next (lone (b.atR a (.code c :: .inScope c :: k)) cs w) :=
  step_lone_go (by simp [stepG, stepG.exec, Frame.atR])
theorem stepR_inScope {c : Code} : step P (lone (b.atR a (.inScope c :: k)) cs w) = .next (lone (b.atR a k) cs w) :=
  step_lone_go (by simp [stepG, stepG.exec, Frame.atR])
theorem wpIn_scope {c : Code} (h : c.wpIn F n P (Exit.noGoto Q) a w) : (Code.scope c).wpIn F n P Q a w := by
  intro b k cs hro hb hr
  have h0 : (lone (b.atR a (.code (.scope c) :: k)) cs w).fenced P F := fenced_calm hb hr rfl
  obtain ⟨e, a₁, w₁, hq, harr⟩ := h b (.inScope c :: k) cs hro hb hr
  cases e with
  | normal => exact ⟨.normal, a₁, w₁, hq, .head h0 stepR_scope (StepsIn.trans harr (.one (fenced_calm hb hr rfl) stepR_inScope))⟩
  | exit id =>
    have hx : exitTo id (.inScope c :: k) = exitTo id k := by simp [exitTo]
    exact ⟨.exit id, a₁, w₁, hq, fun k' hk => .head h0 stepR_scope (harr.1 k' (by rw [hx]; exact hk)),
      fun hr' hk => let ⟨k₁, h1, h2⟩ := harr.2 hr' (by rw [hx]; exact hk); ⟨k₁, h1, .head h0 stepR_scope h2⟩⟩
  | goto l => exact hq.elim
  | ret => exact ⟨_, a₁, w₁, hq, .of_steps (.one h0 stepR_scope) harr⟩
  | panic ch => exact ⟨_, a₁, w₁, hq, .of_steps (.one h0 stepR_scope) harr⟩
  | outgrown => exact ⟨_, a₁, w₁, hq, .of_steps (.one h0 stepR_scope) harr⟩
end
theorem WPJ.scope {γ : Type} {P : Program} {E : Env γ} {c : Code} {Q : Exit → List Value → AHeap → γ → Prop} {T : List Value} {H : AHeap} {g : γ} (hg : ∀ l T H g, ¬ Q (.goto l) T H g) (h : WPJ P E c Q T H g) : WPJ P E (.scope c) Q T H g := by
  intro ρ w S ro Ds ac hi ht hr hm
  refine wpIn_scope (wpIn_mono (h ρ w S ro Ds ac hi ht hr hm) fun e ac' w' hp => ?_)
  obtain ⟨ρ', T', H', g', S', Ds', h1, h2, tr, h4, h5⟩ := hp
  cases e with
  | goto l => exact hg _ _ _ _ h5
  | normal => exact ⟨ρ', T', H', g', S', Ds', h1, h2, tr, h4, h5⟩
  | exit id => exact ⟨ρ', T', H', g', S', Ds', h1, h2, tr, h4, h5⟩
  | ret => exact ⟨ρ', T', H', g', S', Ds', h1, h2, tr, h4, h5⟩
  | panic ch => exact ⟨ρ', T', H', g', S', Ds', h1, h2, tr, h4, h5⟩
  | outgrown => exact ⟨ρ', T', H', g', S', Ds', h1, h2, tr, h4, h5⟩
end Go.Abs
namespace Go.Abs
open Go
class IntsC (P : Program) (t : TypeId) (n : outParam Nat) : Prop where
  eq : ∀ (xs ys : List Int), xs.length = n → ys.length = n → ∀ w, (Op.equalIn 10000 t (.agg (xs.map cellI).toArray) (.agg (ys.map cellI).toArray)).run P w = .ok (decide (xs = ys)) w
  guard : P.eqGuardType P.depth t = false
  key : ∀ (e : Bool) (xs : List Int), xs.length = n → ∀ w, (Instr.checkKey e 10000 t (.agg (xs.map cellI).toArray)).run P w = .ok () w
  und : ∃ d, P.underlying t = some d
def isI64 (P : Program) (t : TypeId) : Bool :=
  match tyOf P t with
  | some (.int .i64, 1, some _, _) => true
  | _ => false
theorem isI64_ty {P : Program} {t : TypeId} (h : isI64 P t = true) : ∃ z b, Ty P t (.int .i64) 1 z b := by
  unfold isI64 at h
  split at h
  · rename_i z b he
    exact ⟨_, _, Ty.of he⟩
  · cases h
theorem part_int {P : Program} {e : TypeId} {z : Value} {b : Nat} (he : Ty P e (.int .i64) 1 z b) (xs : List Int) (off : Nat) (ho : off < xs.length) (w : World) :
    (part e (xs.map cellI).toArray off).run P w = .ok (cellI (xs.getD off 0)) w := by
  obtain ⟨v, h1, h2⟩ := run_part_rel (ρ := fun _ => none) (w := w) (cs := (xs.map cellI).toArray) (cs' := (xs.map cellI).toArray) (off := off) (v := cellI (xs.getD off 0)) he ⟨rfl, fun j h1 h2 => by simp; exact .int _ _⟩ (by simp [aggD, List.getD_eq_getElem?_getD, List.getElem?_eq_getElem ho])
  rw [h1, rel_int h2]
def intFields (P : Program) (fs : List Field) (n : Nat) : Bool := (fs.all fun f => f.name != "_" && isI64 P f.type) && (fs.map (·.offset) == List.range n)
theorem eqFields_ints {P : Program} (xs ys : List Int) : ∀ (fs : List Field), (∀ f ∈ fs, f.name ≠ "_" ∧ isI64 P f.type = true ∧ f.offset < xs.length ∧ f.offset < ys.length) → ∀ w,
    (Op.eqFields 9999 (xs.map cellI).toArray (ys.map cellI).toArray fs).run P w = .ok ((fs.map (·.offset)).all fun i => xs.getD i 0 == ys.getD i 0) w
  | [], _, w => by simp [Op.eqFields]
  | f :: fs, h, w => by
    obtain ⟨h1, h2, h3, h4⟩ := h f (by simp)
    obtain ⟨z, b, ht⟩ := isI64_ty h2
    have pe : (Op.equalIn 9999 f.type (cellI (xs.getD f.offset 0)) (cellI (ys.getD f.offset 0))).run P w = .ok (xs.getD f.offset 0 == ys.getD f.offset 0) w := by
      show (Op.equalIn (9998 + 1) f.type _ _).run P w = _
      rw [Op.equalIn, Sem.run_bind, ht.und w]
      rfl
    have ih := eqFields_ints xs ys fs (fun g hg => h g (by simp [hg])) w
    simp only [Op.eqFields, if_pos h1, Sem.run_bind, part_int ht xs _ h3, part_int ht ys _ h4, pe, Result.andThen_ok, List.map_cons, List.all_cons]
    cases hb : (xs.getD f.offset 0 == ys.getD f.offset 0)
    · simp
    · simp only [Bool.not_true, Bool.false_eq_true, if_false, Bool.true_and]; exact ih
theorem checkKey_int {P : Program} {t : TypeId} (h : isI64 P t = true) (e : Bool) (m : Nat) (n : Int) (w : World) : (Instr.checkKey e (m + 1) t (cellI n)).run P w = .ok () w := by
  obtain ⟨z, b, ht⟩ := isI64_ty h
  rw [Instr.checkKey, Sem.run_bind, ht.und w]
  rfl
theorem IntsC.struct {P : Program} {t : TypeId} {fields : Array Field} {n n1 : Nat} {z : Value} {b : Nat} (ht : Ty P t (.struct fields) n1 z b) (hc : (intFields P fields.toList n && !P.stoodInHeld t && !P.eqGuardType P.depth t) = true) : IntsC P t n := by
  simp only [Bool.and_eq_true, Bool.not_eq_true', intFields, beq_iff_eq, List.all_eq_true, bne_iff_ne, ne_eq] at hc
  obtain ⟨⟨⟨h1, h2⟩, h3⟩, h4⟩ := hc
  have hu : P.underlying t = some (.struct fields) := ht.1
  have hf : P.fieldsOf t = fields := by simp only [Program.fieldsOf, hu]
  have hoff : ∀ f ∈ fields.toList, f.offset < n := fun f hf => List.mem_range.1 (h2 ▸ List.mem_map.2 ⟨f, hf, rfl⟩)
  refine ⟨fun xs ys hx hy w => ?_, h4, fun e xs hx w => ?_, ⟨_, hu⟩⟩
  · rw [run_equalIn_struct w 9999 t _ _ (by rw [hf]; exact hu) h3, hf, eqFields_ints xs ys fields.toList (fun f hf => ⟨(h1 f hf).1, (h1 f hf).2, by rw [hx]; exact hoff f hf, by rw [hy]; exact hoff f hf⟩) w, h2, ← hx, all_range_ints xs ys (by omega)]
  · rw [Instr.checkKey, Sem.run_bind, ht.und w, Result.andThen_ok]
    simp only
    rw [← Array.forIn_toList]
    have : ∀ (fs : List Field), (∀ f ∈ fs, f.name ≠ "_" ∧ isI64 P f.type = true ∧ f.offset < xs.length) → (forIn fs PUnit.unit fun f _ => do
        if f.name ≠ "_" then do
          Instr.checkKey e 9999 f.type (← part f.type (xs.map cellI).toArray f.offset)
          pure (ForInStep.yield PUnit.unit)
        else pure (ForInStep.yield PUnit.unit) : Sem PUnit).run P w = .ok () w := by
      intro fs
      induction fs with
      | nil => intro _; rfl
      | cons f fs ih =>
        intro h
        obtain ⟨q1, q2, q3⟩ := h f (by simp)
        obtain ⟨z', b', ht'⟩ := isI64_ty q2
        have ih' := ih fun g hg => h g (by simp [hg])
        simp only [List.forIn_cons, Sem.run_bind, if_pos q1, part_int ht' xs _ q3, Result.andThen_ok, checkKey_int q2 e 9998]
        simpa using ih'
    rw [Sem.run_bind, this _ fun f hf => ⟨(h1 f hf).1, (h1 f hf).2, by rw [hx]; exact hoff f hf⟩]
    rfl
theorem IntsC.array {P : Program} {t e : TypeId} {n n1 : Nat} {z : Value} {b : Nat} (ht : Ty P t (.array n e) n1 z b) (hc : (isI64 P e && !P.eqGuardType P.depth t) = true) : IntsC P t n := by
  simp only [Bool.and_eq_true, Bool.not_eq_true'] at hc
  obtain ⟨h1, h2⟩ := hc
  obtain ⟨z', b', he⟩ := isI64_ty h1
  refine ⟨fun xs ys hx hy w => run_equal_ints ht he xs ys hx hy w, h2, fun e' xs hx w => ?_, ⟨_, ht.1⟩⟩
  rw [Instr.checkKey, Sem.run_bind, ht.und w, Result.andThen_ok]
  simp only [Std.Legacy.Range.forIn_eq_forIn_range', Std.Legacy.Range.size, Nat.sub_zero, Nat.add_sub_cancel, Nat.div_one]
  have hl : ∀ i ∈ List.range' 0 n 1, i < n := fun i hi => by simpa using (List.mem_range'_1.1 hi).2
  generalize List.range' 0 n 1 = l at hl ⊢
  rw [Sem.run_bind]
  have : (forIn l PUnit.unit fun i _ => do
      let s ← sizeOf e
      Instr.checkKey e' 9999 e (← part e (xs.map cellI).toArray (i * s))
      pure (ForInStep.yield PUnit.unit) : Sem PUnit).run P w = .ok () w := by
    induction l with
    | nil => rfl
    | cons i l ih =>
      have hi : i < n := hl i (by simp)
      have ih' := ih fun j hj => hl j (by simp [hj])
      simp only [List.forIn_cons, Sem.run_bind, he.sizeOf w, Nat.mul_one, part_int he xs i (by omega), Result.andThen_ok, checkKey_int h1 e' 9998]
      simpa [he.sizeOf w] using ih'
  rw [this]; rfl
section
variable {γ : Type} {P : Program} {E : Env γ} {T : List Value} {H : AHeap} {g : γ} {R : List Value → AHeap → γ → Prop} {ops : Array Oper} {dst : Option Tmp} {ty : TypeId} {ps : String} {af : Array Edge} {rest : List Oper}
theorem runs_eqI {gd : Option (Nat × Bool)} {xt yt : TypeId} {x y : Operand} {n : Nat} {xs ys : List Int} [ht : IntsC P xt n] (hx : evalT T x = .agg ⟨xs.map cellI⟩) (hy : evalT T y = .agg ⟨ys.map cellI⟩) (hxl : xs.length = n) (hyl : ys.length = n) :
    Runs P ⟨dst, .binOp .eql xt x y yt, ty, ps, af, gd⟩ (.bool (decide (xs = ys))) H T H :=
  runs_bin hx hy fun ρ w x' y' h1 h2 _ => by
    rw [rel_ints h1, rel_ints h2]
    exact ⟨.bool (decide (xs = ys)), by rw [Sem.run_bind, run_eqGuard_agg w .eql xt x y _ _ ht.guard, Result.andThen_ok, run_eql_struct, ht.eq xs ys hxl hyl]; rfl, .bool _⟩
end
def mapI (l : List (List Int × Value)) : AObj := .map (l.zipIdx.map fun x => ⟨.agg ⟨x.1.1.map cellI⟩, x.1.2, x.2⟩) l.length
def findK (l : List (List Int × Value)) (k : List Int) : Option Nat := l.findIdx? fun x => decide (x.1 = k)
def addK (l : List (List Int × Value)) (k : List Int) (z : Value) : List (List Int × Value) := match findK l k with | some _ => l | none => l ++ [(k, z)]
def atK (l : List (List Int × Value)) (k : List Int) (z : Value) : Value := match findK l k with | some i => ((l[i]?).map (·.2)).getD z | none => z
def numK (l : List (List Int × Value)) (k : List Int) : Nat := (findK l k).getD l.length
def setK (l : List (List Int × Value)) (i : Nat) (v : Value) : List (List Int × Value) := match l[i]? with | some x => l.set i (x.1, v) | none => l
theorem mapI_get (l : List (List Int × Value)) (j : Nat) (h : j < (l.zipIdx.map fun x => (⟨.agg ⟨x.1.1.map cellI⟩, x.1.2, x.2⟩ : MapEntry)).length) :
    (l.zipIdx.map fun x => (⟨.agg ⟨x.1.1.map cellI⟩, x.1.2, x.2⟩ : MapEntry))[j] = ⟨.agg ⟨(l[j]'(by simpa using h)).1.map cellI⟩, (l[j]'(by simpa using h)).2, j⟩ := by simp
theorem mapI_rel {ρ : Ren} {l : List (List Int × Value)} {m : Img} {b : Option Obj} : ORel ρ (mapI l) m b ↔ m.own = true ∧ ∃ es' : Array MapEntry, b = some (.map es' l.length) ∧ es'.size = l.length ∧
    ∀ (j : Nat) (h : j < l.length) (h' : j < es'.size), es'[j].key = .agg (l[j].1.map cellI).toArray ∧ VRel ρ l[j].2 es'[j].val ∧ es'[j].born = j := by
  unfold mapI
  simp only [ORel]
  constructor
  · rintro ⟨h1, es', h2, h3, h4⟩
    refine ⟨h1, es', h2, by simpa using h3.symm, fun j h h' => ?_⟩
    obtain ⟨q1, q2, q3⟩ := h4 j (by simpa using h) h'
    rw [mapI_get] at q1 q2 q3
    exact ⟨rel_ints q1, q2, q3.symm⟩
  · rintro ⟨h1, es', h2, h3, h4⟩
    refine ⟨h1, es', h2, by simp [h3], fun j h h' => ?_⟩
    have h0 : j < l.length := by simpa using h
    obtain ⟨q1, q2, q3⟩ := h4 j h0 h'
    rw [mapI_get]
    refine ⟨?_, q2, q3.symm⟩
    rw [q1]
    exact .agg rfl fun i a b => by simp; exact .int _ _
theorem findAsking_ints {P : Program} {t : TypeId} {n : Nat} (ht : IntsC P t n) (k : List Int) (hk : k.length = n) (w : World) : ∀ (l : List (List Int × Value)) (es : List MapEntry) (i0 : Nat), l.length = es.length → (∀ x ∈ l, x.1.length = n) →
    (∀ (j : Nat) (h : j < l.length) (h' : j < es.length), es[j].key = .agg (l[j].1.map cellI).toArray) →
    (Instr.findAsking t (.agg (k.map cellI).toArray) es i0).run P w = .ok ((findK l k).bind fun i => (es[i]?).map fun e => (i0 + i, e.val)) w
  | [], [], i0, _, _, _ => rfl
  | [], _ :: _, _, h, _, _ => by simp at h
  | _ :: _, [], _, h, _, _ => by simp at h
  | x :: l, e :: es, i0, hl, hx, he => by
    have h0 : e.key = .agg (x.1.map cellI).toArray := he 0 (by simp) (by simp)
    have ih := findAsking_ints ht k hk w l es (i0 + 1) (by simpa using hl) (fun y hy => hx y (by simp [hy])) (fun j h h' => he (j + 1) (by simpa using h) (by simpa using h'))
    have heq : (Op.equal t (.agg (k.map cellI).toArray) e.key).run P w = .ok (decide (k = x.1)) w := by rw [h0]; exact ht.eq k x.1 hk (hx x (by simp)) w
    rw [Instr.findAsking, Sem.run_bind, heq, Result.andThen_ok]
    by_cases hkx : k = x.1
    · simp [hkx, findK, List.findIdx?_cons]
    · have hkx' : ¬ x.1 = k := fun e => hkx e.symm
      simp only [decide_eq_false hkx, Bool.false_eq_true, if_false, ih, findK, List.findIdx?_cons, decide_eq_false hkx']
      cases List.findIdx? (fun x => decide (x.1 = k)) l with
      | none => rfl
      | some i => simp [Nat.add_assoc, Nat.add_comm 1 i]
theorem findKey_ints {P : Program} {t : TypeId} {n : Nat} (ht : IntsC P t n) (k : List Int) (hk : k.length = n) (w : World) (l : List (List Int × Value)) (es : Array MapEntry) (hl : es.size = l.length) (hx : ∀ x ∈ l, x.1.length = n)
    (he : ∀ (j : Nat) (h : j < l.length) (h' : j < es.size), es[j].key = .agg (l[j].1.map cellI).toArray) :
    (Instr.findKey t (.agg (k.map cellI).toArray) es.toList).run P w = .ok ((findK l k).bind fun i => (es[i]?).map fun e => (i, e.val)) w := by
  obtain ⟨d, hd⟩ := ht.und
  have ha := findAsking_ints ht k hk w l es.toList 0 (by simp [hl]) hx (fun j h h' => by simpa using he j h (by simpa using h'))
  simp only [Nat.zero_add, Array.getElem?_toList] at ha
  rw [Instr.findKey, Sem.run_bind, run_underlying hd, Result.andThen_ok]
  cases hes : es.toList with
  | nil =>
    have : l = [] := by
      have : es.size = 0 := by have := congrArg List.length hes; simpa using this
      exact List.length_eq_zero_iff.1 (by omega)
    subst this
    rfl
  | cons e es2 =>
    have hn : ∀ (v : Value), Instr.sameNow d (.agg (k.map cellI).toArray) v = none := fun v => by cases d <;> rfl
    rw [hes] at ha
    simp only [Instr.findNow, hn]
    exact ha
theorem findK_lt {l : List (List Int × Value)} {k : List Int} {i : Nat} (h : findK l k = some i) : ∃ hl : i < l.length, l[i].1 = k := by
  unfold findK at h
  obtain ⟨h1, h2, _⟩ := List.findIdx?_eq_some_iff_getElem.1 h
  exact ⟨h1, by simpa using h2⟩
section
variable {γ : Type} {P : Program} {E : Env γ} {T : List Value} {H : AHeap} {g : γ} {R : List Value → AHeap → γ → Prop} {ops : Array Oper} {dst : Option Tmp} {ty : TypeId} {ps : String} {af : Array Edge} {rest : List Oper} {gd : Option (Nat × Bool)}
theorem rel_map {ρ : Ren} {i : Nat} {v' : Value} (h : VRel ρ (.map (some i)) v') : ∃ m, ρ i = some m ∧ v' = .map (some m.blk) := by
  cases h with | @map _ m h => exact ⟨m, h, rfl⟩
theorem runs_makeMap {t : TypeId} : Runs P ⟨dst, .makeMap t none, ty, ps, af, gd⟩ (.map (some H.length)) (H ++ [mapI []]) T H := by
  intro ρ w ac hs _
  obtain ⟨h1, h2⟩ := hs.alloc (mapI []) (.map #[] 0) ⟨w.heap.size, 0, 0, true⟩ rfl (mapI_rel.2 ⟨rfl, #[], rfl, rfl, fun j h _ => by simp at h⟩)
  refine ⟨.map (some w.heap.size), w.alloc (.map #[] 0), _, .inl ?_, .map (m := ⟨w.heap.size, 0, 0, true⟩) (Ren.add_same _ _ _), h1, h2⟩
  simp [execOp, Instr.makeMap]
theorem map_at {ρ : Ren} {w : World} (hs : SRel ρ H w) {i : Nat} {m : Img} {l : List (List Int × Value)} (hi : ρ i = some m) (ho : H[i]? = some (mapI l)) :
    m.own = true ∧ ∃ es' : Array MapEntry, w.heap[m.blk]? = some (.map es' l.length) ∧ es'.size = l.length ∧ ∀ (j : Nat) (h : j < l.length) (h' : j < es'.size), es'[j].key = .agg (l[j].1.map cellI).toArray ∧ VRel ρ l[j].2 es'[j].val ∧ es'[j].born = j :=
  mapI_rel.1 (hs.obj i m _ hi ho)
theorem runs_lookup {t kt et : TypeId} {x y : Operand} {n nn : Nat} {z : Value} {b : Nat} {d : TypeDesc} {n2 : Nat} {z2 : Value} {b2 : Nat} {i : Nat} {k : List Int} {l : List (List Int × Value)} (ht : Ty P t (.map kt et) nn z b) (hk : IntsC P kt n) (he : Ty P et d n2 z2 b2)
    (hx : evalT T x = .map (some i)) (hy : evalT T y = .agg ⟨k.map cellI⟩) (hkl : k.length = n) (hl : ∀ x ∈ l, x.1.length = n) (ho : H[i]? = some (mapI l)) :
    Runs P ⟨dst, .lookup t x y false, ty, ps, af, gd⟩ (atK l k (constT z2)) H T H :=
  Runs.pure fun ρ w ac hs hT => by
    obtain ⟨m, hm, hv⟩ := rel_map (hx ▸ hT.eval x)
    have hyv := rel_ints (hy ▸ hT.eval y)
    obtain ⟨_, es, hb, hsz, hen⟩ := map_at hs hm ho
    have hf := findKey_ints hk k hkl w l es hsz hl (fun j h h' => (hen j h h').1)
    cases hfk : findK l k with
    | none =>
      rw [hfk] at hf
      refine ⟨z2, ?_, by unfold atK; rw [hfk]; exact constT_rel _ _⟩
      simp only [execOp, Instr.lookup, hv, hyv, Sem.run_bind, ht.und w, Result.andThen_ok, MapKept.run_getObj_map hb, Sem.run_pure, hk.key _ k hkl w, hf, Option.bind_none, he.zero w]
      rfl
    | some j =>
      obtain ⟨hj, _⟩ := findK_lt hfk
      have hj' : j < es.size := by omega
      rw [hfk] at hf
      simp only [Option.bind_some, Array.getElem?_eq_getElem hj', Option.map_some] at hf
      refine ⟨es[j].val, ?_, by unfold atK; rw [hfk]; simp only [List.getElem?_eq_getElem hj, Option.map_some, Option.getD_some]; exact (hen j hj hj').2.1⟩
      simp only [execOp, Instr.lookup, hv, hyv, Sem.run_bind, ht.und w, Result.andThen_ok, MapKept.run_getObj_map hb, Sem.run_pure, hk.key _ k hkl w, hf]
      rfl
def putB (w : World) (b : Nat) (o : Obj) : World := { w with heap := w.heap.setIfInBounds b o }
theorem putB_same {w : World} {b : Nat} {o' : Obj} (o : Obj) (h : w.heap[b]? = some o') : (putB w b o).heap[b]? = some o := by
  have hlt := (Array.getElem?_eq_some_iff.1 h).1
  simp [putB, hlt]
theorem putB_other {w : World} {b k : Nat} (o : Obj) (h : k ≠ b) : (putB w b o).heap[k]? = w.heap[k]? := by
  simp only [putB]
  rw [Array.getElem?_setIfInBounds_ne (Ne.symm h)]
theorem putB_size {w : World} {b : Nat} (o : Obj) : (putB w b o).heap.size = w.heap.size := by simp [putB]
theorem map_turn {ρ : Ren} {w : World} (hs : SRel ρ H w) {i : Nat} {m : Img} {l : List (List Int × Value)} (hi : ρ i = some m) (ho : H[i]? = some (mapI l)) (l' : List (List Int × Value)) (es' : Array MapEntry) (hsz : es'.size = l'.length)
    (hen : ∀ (j : Nat) (h : j < l'.length) (h' : j < es'.size), es'[j].key = .agg (l'[j].1.map cellI).toArray ∧ VRel ρ l'[j].2 es'[j].val ∧ es'[j].born = j) :
    SRel ρ (H.set i (mapI l')) (putB w m.blk (.map es' l'.length)) ∧ Step ρ H w ρ (H.set i (mapI l')) (putB w m.blk (.map es' l'.length)) := by
  obtain ⟨hown, es, hb, _, _⟩ := map_at hs hi ho
  exact hs.turn (w' := putB w m.blk (.map es' l'.length)) (mapI l') hi ho rfl hown (fun b hb' => putB_other _ hb') (putB_size _) rfl rfl rfl (by rw [putB_same _ hb]; exact mapI_rel.2 ⟨hown, es', rfl, hsz, hen⟩)
theorem set_same_obj {i : Nat} {o : AObj} (h : H[i]? = some o) : H.set i o = H := by
  apply List.ext_getElem?
  intro j
  rw [List.getElem?_set]
  split
  · rename_i e; subst e
    rw [if_pos (List.getElem?_eq_some_iff.1 h).1, h]
  · rfl
theorem sameBits_ints (k : List Int) : Instr.sameBits 10000 (.agg (k.map cellI).toArray) (.agg (k.map cellI).toArray) = true := by
  show Instr.sameBits (9999 + 1) _ _ = true
  simp only [Instr.sameBits, beq_self_eq_true, Bool.true_and, List.all_eq_true]
  rintro ⟨x, y⟩ hxy
  rw [List.zip_eq_zipWith, List.zipWith_self] at hxy
  obtain ⟨v, hv, he⟩ := List.mem_map.1 hxy
  cases he
  simp only [List.mem_map] at hv
  obtain ⟨n, _, rfl⟩ := hv
  show Instr.sameBits (9998 + 1) _ _ = true
  simp [Instr.sameBits]
theorem keyStays_ints {P : Program} (k : List Int) (w : World) : (Instr.keyThatStays (.agg (k.map cellI).toArray) (.agg (k.map cellI).toArray)).run P w = .ok (.agg (k.map cellI).toArray) w := by
  simp [Instr.keyThatStays, sameBits_ints]
theorem setK_some {l : List (List Int × Value)} {i : Nat} {v : Value} {x : List Int × Value} (h : l[i]? = some x) : setK l i v = l.set i (x.1, v) := by unfold setK; rw [h]
theorem setK_len (l : List (List Int × Value)) (i : Nat) (v : Value) : (setK l i v).length = l.length := by unfold setK; split <;> simp
def putK (l : List (List Int × Value)) (k : List Int) (v : Value) : List (List Int × Value) := match findK l k with | some i => setK l i v | none => l ++ [(k, v)]
theorem runs_mapUpdate {t kt et : TypeId} {x y u : Operand} {n nn : Nat} {z : Value} {b : Nat} {i : Nat} {k : List Int} {v : Value} {l : List (List Int × Value)} (ht : Ty P t (.map kt et) nn z b) (hk : IntsC P kt n)
    (hx : evalT T x = .map (some i)) (hy : evalT T y = .agg ⟨k.map cellI⟩) (hu : evalT T u = v) (hkl : k.length = n) (hl : ∀ x ∈ l, x.1.length = n) (ho : H[i]? = some (mapI l)) :
    Runs P ⟨dst, .mapUpdate t x y u, ty, ps, af, gd⟩ undef (H.set i (mapI (putK l k v))) T H := by
  intro ρ w ac hs hT
  obtain ⟨m, hm, hv⟩ := rel_map (hx ▸ hT.eval x)
  have hyv := rel_ints (hy ▸ hT.eval y)
  have huv := hu ▸ hT.eval u
  obtain ⟨hown, es, hb, hsz, hen⟩ := map_at hs hm ho
  have hf := findKey_ints hk k hkl w l es hsz hl (fun j h h' => (hen j h h').1)
  cases hfk : findK l k with
  | none =>
    rw [hfk] at hf
    have hpk : putK l k v = l ++ [(k, v)] := by unfold putK; rw [hfk]
    obtain ⟨h1, h2⟩ := map_turn hs hm ho (l ++ [(k, v)]) (es.push { key := .agg (k.map cellI).toArray, val := ac.eval u, born := l.length }) (by simp [hsz]) (fun j h h' => by
      by_cases hj : j < l.length
      · have hj' : j < es.size := by omega
        rw [Array.getElem_push_lt hj', List.getElem_append_left hj]
        exact hen j hj hj'
      · have hj2 : j = l.length := by simp at h; omega
        subst hj2
        rw [List.getElem_append_right (Nat.le_refl _)]
        have : (es.push { key := .agg (k.map cellI).toArray, val := ac.eval u, born := l.length })[l.length] = { key := .agg (k.map cellI).toArray, val := ac.eval u, born := l.length } := by simp [← hsz]
        rw [this]
        exact ⟨by simp, by simp; exact huv, rfl⟩)
    refine ⟨undef, _, ρ, .inr ⟨?_, rfl⟩, undef_rel ρ, by rw [hpk]; exact h1, by rw [hpk]; exact h2⟩
    simp only [execOp, Instr.mapUpdate, hv, hyv, Sem.run_bind, ht.und w, Result.andThen_ok, MapKept.run_getObj_map hb, hk.key _ k hkl w, hf, Option.bind_none, MapKept.run_setObj_map _ hb]
    simp [putB]
  | some j =>
    obtain ⟨hj, hjk⟩ := findK_lt hfk
    have hj' : j < es.size := by omega
    have hx0 : l[j]? = some l[j] := by simp
    have hpk : putK l k v = setK l j v := by unfold putK; rw [hfk]
    rw [hfk] at hf
    simp only [Option.bind_some, Array.getElem?_eq_getElem hj', Option.map_some] at hf
    obtain ⟨e1, e2, e3⟩ := hen j hj hj'
    rw [hjk] at e1
    obtain ⟨h1, h2⟩ := map_turn hs hm ho (setK l j v) (es.modify j fun e => { e with key := .agg (k.map cellI).toArray, val := ac.eval u }) (by simp [hsz, setK_len]) (fun j2 h h' => by
      have h3 : j2 < es.size := by simpa using h'
      rw [Array.getElem_modify]
      simp only [setK_some hx0] at h ⊢
      split
      · rename_i e; subst e
        simp only [List.getElem_set_self]
        exact ⟨by rw [hjk], huv, e3⟩
      · rename_i e
        rw [List.getElem_set_ne e]
        exact hen j2 (by omega) h3)
    refine ⟨undef, _, ρ, .inr ⟨?_, rfl⟩, undef_rel ρ, by rw [hpk]; exact h1, by rw [hpk]; exact h2⟩
    simp only [execOp, Instr.mapUpdate, hv, hyv, Sem.run_bind, ht.und w, Result.andThen_ok, MapKept.run_getObj_map hb, hk.key _ k hkl w, hf, Array.getElem?_eq_getElem hj', Option.map_some, Option.getD_some, e1, keyStays_ints, MapKept.run_setObj_map _ hb]
    simp [putB, setK_len]
theorem rel_iter {ρ : Ren} {w : World} (hs : SRel ρ H w) {i mp ck : Nat} {sn : List Nat} {m : Img} (hi : ρ i = some m) (ho : H[i]? = some (.iter mp ck sn)) :
    m.own = true ∧ ∃ mm, ρ mp = some mm ∧ w.heap[m.blk]? = some (.mapIter (some mm.blk) ck sn.toArray ck) := hs.obj i m _ hi ho
theorem SRel.alike {ρ : Ren} {w w1 : World} (h : SRel ρ H w) (ha : w1.heap = w.heap) : SRel ρ H w1 := ⟨fun i m hi => by rw [ha]; exact h.dom i m hi, fun i m o hi ho => by rw [ha]; exact h.obj i m o hi ho, h.inj⟩
theorem run_next_any {w : World} {ib bm since : Nat} {seen : Array Nat} {es : Array MapEntry} (hi : w.heap[ib]? = some (.mapIter (some bm) since seen since)) (hb : w.heap[bm]? = some (.map es since)) (hold : ∀ x ∈ es.toList, x.born < since) (tyx : TypeId) :
    ((leftOf es seen).size = 0 ∧ (Instr.next (.pointer (some ⟨ib, 0, none⟩)) false tyx).run P w = .ok (.tuple #[.bool false]) w) ∨
    ∃ e ∈ (leftOf es seen).toList, ∃ w1 : World, w1.heap = w.heap ∧ w1.os = w.os ∧ w1.tape = w.tape ∧ w1.output = w.output ∧ (Instr.next (.pointer (some ⟨ib, 0, none⟩)) false tyx).run P w = .ok (.tuple #[.bool true, e.key, e.val]) (putB w1 ib (.mapIter (some bm) since (seen.push e.born) since)) := by
  simp only [Instr.next, getObj, Sem.run_bind, Sem.run, hi, hb, Result.andThen, next_test_false seen es since since hold (Nat.le_refl _), Bool.false_eq_true, if_false]
  unfold leftOf
  have hmem : ∀ x ∈ (Array.filter (fun e => !seen.contains e.born) es).toList, x.born < since := fun x hx => hold x (by simp at hx ⊢; exact hx.1)
  generalize Array.filter (fun e => !seen.contains e.born) es = L at hmem ⊢
  have e1 : L.filter (fun x => decide (x.born < since)) = L := Array.filter_eq_self.2 (fun x hx => by simpa using hmem x (by simpa using hx))
  have e2 : L.filter (fun x => decide (x.born ≥ since)) = #[] := by
    rw [Array.filter_eq_empty_iff]
    intro x hx
    have := hmem x (by simpa using hx)
    simp
    omega
  simp only [e1, e2, Array.append_empty]
  by_cases h0 : L.size = 0
  · left
    have : L = #[] := Array.eq_empty_of_size_eq_zero h0
    subst this
    refine ⟨rfl, ?_⟩
    simp [choose, Sem.run, Question.forced]
  · right
    have hne : L.isEmpty = false := by simp [Array.isEmpty, h0]
    simp only [hne, Bool.false_eq_true, if_false, Array.empty_append, Array.size_map]
    have hch : ∃ (j : Nat) (w1 : World), j < L.size ∧ (w1.heap = w.heap ∧ w1.os = w.os ∧ w1.tape = w.tape ∧ w1.output = w.output) ∧ (choose (Question.mapNext L.size)).run P w = .ok j w1 := by
      by_cases hf : L.size ≤ 1
      · exact ⟨0, w, by omega, ⟨rfl, rfl, rfl, rfl⟩, by simp [choose, Sem.run, Question.forced, hf]⟩
      · exact ⟨_, w.drew, Nat.mod_lt _ (by omega), ⟨rfl, rfl, rfl, rfl⟩, by
          simp only [choose, Sem.run, Question.forced, decide_eq_true_eq, hf, if_false, Question.cut]
          rfl⟩
    obtain ⟨j, w1, hj, hal, hrun⟩ := hch
    refine ⟨L[j], by simp, w1, hal.1, hal.2.1, hal.2.2.1, hal.2.2.2, ?_⟩
    have hset : ∀ o' : Obj, (setObj ib o').run P w1 = .ok () (putB w1 ib o') := fun o' => by
      simp only [setObj, Sem.run, hal.1, hi]
      simp [putB, hal.1]
    simp only [hrun, Array.getElem?_map, Array.getElem?_eq_getElem hj, Option.map_some, Sem.run_bind, hset, Result.andThen]
    rfl
theorem OpJ.next {γ : Type} {E : Env γ} {g : γ} {x : Operand} {i mp : Nat} {l : List (List Int × Value)} {seen : List Nat} {K : Value → AHeap → γ → Prop} (hx : evalT T x = .pointer (some ⟨i, 0, none⟩)) (ho : H[i]? = some (.iter mp l.length seen)) (hm : H[mp]? = some (mapI l))
    (hend : (∀ j, j < l.length → j ∈ seen) → K (.tuple #[.bool false]) H g) (hstep : ∀ (j : Nat) (h : j < l.length), j ∉ seen → K (.tuple #[.bool true, .agg ⟨l[j].1.map cellI⟩, l[j].2]) (H.set i (.iter mp l.length (seen ++ [j]))) g) :
    OpJ P E ⟨dst, .next x false, ty, ps, af, gd⟩ K T H g := by
  intro ρ w S ro Ds ac Q hi ht hr hmk
  obtain ⟨m, hρ, hv⟩ := rel_ptr (hx ▸ ht.eval x)
  obtain ⟨hown, mm, hρm, hit⟩ := rel_iter hi.srel hρ ho
  obtain ⟨_, es, hb, hsz, hen⟩ := map_at hi.srel hρm hm
  have hold : ∀ x ∈ es.toList, x.born < l.length := fun x hx => by
    obtain ⟨j, hj, rfl⟩ := List.getElem_of_mem hx
    simp only [Array.length_toList] at hj
    have := (hen j (by omega) hj).2.2
    simp only [Array.getElem_toList]
    omega
  rw [Oper.semAt_eq ro ac.eval _ (fun c e => by cases e)]
  rcases run_next_any (P := P) hit hb hold ty with ⟨h0, h1⟩ | ⟨e, he, w1, a1, a2, a3, a4, h1⟩
  · have hrun : (execOp ac.eval ⟨dst, .next x false, ty, ps, af, gd⟩).run P w = .ok (.value (.tuple #[.bool false])) w := by
      simp only [execOp, hv, Sem.run_bind, h1, Result.andThen_ok, Sem.run_pure]
    rw [hrun]
    refine ⟨ρ, .tuple #[.bool false], .tuple #[.bool false], H, g, S, rfl, .tuple rfl fun j p q => ?_, hi, .refl _ _ _ _, hend fun j hj => ?_⟩
    · match j, p with
      | 0, _ => exact .bool _
    · have hall : ∀ e ∈ es, (!seen.toArray.contains e.born) = false := by
        have := Array.eq_empty_of_size_eq_zero h0
        unfold leftOf at this
        rw [Array.filter_eq_empty_iff] at this
        intro e he
        simpa using this e he
      have := hall es[j] (Array.getElem_mem (by omega))
      rw [(hen j hj (by omega)).2.2] at this
      simpa using this
  · have hrun : (execOp ac.eval ⟨dst, .next x false, ty, ps, af, gd⟩).run P w = .ok (.value (.tuple #[.bool true, e.key, e.val])) (putB w1 m.blk (.mapIter (some mm.blk) l.length (seen.toArray.push e.born) l.length)) := by
      simp only [execOp, hv, Sem.run_bind, h1, Result.andThen_ok, Sem.run_pure]
    rw [hrun]
    unfold leftOf at he
    simp only [Array.toList_filter, List.mem_filter] at he
    obtain ⟨hmem, hns⟩ := he
    obtain ⟨j, hj, hje⟩ := List.getElem_of_mem hmem
    simp only [Array.length_toList] at hj
    simp only [Array.getElem_toList] at hje
    obtain ⟨q1, q2, q3⟩ := hen j (by omega) hj
    rw [hje] at q1 q2 q3
    have hs1 : SRel ρ H w1 := hi.srel.alike a1
    have hit1 : w1.heap[m.blk]? = some (.mapIter (some mm.blk) l.length seen.toArray l.length) := by rw [a1]; exact hit
    obtain ⟨t1, t2⟩ := hs1.turn (w' := putB w1 m.blk (.mapIter (some mm.blk) l.length (seen.toArray.push e.born) l.length)) (.iter mp l.length (seen ++ [j])) hρ ho rfl hown (fun b hb' => putB_other _ hb') (putB_size _) rfl rfl rfl
      (by rw [putB_same _ hit1]; exact ⟨hown, mm, hρm, by rw [q3]; simp⟩)
    have t0 : Step ρ H w ρ H w1 := ⟨Nat.le_refl _, fun _ _ => rfl, a2, a3, a4, by rw [a1]; exact Nat.le_refl _, fun _ _ _ => by rw [a1], fun _ h => .inr h⟩
    refine ⟨ρ, .tuple #[.bool true, .agg ⟨(l[j]'(by omega)).1.map cellI⟩, (l[j]'(by omega)).2], _, _, g, S, rfl, .tuple rfl fun j2 p q => ?_, hi.plain t1 (t0.trans t2), (t0.trans t2).trans' S, hstep j (by omega) ?_⟩
    · match j2, p with
      | 0, _ => exact .bool _
      | 1, _ =>
        show VRel ρ _ e.key
        rw [q1]
        exact .agg rfl fun i a b => by simp; exact .int _ _
      | 2, _ => exact q2
    · rw [q3] at hns; simpa using hns
end
end Go.Abs
namespace Go.Abs
open Go
section
variable {γ : Type} {P : Program} {E : Env γ} {T : List Value} {H : AHeap} {g : γ} {R : List Value → AHeap → γ → Prop} {ops : Array Oper} {dst : Option Tmp} {ty : TypeId} {ps : String} {af : Array Edge} {rest : List Oper}
theorem st_makeMap {t : TypeId} (k : OpsJ P E ops R rest (putT T dst (.map (some H.length))) (H ++ [mapI []]) g) : OpsJ P E ops R (⟨dst, .makeMap t none, ty, ps, af, none⟩ :: rest) T H g := OpsJ.step runs_makeMap rfl k
theorem st_lookup {t kt et : TypeId} {x y : Operand} {n nn : Nat} {z : Value} {b : Nat} {d : TypeDesc} {n2 : Nat} {z2 : Value} {b2 : Nat} {i : Nat} {ky : List Int} {l : List (List Int × Value)} [ht : TyC P t (.map kt et) nn z b] [hk : IntsC P kt n] [he : TyC P et d n2 z2 b2]
    (hx : evalT T x = .map (some i)) (hy : evalT T y = .agg ⟨ky.map cellI⟩) (hkl : ky.length = n) (hl : ∀ x ∈ l, x.1.length = n) (ho : H[i]? = some (mapI l)) (k : OpsJ P E ops R rest (putT T dst (atK l ky (constT z2))) H g) :
    OpsJ P E ops R (⟨dst, .lookup t x y false, ty, ps, af, none⟩ :: rest) T H g := OpsJ.step (runs_lookup ht.ty hk he.ty hx hy hkl hl ho) rfl k
theorem st_mapUpdate {t kt et : TypeId} {x y u : Operand} {n nn : Nat} {z : Value} {b : Nat} {i : Nat} {ky : List Int} {v : Value} {l : List (List Int × Value)} [ht : TyC P t (.map kt et) nn z b] [hk : IntsC P kt n]
    (hx : evalT T x = .map (some i)) (hy : evalT T y = .agg ⟨ky.map cellI⟩) (hu : evalT T u = v) (hkl : ky.length = n) (hl : ∀ x ∈ l, x.1.length = n) (ho : H[i]? = some (mapI l))
    (k : OpsJ P E ops R rest (putT T dst undef) (H.set i (mapI (putK l ky v))) g) : OpsJ P E ops R (⟨dst, .mapUpdate t x y u, ty, ps, af, none⟩ :: rest) T H g := OpsJ.step (runs_mapUpdate ht.ty hk hx hy hu hkl hl ho) rfl k
end
end Go.Abs
