import Derived.Test.YtjbiidlmpaibkaaGvp
namespace Go.Abs
open Go
def VK (P : Program) (ops : Array Oper) (μs : List Mut) (R : List Value → AHeap → Prop) (p0 : Nat) (ps : List Nat) (pl : List Ph) (o : Oper) (rest : List Oper) (T : List Value) (H : AHeap) (T1 : List Value) (H1 : AHeap) : Prop :=
  ∃ L, H1 = mutH (μs.take p0) H ++ L ∧ FreshM μs H.length L.length ∧
      AllV ps (fun p => (∃ d, o.dst = some d ∧ d < T.length) ∧ MonoJ P ops (fun T2 H2 => T2 = T1 ∧ H2 = mutH (μs.take p) H ++ L) 1 [o] T (mutH (μs.take p) H)) ∧
      VarJ P ops μs R pl rest T1 (H ++ L)
def VP (T1 : List Value) (Hx : AHeap) (T2 : List Value) (H2 : AHeap) : Prop := T2 = T1 ∧ H2 = Hx
theorem vp_end {T1 : List Value} {Hx : AHeap} : VP T1 Hx T1 Hx := ⟨rfl, rfl⟩
def VQ (P : Program) (ops : Array Oper) (μs : List Mut) (o : Oper) (T : List Value) (H L : AHeap) (T1 : List Value) (p : Nat) : Prop := (∃ d, o.dst = some d ∧ Nat.blt d T.length = true) ∧ MonoJ P ops (VP T1 (mutH (μs.take p) H ++ L)) 1 [o] T (mutH (μs.take p) H)
theorem allv_nil {f : Nat → Prop} : AllV [] f := trivial
theorem allv_cons {f : Nat → Prop} {p : Nat} {ps : List Nat} (h1 : f p) (h2 : AllV ps f) : AllV (p :: ps) f := ⟨h1, h2⟩
theorem AllV.imp {f f' : Nat → Prop} (h : ∀ p, f p → f' p) : ∀ {ps : List Nat}, AllV ps f → AllV ps f'
  | [], _ => trivial
  | _ :: _, ha => ⟨h _ ha.1, AllV.imp h ha.2⟩
section
variable {P : Program} {ops : Array Oper} {μs ms : List Mut} {R : List Value → AHeap → Prop} {p0 p : Nat} {ps : List Nat} {pl : List Ph} {o : Oper} {rest : List Oper} {T T' T1 : List Value} {H H' H1 L : AHeap} {b1 i1 b2 i2 b3 i3 d : Nat} {a1 c1 a2 c2 a3 c3 : AObj}
theorem VarJ.norm (hT : T = T') (hH : H = H') (h : VarJ P ops μs R pl rest T' H') : VarJ P ops μs R pl rest T H := by subst hT; subst hH; exact h
theorem VarJ.normA (h : VarJ P ops μs R pl rest T' H') (hT : T = T' := by first | exact NSr | rfl) (hH : H = H' := by first | exact NSr | rfl) : VarJ P ops μs R pl rest T H := VarJ.norm hT hH h
theorem vj_go0 (h : MonoJ P ops (VK P ops μs R 0 ps pl o rest T H) 1 [o] T H) : VarJ P ops μs R (.read (0 :: ps) :: pl) (o :: rest) T H := h
theorem vj_go1 (h : MonoJ P ops (VK P ops (⟨b1, i1, a1, c1⟩ :: ms) R 1 ps pl o rest T H) 1 [o] T (H.set i1 c1)) : VarJ P ops (⟨b1, i1, a1, c1⟩ :: ms) R (.read (1 :: ps) :: pl) (o :: rest) T H := h
theorem vj_go2 (h : MonoJ P ops (VK P ops (⟨b1, i1, a1, c1⟩ :: ⟨b2, i2, a2, c2⟩ :: ms) R 2 ps pl o rest T H) 1 [o] T ((H.set i1 c1).set i2 c2)) : VarJ P ops (⟨b1, i1, a1, c1⟩ :: ⟨b2, i2, a2, c2⟩ :: ms) R (.read (2 :: ps) :: pl) (o :: rest) T H := h
theorem vkL (hH : H1 = mutH (μs.take p0) H ++ L) (hf : FreshM μs H.length L.length) (ha : AllV ps (VQ P ops μs o T H L T1)) (k : VarJ P ops μs R pl rest T1 (H ++ L)) : VK P ops μs R p0 ps pl o rest T H T1 H1 :=
  ⟨L, hH, hf, ha.imp fun p h => by
    obtain ⟨⟨d, h1, h2⟩, h3⟩ := h
    exact ⟨⟨d, h1, by simpa [Nat.blt_eq] using h2⟩, h3⟩, k⟩
theorem vk0 (hH : H1 = mutH (μs.take p0) H) (ha : AllV ps (VQ P ops μs o T H [] T1)) (k : VarJ P ops μs R pl rest T1 H) : VK P ops μs R p0 ps pl o rest T H T1 H1 :=
  vkL (L := []) (by rw [hH, List.append_nil]) (fun μ _ h => by simp at h; omega) ha (by rw [List.append_nil]; exact k)
theorem vq0 (hd : o.dst = some d) (hb : Nat.blt d T.length = true) (h : MonoJ P ops (VP T1 (mutH (μs.take p) H)) 1 [o] T (mutH (μs.take p) H)) : VQ P ops μs o T H [] T1 p :=
  ⟨⟨d, hd, hb⟩, by rw [List.append_nil]; exact h⟩
theorem vq1 (hd : o.dst = some d) (hb : Nat.blt d T.length = true) (h : MonoJ P ops (VP T1 (H.set i1 c1)) 1 [o] T (H.set i1 c1)) : VQ P ops (⟨b1, i1, a1, c1⟩ :: ms) o T H [] T1 1 := vq0 hd hb h
theorem vq2 (hd : o.dst = some d) (hb : Nat.blt d T.length = true) (h : MonoJ P ops (VP T1 ((H.set i1 c1).set i2 c2)) 1 [o] T ((H.set i1 c1).set i2 c2)) : VQ P ops (⟨b1, i1, a1, c1⟩ :: ⟨b2, i2, a2, c2⟩ :: ms) o T H [] T1 2 := vq0 hd hb h
theorem is_vj {l : List Oper} (h : VarJ P ops μs R pl l T H) : VarJ P ops μs R pl l T H := h
theorem is_vk (h : VK P ops μs R p0 ps pl o rest T H T1 H1) : VK P ops μs R p0 ps pl o rest T H T1 H1 := h
theorem is_vq (h : VQ P ops μs o T H L T1 p) : VQ P ops μs o T H L T1 p := h
theorem is_av {f : Nat → Prop} (h : AllV ps f) : AllV ps f := h
theorem is_vp {Hx : AHeap} (h : VP T1 Hx T' H') : VP T1 Hx T' H' := h
theorem vj_end1 (h : R T (H.set i1 c1)) : VarJ P ops [⟨b1, i1, a1, c1⟩] R [] rest T H := h
theorem vj_end2 (h : R T ((H.set i1 c1).set i2 c2)) : VarJ P ops [⟨b1, i1, a1, c1⟩, ⟨b2, i2, a2, c2⟩] R [] rest T H := h
theorem vj_end3 (h : R T (((H.set i1 c1).set i2 c2).set i3 c3)) : VarJ P ops [⟨b1, i1, a1, c1⟩, ⟨b2, i2, a2, c2⟩, ⟨b3, i3, a3, c3⟩] R [] rest T H := h
variable {dst : Option Tmp} {ty : TypeId} {pz : String} {af : Array Edge}
theorem vj_turn {op : Op} {μ : Mut} (v : Value) (L : AHeap) (hμ : μs[p]? = some μ) (hi : (mutH (μs.take p) H)[μ.i]? = some μ.o0) (hd : isDefer op = false) (hL : L.all ownRow = true) (hf : FreshM μs H.length L.length)
    (h1 : Runs P ⟨dst, op, ty, pz, af, none⟩ v ((mutH (μs.take p) H).set μ.i μ.o1 ++ L) T (mutH (μs.take p) H)) (k : VarJ P ops μs R pl rest (putT T dst v) (H ++ L)) : VarJ P ops μs R (.turn p :: pl) (⟨dst, op, ty, pz, af, none⟩ :: rest) T H :=
  ⟨v, L, μ, hμ, hi, hf, ⟨rfl, hL, OpJ.of_runs h1 (fun c e => by simp only at e; rw [e] at hd; cases hd) ⟨rfl, rfl⟩⟩, k⟩
theorem vj_store {t : TypeId} {x y : Operand} {bb i o n : Nat} {d : TypeDesc} {z : Value} {b : Nat} {cells vs cs' : List Value} {es : Nat} {v : Value} [ht : TyC P t d n z b] (hx : evalT T x = .pointer (some ⟨i, o, none⟩)) (hy : evalT T y = v)
    (hvs : cellsL v = vs) (hok : vs.all cellOk = true) (hn : vs.length = n) (hμ : μs[p]? = some ⟨bb, i, .row cells es true, .row cs' es true⟩) (hi : (mutH (μs.take p) H)[i]? = some (.row cells es true)) (ho : o + n ≤ cells.length) (hcs : splice cells o vs = cs')
    (k : VarJ P ops μs R pl rest (putT T dst undef) H) : VarJ P ops μs R (.turn p :: pl) (⟨dst, .store t x y, ty, pz, af, none⟩ :: rest) T H := by
  refine vj_turn (μ := ⟨bb, i, .row cells es true, .row cs' es true⟩) undef [] hμ hi rfl rfl (fun μ _ h => by simp at h; omega) ?_ (by rw [List.append_nil]; exact k)
  rw [List.append_nil]
  exact runs_store ht.ty hx hy hvs hok hn hi ho hcs
end
end Go.Abs
