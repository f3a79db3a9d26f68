
import Derived.RangeFuncRecord
import Derived.OrdersIn
import Derived.Laws.Cells
import Derived.Laws.CopyRow
import Derived.Laws.Rows
import Derived.Laws.Append
import Derived.Laws.AppendOwn
import Derived.Laws.MakeOwn
namespace Go.Abs
open Go
structure Img where
  blk : Nat
  cs : Nat
  es : Nat
  own : Bool
abbrev Ren := Nat → Option Img
def wild : Value := .complex .f32 0 0
inductive VRel (ρ : Ren) : Value → Value → Prop
  | wild (v : Value) : VRel ρ wild v
  | bool (b : Bool) : VRel ρ (.bool b) (.bool b)
  | int (k : IntKind) (n : Int) : VRel ρ (.int k n) (.int k n)
  | string (s : ByteArray) : VRel ρ (.string s) (.string s)
  | nilPtr : VRel ρ (.pointer none) (.pointer none)
  | ptr {i o : Nat} {m : Img} (h : ρ i = some m) : VRel ρ (.pointer (some ⟨i, o, none⟩)) (.pointer (some ⟨m.blk, o, none⟩))
  | nilSlice : VRel ρ (.slice none 0 0) (.slice none 0 0)
  | empty (a : Option Addr) (c : Nat) : VRel ρ (.slice none 0 1) (.slice a 0 c)
  | slice {i o len cap cap' : Nat} {m : Img} (h : ρ i = some m) (hl : len ≤ cap') (ho : m.own = true → o + cap' * m.es = m.cs) :
      VRel ρ (.slice (some ⟨i, o, none⟩) len cap) (.slice (some ⟨m.blk, o, none⟩) len cap')
  | nilMap : VRel ρ (.map none) (.map none)
  | map {i : Nat} {m : Img} (h : ρ i = some m) : VRel ρ (.map (some i)) (.map (some m.blk))
  | func {f : FuncId} {x x' c c' : Array Value} (hx : x.size = x'.size) (hxs : ∀ (j : Nat) (h : j < x.size) (h' : j < x'.size), VRel ρ x[j] x'[j])
      (hc : c.size = c'.size) (hcs : ∀ (j : Nat) (h : j < c.size) (h' : j < c'.size), VRel ρ c[j] c'[j]) : VRel ρ (.func (.func f) x c) (.func (.func f) x' c')
  | yield {i : Nat} {m : Img} (h : ρ i = some m) : VRel ρ (.func (.yield i) #[] #[]) (.func (.yield m.blk) #[] #[])
  | nilFunc : VRel ρ .nilFunc .nilFunc
  | nilIface : VRel ρ .nilIface .nilIface
  | iface {t : TypeId} {v v' : Value} (h : VRel ρ v v') : VRel ρ (.iface t v) (.iface t v')
  | agg {a a' : Array Value} (hs : a.size = a'.size) (h : ∀ (j : Nat) (hj : j < a.size) (hj' : j < a'.size), VRel ρ a[j] a'[j]) : VRel ρ (.agg a) (.agg a')
  | tuple {a a' : Array Value} (hs : a.size = a'.size) (h : ∀ (j : Nat) (hj : j < a.size) (hj' : j < a'.size), VRel ρ a[j] a'[j]) : VRel ρ (.tuple a) (.tuple a')
def Ren.le (ρ ρ' : Ren) : Prop := ∀ i m, ρ i = some m → ρ' i = some m
theorem Ren.le_refl (ρ : Ren) : ρ.le ρ := fun _ _ h => h
theorem Ren.le_trans {a b c : Ren} (h : a.le b) (h' : b.le c) : a.le c := fun i m hi => h' i m (h i m hi)
theorem VRel.mono {ρ ρ' : Ren} (hle : ρ.le ρ') {v v' : Value} (h : VRel ρ v v') : VRel ρ' v v' := by
  induction h with
  | wild v => exact .wild v
  | bool b => exact .bool b
  | int k n => exact .int k n
  | string s => exact .string s
  | nilPtr => exact .nilPtr
  | ptr h => exact .ptr (hle _ _ h)
  | nilSlice => exact .nilSlice
  | empty a c => exact .empty a c
  | slice h hl ho => exact .slice (hle _ _ h) hl ho
  | nilMap => exact .nilMap
  | map h => exact .map (hle _ _ h)
  | func hx _ hc _ ih1 ih2 => exact .func hx ih1 hc ih2
  | yield h => exact .yield (hle _ _ h)
  | nilFunc => exact .nilFunc
  | nilIface => exact .nilIface
  | iface _ ih => exact .iface ih
  | agg hs _ ih => exact .agg hs ih
  | tuple hs _ ih => exact .tuple hs ih
def ARel (ρ : Ren) (a a' : Array Value) : Prop := a.size = a'.size ∧ ∀ (j : Nat) (h : j < a.size) (h' : j < a'.size), VRel ρ a[j] a'[j]
theorem ARel.mono {ρ ρ' : Ren} (hle : ρ.le ρ') {a a' : Array Value} (h : ARel ρ a a') : ARel ρ' a a' := ⟨h.1, fun j h1 h2 => (h.2 j h1 h2).mono hle⟩
theorem undef_rel (ρ : Ren) : VRel ρ undef undef := .tuple rfl (fun _ h => absurd h (Nat.not_lt_zero _))
theorem ARel.getD {ρ : Ren} {a a' : Array Value} (h : ARel ρ a a') (t : Nat) : VRel ρ (a.getD t undef) (a'.getD t undef) := by
  by_cases ht : t < a.size
  · have ht' : t < a'.size := h.1 ▸ ht
    simp only [Array.getD, ht, ht', dif_pos]
    exact h.2 t ht ht'
  · have ht' : ¬ t < a'.size := h.1 ▸ ht
    simp only [Array.getD, ht, ht', dif_neg, not_false_iff]
    exact undef_rel ρ
theorem ARel.set {ρ : Ren} {a a' : Array Value} (h : ARel ρ a a') (t : Nat) {v v' : Value} (hv : VRel ρ v v') : ARel ρ (a.setIfInBounds t v) (a'.setIfInBounds t v') := by
  refine ⟨by simp [h.1], fun j h1 h2 => ?_⟩
  simp only [Array.size_setIfInBounds] at h1 h2
  rw [Array.getElem_setIfInBounds h1, Array.getElem_setIfInBounds h2]
  split
  · exact hv
  · exact h.2 j h1 h2
inductive AObj where
  | row (cells : List Value) (es : Nat) (own : Bool)
  | map (entries : List MapEntry) (clock : Nat)
  | iter (mp : Nat) (clock : Nat) (seen : List Nat)
  | tok (pins : List (Nat × Img))
  | dead
abbrev AHeap := List AObj
def AObj.dead? : AObj → Bool
  | .dead => true
  | _ => false
def ORel (ρ : Ren) (o : AObj) (m : Img) (b : Option Obj) : Prop :=
  match o with
  | .row cells es own => m.es = es ∧ m.own = own ∧ ∃ c e fr, b = some (.cells c e fr) ∧ c.size = m.cs ∧ (own = true → fr = (0, 0)) ∧ cells.length ≤ c.size ∧
      ∀ (j : Nat) (h : j < cells.length) (h' : j < c.size), VRel ρ cells[j] c[j]
  | .map es clock => m.own = true ∧ ∃ es', b = some (.map es' clock) ∧ es.length = es'.size ∧
      ∀ (j : Nat) (h : j < es.length) (h' : j < es'.size), VRel ρ es[j].key es'[j].key ∧ VRel ρ es[j].val es'[j].val ∧ es[j].born = es'[j].born
  | .iter mp clock seen => m.own = true ∧ ∃ mm, ρ mp = some mm ∧ b = some (.mapIter (some mm.blk) clock seen.toArray clock)
  | .tok pins => m.own = false ∧ ∀ p ∈ pins, ρ p.1 = some p.2
  | .dead => True
theorem ORel.mono {ρ ρ' : Ren} (hle : ρ.le ρ') {o : AObj} {m : Img} {b : Option Obj} (h : ORel ρ o m b) : ORel ρ' o m b := by
  cases o with
  | row cells es own =>
    obtain ⟨h1, h2, c, e, fr, hb, h3, h4, h5, h6⟩ := h
    exact ⟨h1, h2, c, e, fr, hb, h3, h4, h5, fun j a b => (h6 j a b).mono hle⟩
  | map es clock =>
    obtain ⟨h1, es', hb, h2, h3⟩ := h
    exact ⟨h1, es', hb, h2, fun j a b => ⟨(h3 j a b).1.mono hle, (h3 j a b).2.1.mono hle, (h3 j a b).2.2⟩⟩
  | iter mp ck sn =>
    obtain ⟨h1, mm, h2, h3⟩ := h
    exact ⟨h1, mm, hle _ _ h2, h3⟩
  | tok _ => exact ⟨h.1, fun p hp => hle _ _ (h.2 p hp)⟩
  | dead => exact h
def LiveOwn (ρ : Ren) (H : AHeap) (b : Nat) : Prop := ∃ i m o, ρ i = some m ∧ H[i]? = some o ∧ o.dead? = false ∧ m.own = true ∧ m.blk = b
structure SRel (ρ : Ren) (H : AHeap) (w : World) : Prop where
  dom : ∀ i m, ρ i = some m → i < H.length ∧ m.blk < w.heap.size
  obj : ∀ i m o, ρ i = some m → H[i]? = some o → ORel ρ o m w.heap[m.blk]?
  inj : ∀ i j m m' o o', ρ i = some m → ρ j = some m' → H[i]? = some o → H[j]? = some o' → o.dead? = false → o'.dead? = false → m.own = true → m.blk = m'.blk → i = j
structure Env (γ : Type) where
  J : γ → (Nat → Prop) → World → Prop
  stable : ∀ g S w w', J g S w → (∀ b, S b → w'.heap[b]? = w.heap[b]?) → w.heap.size ≤ w'.heap.size → w'.os = w.os → w'.tape = w.tape → w'.output = w.output → J g S w'
structure Inv {γ : Type} (E : Env γ) (ρ : Ren) (H : AHeap) (g : γ) (S : Nat → Prop) (w : World) : Prop where
  srel : SRel ρ H w
  j : E.J g S w
  bnd : ∀ b, S b → b < w.heap.size
  disj : ∀ b, S b → ¬ LiveOwn ρ H b
structure Trans (ρ : Ren) (H : AHeap) (S : Nat → Prop) (w : World) (ρ' : Ren) (H' : AHeap) (S' : Nat → Prop) (w' : World) : Prop where
  next : H.length ≤ H'.length
  ext : ∀ i, i < H.length → ρ' i = ρ i
  os : w'.os = w.os
  tape : w'.tape = w.tape
  out : w'.output = w.output
  size : w.heap.size ≤ w'.heap.size
  keep : ∀ b, b < w.heap.size → ¬ S b → ¬ LiveOwn ρ H b → w'.heap[b]? = w.heap[b]?
  fresh : ∀ b, LiveOwn ρ' H' b → w.heap.size ≤ b ∨ LiveOwn ρ H b
  grow : ∀ b, S' b → S b ∨ w.heap.size ≤ b ∨ LiveOwn ρ H b
theorem Trans.refl (ρ : Ren) (H : AHeap) (S : Nat → Prop) (w : World) : Trans ρ H S w ρ H S w :=
  ⟨Nat.le_refl _, fun _ _ => rfl, rfl, rfl, rfl, Nat.le_refl _, fun _ _ _ _ => rfl, fun _ h => .inr h, fun _ h => .inl h⟩
theorem Trans.trans {ρ ρ1 ρ2 : Ren} {H H1 H2 : AHeap} {S S1 S2 : Nat → Prop} {w w1 w2 : World} (h : Trans ρ H S w ρ1 H1 S1 w1) (k : Trans ρ1 H1 S1 w1 ρ2 H2 S2 w2) : Trans ρ H S w ρ2 H2 S2 w2 where
  next := Nat.le_trans h.next k.next
  ext := fun i hi => (k.ext i (Nat.lt_of_lt_of_le hi h.next)).trans (h.ext i hi)
  os := k.os.trans h.os
  tape := k.tape.trans h.tape
  out := k.out.trans h.out
  size := Nat.le_trans h.size k.size
  keep := fun b hb hs hl => (k.keep b (Nat.lt_of_lt_of_le hb h.size)
    (fun h1 => by rcases h.grow b h1 with h2 | h2 | h2; exact hs h2; omega; exact hl h2)
    (fun h1 => by rcases h.fresh b h1 with h2 | h2; omega; exact hl h2)).trans (h.keep b hb hs hl)
  fresh := fun b hb => by
    rcases k.fresh b hb with h1 | h1
    · exact .inl (Nat.le_trans h.size h1)
    · exact h.fresh b h1
  grow := fun b hb => by
    rcases k.grow b hb with h1 | h1 | h1
    · exact h.grow b h1
    · exact .inr (.inl (Nat.le_trans h.size h1))
    · rcases h.fresh b h1 with h2 | h2
      · exact .inr (.inl h2)
      · exact .inr (.inr h2)
theorem Trans.le {ρ ρ' : Ren} {H H' : AHeap} {S S' : Nat → Prop} {w w' : World} (h : Trans ρ H S w ρ' H' S' w') (hs : SRel ρ H w) : ρ.le ρ' :=
  fun i m hi => (h.ext i (hs.dom i m hi).1).trans hi
theorem Inv.step {γ : Type} {E : Env γ} {ρ ρ' : Ren} {H H' : AHeap} {g : γ} {S : Nat → Prop} {w w' : World} (h : Inv E ρ H g S w) (hs : SRel ρ' H' w') (t : Trans ρ H S w ρ' H' S w')
    (hk : ∀ b, S b → w'.heap[b]? = w.heap[b]?) : Inv E ρ' H' g S w' where
  srel := hs
  j := E.stable g S w w' h.j hk t.size t.os t.tape t.out
  bnd := fun b hb => Nat.lt_of_lt_of_le (h.bnd b hb) t.size
  disj := fun b hb hl => by
    rcases t.fresh b hl with h1 | h1
    · have := h.bnd b hb; omega
    · exact h.disj b hb h1
end Go.Abs
namespace Go.Abs
open Go
def Wr (ro : Option Nat) : Fence := { Fence.wide with round := ro }
theorem callsIn_Wr {ro : Option Nat} {n : Nat} {P : Program} {f : FuncId} {args : Array Value} {w : World} {R : Ending → World → Prop} : CallsIn (Wr ro) n P f args w R ↔ Calls P f args w R := by
  rw [← callsIn_wide (n := n)]
  exact Iff.rfl
def RoOk (ro : Option Nat) (S : Nat → Prop) (w : World) : Prop := ∀ l, ro = some l → ¬ S l ∧ ∃ r, w.heap[l]? = some (.loop r)
structure Marks (ds : List Deferred) (Ds : List Nat) (S : Nat → Prop) (w : World) : Prop where
  eq : ds = Ds.map fun D => { target := .collected D, args := #[] }
  nodup : Ds.Nodup
  at_ : ∀ D ∈ Ds, ¬ S D ∧ w.heap[D]? = some (.deferred (some []))
theorem not_liveOwn_of_loop {ρ : Ren} {H : AHeap} {w : World} (hs : SRel ρ H w) {l : Nat} {o : Obj} (hl : w.heap[l]? = some o) (hc : ∀ c e fr, o ≠ .cells c e fr) (hm : ∀ es ck, o ≠ .map es ck) (hit : ∀ a b c d, o ≠ .mapIter a b c d := by intro _ _ _ _ e; cases e) : ¬ LiveOwn ρ H l := by
  rintro ⟨i, m, ob, hi, ho, hd, hown, rfl⟩
  have h := hs.obj i m ob hi ho
  cases ob with
  | row cells es own =>
    obtain ⟨_, _, c, e, fr, hb, _⟩ := h
    rw [hl] at hb; cases hb; exact hc _ _ _ rfl
  | map es ck =>
    obtain ⟨_, es', hb, _⟩ := h
    rw [hl] at hb; cases hb; exact hm _ _ rfl
  | iter mp ck sn =>
    obtain ⟨_, mm, _, hb⟩ := h
    rw [hl] at hb; cases hb; exact hit _ _ _ _ rfl
  | tok _ => have h : m.own = false := h.1; rw [h] at hown; cases hown
  | dead => cases hd
theorem RoOk.trans {ρ ρ' : Ren} {H H' : AHeap} {S S' : Nat → Prop} {w w' : World} {ro : Option Nat} (h : RoOk ro S w) (hs : SRel ρ H w) (t : Trans ρ H S w ρ' H' S' w') : RoOk ro S' w' := by
  intro l hl
  obtain ⟨h1, r, h2⟩ := h l hl
  have hlt : l < w.heap.size := (Array.getElem?_eq_some_iff.1 h2).1
  have hno : ¬ LiveOwn ρ H l := not_liveOwn_of_loop hs h2 (fun _ _ _ e => by cases e) (fun _ _ e => by cases e)
  refine ⟨fun h3 => ?_, r, (t.keep l hlt h1 hno).trans h2⟩
  rcases t.grow l h3 with h4 | h4 | h4
  · exact h1 h4
  · omega
  · exact hno h4
theorem Marks.trans {ρ ρ' : Ren} {H H' : AHeap} {S S' : Nat → Prop} {w w' : World} {ds : List Deferred} {Ds : List Nat} (h : Marks ds Ds S w) (hs : SRel ρ H w) (t : Trans ρ H S w ρ' H' S' w') : Marks ds Ds S' w' := by
  refine ⟨h.eq, h.nodup, fun D hD => ?_⟩
  obtain ⟨h1, h2⟩ := h.at_ D hD
  have hlt : D < w.heap.size := (Array.getElem?_eq_some_iff.1 h2).1
  have hno : ¬ LiveOwn ρ H D := not_liveOwn_of_loop hs h2 (fun _ _ _ e => by cases e) (fun _ _ e => by cases e)
  refine ⟨fun h3 => ?_, (t.keep D hlt h1 hno).trans h2⟩
  rcases t.grow D h3 with h4 | h4 | h4
  · exact h1 h4
  · omega
  · exact hno h4
def TRel (ρ : Ren) (T : List Value) (a : Array Value) : Prop := ARel ρ ⟨T⟩ a
section
variable {γ : Type} (P : Program) (E : Env γ)
def Post (Q : Exit → List Value → AHeap → γ → Prop) (ρ : Ren) (H : AHeap) (S : Nat → Prop) (w : World) (Ds : List Nat) : Exit → Act → World → Prop :=
  fun e ac' w' => ∃ ρ' T' H' g' S' Ds', Inv E ρ' H' g' S' w' ∧ TRel ρ' T' ac'.tmps ∧ Trans ρ H S w ρ' H' S' w' ∧ (Marks ac'.defers Ds' S' w' ∧ ∀ D ∈ Ds', D ∈ Ds ∨ w.heap.size ≤ D) ∧ Q e T' H' g'
def WPJ (c : Code) (Q : Exit → List Value → AHeap → γ → Prop) (T : List Value) (H : AHeap) (g : γ) : Prop :=
  ∀ (ρ : Ren) (w : World) (S : Nat → Prop) (ro : Option Nat) (Ds : List Nat) (ac : Act), Inv E ρ H g S w → TRel ρ T ac.tmps → RoOk ro S w → Marks ac.defers Ds S w →
    c.wpIn (Wr ro) 0 P (Post E Q ρ H S w Ds) ac w
end
section
variable {γ : Type} {P : Program} {E : Env γ} {Q Q' : Exit → List Value → AHeap → γ → Prop} {T : List Value} {H : AHeap} {g : γ}
theorem Post.mono (hq : ∀ e T H g, Q e T H g → Q' e T H g) {ρ : Ren} {S : Nat → Prop} {w : World} {Ds : List Nat} {e : Exit} {ac : Act} {w' : World} (h : Post E Q ρ H S w Ds e ac w') : Post E Q' ρ H S w Ds e ac w' := by
  obtain ⟨ρ', T', H', g', S', Ds', h1, h2, h3, h4, h5⟩ := h
  exact ⟨ρ', T', H', g', S', Ds', h1, h2, h3, h4, hq _ _ _ _ h5⟩
theorem newer {Ds Ds1 Ds2 : List Nat} {w w1 : World} (hs : w.heap.size ≤ w1.heap.size) (h : ∀ D ∈ Ds1, D ∈ Ds ∨ w.heap.size ≤ D) (k : ∀ D ∈ Ds2, D ∈ Ds1 ∨ w1.heap.size ≤ D) : ∀ D ∈ Ds2, D ∈ Ds ∨ w.heap.size ≤ D := fun D hD => by
  rcases k D hD with h1 | h1
  · exact h D h1
  · exact .inr (Nat.le_trans hs h1)
theorem Post.from {ρ ρ1 : Ren} {H1 : AHeap} {S S1 : Nat → Prop} {w w1 : World} (t : Trans ρ H S w ρ1 H1 S1 w1) {Ds Ds1 : List Nat} (hd : ∀ D ∈ Ds1, D ∈ Ds ∨ w.heap.size ≤ D) {e : Exit} {ac : Act} {w' : World} (h : Post E Q ρ1 H1 S1 w1 Ds1 e ac w') : Post E Q ρ H S w Ds e ac w' := by
  obtain ⟨ρ', T', H', g', S', Ds', h1, h2, h3, h4, h5⟩ := h
  exact ⟨ρ', T', H', g', S', Ds', h1, h2, t.trans h3, ⟨h4.1, newer t.size hd h4.2⟩, h5⟩
theorem WPJ.mono {c : Code} (h : WPJ P E c Q T H g) (hq : ∀ e T H g, Q e T H g → Q' e T H g) : WPJ P E c Q' T H g :=
  fun ρ w S ro Ds ac hi ht hr hm => wpIn_mono (h ρ w S ro Ds ac hi ht hr hm) fun _ _ _ hp => hp.mono hq
theorem WPJ.skip (h : Q .normal T H g) : WPJ P E .skip Q T H g :=
  fun ρ _w S _ Ds _ hi ht _ hm => wpIn_skip ⟨ρ, T, H, g, S, Ds, hi, ht, .refl _ _ _ _, ⟨hm, fun _ h => .inl h⟩, h⟩
theorem WPJ.label {l : Nat} (h : Q .normal T H g) : WPJ P E (.label l) Q T H g :=
  fun ρ _w S _ Ds _ hi ht _ hm => wpIn_label ⟨ρ, T, H, g, S, Ds, hi, ht, .refl _ _ _ _, ⟨hm, fun _ h => .inl h⟩, h⟩
theorem WPJ.exit {id : Nat} (h : Q (.exit id) T H g) : WPJ P E (.exit id) Q T H g :=
  fun ρ _w S _ Ds _ hi ht _ hm => wpIn_exit ⟨ρ, T, H, g, S, Ds, hi, ht, .refl _ _ _ _, ⟨hm, fun _ h => .inl h⟩, h⟩
theorem WPJ.ret (h : Q .ret T H g) : WPJ P E .ret Q T H g :=
  fun ρ _w S _ Ds _ hi ht _ hm => wpIn_ret ⟨ρ, T, H, g, S, Ds, hi, ht, .refl _ _ _ _, ⟨hm, fun _ h => .inl h⟩, h⟩
def thenQ (next : List Value → AHeap → γ → Prop) (Q : Exit → List Value → AHeap → γ → Prop) : Exit → List Value → AHeap → γ → Prop
  | .normal, T, H, g => next T H g
  | e, T, H, g => Q e T H g
def blockQ (id : Nat) (Q : Exit → List Value → AHeap → γ → Prop) : Exit → List Value → AHeap → γ → Prop
  | .exit id', T, H, g => if id' = id then Q .normal T H g else Q (.exit id') T H g
  | e, T, H, g => Q e T H g
theorem WPJ.seq {x y : Code} (h : WPJ P E x (thenQ (WPJ P E y Q) Q) T H g) : WPJ P E (.seq x y) Q T H g := by
  intro ρ w S ro Ds ac hi ht hr hm
  refine wpIn_seq (wpIn_mono (h ρ w S ro Ds ac hi ht hr hm) ?_)
  rintro e ac1 w1 ⟨ρ1, T1, H1, g1, S1, Ds1, h1, h2, h3, h4, h5⟩
  cases e with
  | normal =>
    exact wpIn_mono (h5 ρ1 w1 S1 ro Ds1 ac1 h1 h2 (hr.trans hi.srel h3) h4.1) fun _ _ _ hp => hp.from h3 h4.2
  | exit id => exact ⟨ρ1, T1, H1, g1, S1, Ds1, h1, h2, h3, h4, h5⟩
  | goto l => exact ⟨ρ1, T1, H1, g1, S1, Ds1, h1, h2, h3, h4, h5⟩
  | ret => exact ⟨ρ1, T1, H1, g1, S1, Ds1, h1, h2, h3, h4, h5⟩
  | panic ch => exact ⟨ρ1, T1, H1, g1, S1, Ds1, h1, h2, h3, h4, h5⟩
  | outgrown => exact ⟨ρ1, T1, H1, g1, S1, Ds1, h1, h2, h3, h4, h5⟩
def constT : Value → Value
  | .bool b => .bool b
  | .int k n => .int k n
  | .string s => .string s
  | .pointer none => .pointer none
  | .slice none 0 0 => .slice none 0 0
  | .map none => .map none
  | .nilFunc => .nilFunc
  | .nilIface => .nilIface
  | _ => wild
theorem constT_rel (ρ : Ren) (v : Value) : VRel ρ (constT v) v := by
  unfold constT
  split
  · exact .bool _
  · exact .int _ _
  · exact .string _
  · exact .nilPtr
  · exact .nilSlice
  · exact .nilMap
  · exact .nilFunc
  · exact .nilIface
  · exact .wild _
def getT : List Value → Nat → Value
  | [], _ => undef
  | v :: _, 0 => v
  | _ :: l, n + 1 => getT l n
theorem getT_eq : ∀ (T : List Value) (t : Nat), getT T t = (⟨T⟩ : Array Value).getD t undef
  | [], t => by simp [getT, Array.getD]
  | v :: l, 0 => by simp [getT, Array.getD]
  | v :: l, t + 1 => by
    rw [getT, getT_eq l t]
    simp [Array.getD]
def evalT (T : List Value) : Operand → Value
  | .tmp t => getT T t
  | .const v => constT v
  | .global _ => wild
  | .func f => .func (.func f) #[] #[]
theorem TRel.getD {ρ : Ren} {T : List Value} {a : Array Value} (h : TRel ρ T a) (t : Nat) : VRel ρ (getT T t) (a.getD t undef) := by
  rw [getT_eq]; exact ARel.getD h t
theorem TRel.mono {ρ ρ' : Ren} (hle : ρ.le ρ') {T : List Value} {a : Array Value} (h : TRel ρ T a) : TRel ρ' T a := ARel.mono hle h
theorem TRel.eval {ρ : Ren} {T : List Value} {ac : Act} (h : TRel ρ T ac.tmps) (x : Operand) : VRel ρ (evalT T x) (ac.eval x) := by
  cases x with
  | tmp t => exact h.getD t
  | const v => exact constT_rel ρ v
  | global i => exact .wild _
  | func f => exact .func rfl (fun _ h => absurd h (Nat.not_lt_zero _)) rfl (fun _ h => absurd h (Nat.not_lt_zero _))
theorem WPJ.cond {c : Operand} {x y : Code} {b : Bool} (hc : evalT T c = .bool b) (hx : b = true → WPJ P E x Q T H g) (hy : b = false → WPJ P E y Q T H g) : WPJ P E (.cond c x y) Q T H g := by
  intro ρ w S ro Ds ac hi ht hr hm
  have hv : ac.eval c = .bool b := by
    have h := ht.eval c
    rw [hc] at h
    generalize ac.eval c = v at h
    cases h; rfl
  cases b with
  | true => exact wpIn_cond hv (hx rfl ρ w S ro Ds ac hi ht hr hm)
  | false => exact wpIn_cond hv (hy rfl ρ w S ro Ds ac hi ht hr hm)
theorem WPJ.block {id : Nat} {c : Code} (h : WPJ P E c (blockQ id Q) T H g) : WPJ P E (.block id c) Q T H g := by
  intro ρ w S ro Ds ac hi ht hr hm
  refine wpIn_block (wpIn_mono (h ρ w S ro Ds ac hi ht hr hm) ?_)
  rintro e ac1 w1 ⟨ρ1, T1, H1, g1, S1, Ds1, h1, h2, h3, h4, h5⟩
  cases e with
  | exit id' =>
    simp only [Exit.inBlock]
    simp only [blockQ] at h5
    split
    · rename_i he; rw [if_pos he] at h5; exact ⟨ρ1, T1, H1, g1, S1, Ds1, h1, h2, h3, h4, h5⟩
    · rename_i he; rw [if_neg he] at h5; exact ⟨ρ1, T1, H1, g1, S1, Ds1, h1, h2, h3, h4, h5⟩
  | normal => exact ⟨ρ1, T1, H1, g1, S1, Ds1, h1, h2, h3, h4, h5⟩
  | goto l => exact ⟨ρ1, T1, H1, g1, S1, Ds1, h1, h2, h3, h4, h5⟩
  | ret => exact ⟨ρ1, T1, H1, g1, S1, Ds1, h1, h2, h3, h4, h5⟩
  | panic ch => exact ⟨ρ1, T1, H1, g1, S1, Ds1, h1, h2, h3, h4, h5⟩
  | outgrown => exact ⟨ρ1, T1, H1, g1, S1, Ds1, h1, h2, h3, h4, h5⟩
theorem exists_min (p : Nat → Prop) (h : ∃ n, p n) : ∃ n, p n ∧ ∀ m, p m → n ≤ m := by
  obtain ⟨n, hn⟩ := h
  induction n using Nat.strongRecOn with
  | _ n ih =>
    by_cases hs : ∃ m, m < n ∧ p m
    · obtain ⟨m, hm, hp⟩ := hs; exact ih m hm hp
    · exact ⟨n, hn, fun m hp => Nat.le_of_not_lt fun hlt => hs ⟨m, hlt, hp⟩⟩
theorem WPJ.loop {c : Code} (I : List Value → AHeap → γ → Prop) (μ : List Value → AHeap → γ → Nat) (h0 : I T H g)
    (round : ∀ T1 H1 g1, I T1 H1 g1 → H.length ≤ H1.length → WPJ P E c (thenQ (fun T2 H2 g2 => I T2 H2 g2 ∧ μ T2 H2 g2 < μ T1 H1 g1) Q) T1 H1 g1) : WPJ P E (.loop c) Q T H g := by
  intro ρ w S ro Ds ac hi ht hr hm
  let St : Act → World → Nat → Prop := fun a1 w1 n => ∃ ρ1 T1 H1 g1 S1 Ds1, Inv E ρ1 H1 g1 S1 w1 ∧ TRel ρ1 T1 a1.tmps ∧ Trans ρ H S w ρ1 H1 S1 w1 ∧ (Marks a1.defers Ds1 S1 w1 ∧ ∀ D ∈ Ds1, D ∈ Ds ∨ w.heap.size ≤ D) ∧ I T1 H1 g1 ∧ μ T1 H1 g1 = n
  classical
  let M : Act → World → Nat := fun a1 w1 => if h : ∃ n, St a1 w1 n then Classical.choose (exists_min _ h) else 0
  have hM : ∀ a1 w1, (∃ n, St a1 w1 n) → St a1 w1 (M a1 w1) ∧ ∀ m, St a1 w1 m → M a1 w1 ≤ m := by
    intro a1 w1 h
    simp only [M, dif_pos h]
    exact Classical.choose_spec (exists_min _ h)
  refine wpIn_loop (fun a1 w1 => ∃ n, St a1 w1 n) M ⟨_, ρ, T, H, g, S, Ds, hi, ht, .refl _ _ _ _, ⟨hm, fun _ h => .inl h⟩, h0, rfl⟩ ?_
  intro a1 w1 hst
  obtain ⟨⟨ρ1, T1, H1, g1, S1, Ds1, h1, h2, h3, h4, h5, h6⟩, _⟩ := hM a1 w1 hst
  refine wpIn_mono (round T1 H1 g1 h5 h3.next ρ1 w1 S1 ro Ds1 a1 h1 h2 (hr.trans hi.srel h3) h4.1) ?_
  rintro e a2 w2 ⟨ρ2, T2, H2, g2, S2, Ds2, k1, k2, k3, k4, k5⟩
  cases e with
  | normal =>
    obtain ⟨k5, k6⟩ := k5
    have hs2 : St a2 w2 (μ T2 H2 g2) := ⟨ρ2, T2, H2, g2, S2, Ds2, k1, k2, h3.trans k3, ⟨k4.1, newer h3.size h4.2 k4.2⟩, k5, rfl⟩
    exact ⟨⟨_, hs2⟩, by have := (hM a2 w2 ⟨_, hs2⟩).2 _ hs2; omega⟩
  | exit id => exact ⟨ρ2, T2, H2, g2, S2, Ds2, k1, k2, h3.trans k3, ⟨k4.1, newer h3.size h4.2 k4.2⟩, k5⟩
  | goto l => exact ⟨ρ2, T2, H2, g2, S2, Ds2, k1, k2, h3.trans k3, ⟨k4.1, newer h3.size h4.2 k4.2⟩, k5⟩
  | ret => exact ⟨ρ2, T2, H2, g2, S2, Ds2, k1, k2, h3.trans k3, ⟨k4.1, newer h3.size h4.2 k4.2⟩, k5⟩
  | panic ch => exact ⟨ρ2, T2, H2, g2, S2, Ds2, k1, k2, h3.trans k3, ⟨k4.1, newer h3.size h4.2 k4.2⟩, k5⟩
  | outgrown => exact ⟨ρ2, T2, H2, g2, S2, Ds2, k1, k2, h3.trans k3, ⟨k4.1, newer h3.size h4.2 k4.2⟩, k5⟩
inductive Weak : List Value → List Value → Prop
  | nil : Weak [] []
  | same {v : Value} {a b : List Value} (h : Weak a b) : Weak (v :: a) (v :: b)
  | wild {v : Value} {a b : List Value} (h : Weak a b) : Weak (v :: a) (wild :: b)
theorem Weak.spec {a b : List Value} (h : Weak a b) : b.length = a.length ∧ ∀ (j : Nat) (h1 : j < a.length) (h2 : j < b.length), b[j] = a[j] ∨ b[j] = Go.Abs.wild := by
  induction h with
  | nil => exact ⟨rfl, fun j h => absurd h (Nat.not_lt_zero _)⟩
  | same _ ih =>
    refine ⟨by simp [ih.1], fun j h1 h2 => ?_⟩
    cases j with
    | zero => exact .inl rfl
    | succ j => exact ih.2 j (by simpa using h1) (by simpa using h2)
  | wild _ ih =>
    refine ⟨by simp [ih.1], fun j h1 h2 => ?_⟩
    cases j with
    | zero => exact .inr rfl
    | succ j => exact ih.2 j (by simpa using h1) (by simpa using h2)
theorem Weak.refl : ∀ (a : List Value), Weak a a
  | [] => .nil
  | _ :: a => .same (Weak.refl a)
theorem TRel.weak {ρ : Ren} {a b : List Value} (h : Weak a b) {c : Array Value} (hr : TRel ρ a c) : TRel ρ b c := by
  obtain ⟨h1, h2⟩ := h.spec
  refine ⟨by have := hr.1; simp at this ⊢; omega, fun j hj hj' => ?_⟩
  have hja : j < a.length := by simp at hj; omega
  have hr2 := hr.2 j (by simpa using hja) hj'
  simp only [List.size_toArray, List.getElem_toArray] at hj hr2 ⊢
  rcases h2 j hja hj with h3 | h3
  · rw [h3]; exact hr2
  · rw [h3]; exact .wild _
theorem WPJ.weak {c : Code} {a b : List Value} (hw : Weak a b) (h : WPJ P E c Q b H g) : WPJ P E c Q a H g :=
  fun ρ w S ro Ds ac hi ht hr hm => h ρ w S ro Ds ac hi (ht.weak hw) hr hm
end
end Go.Abs
namespace Go.Abs
open Go
structure Step (ρ : Ren) (H : AHeap) (w : World) (ρ' : Ren) (H' : AHeap) (w' : World) : Prop where
  next : H.length ≤ H'.length
  ext : ∀ i, i < H.length → ρ' i = ρ i
  os : w'.os = w.os
  tape : w'.tape = w.tape
  out : w'.output = w.output
  size : w.heap.size ≤ w'.heap.size
  keep : ∀ b, b < w.heap.size → ¬ LiveOwn ρ H b → w'.heap[b]? = w.heap[b]?
  fresh : ∀ b, LiveOwn ρ' H' b → w.heap.size ≤ b ∨ LiveOwn ρ H b
theorem Step.refl (ρ : Ren) (H : AHeap) (w : World) : Step ρ H w ρ H w :=
  ⟨Nat.le_refl _, fun _ _ => rfl, rfl, rfl, rfl, Nat.le_refl _, fun _ _ _ => rfl, fun _ h => .inr h⟩
theorem Step.trans {ρ ρ1 ρ2 : Ren} {H H1 H2 : AHeap} {w w1 w2 : World} (h : Step ρ H w ρ1 H1 w1) (k : Step ρ1 H1 w1 ρ2 H2 w2) : Step ρ H w ρ2 H2 w2 where
  next := Nat.le_trans h.next k.next
  ext := fun i hi => (k.ext i (Nat.lt_of_lt_of_le hi h.next)).trans (h.ext i hi)
  os := k.os.trans h.os
  tape := k.tape.trans h.tape
  out := k.out.trans h.out
  size := Nat.le_trans h.size k.size
  keep := fun b hb hl => (k.keep b (Nat.lt_of_lt_of_le hb h.size) (fun h1 => by rcases h.fresh b h1 with h2 | h2; omega; exact hl h2)).trans (h.keep b hb hl)
  fresh := fun b hb => by
    rcases k.fresh b hb with h1 | h1
    · exact .inl (Nat.le_trans h.size h1)
    · exact h.fresh b h1
theorem Step.trans' {ρ ρ' : Ren} {H H' : AHeap} {w w' : World} (h : Step ρ H w ρ' H' w') (S : Nat → Prop) : Trans ρ H S w ρ' H' S w' :=
  ⟨h.next, h.ext, h.os, h.tape, h.out, h.size, fun b hb _ hl => h.keep b hb hl, h.fresh, fun _b hb => .inl hb⟩
theorem Inv.plain {γ : Type} {E : Env γ} {ρ ρ' : Ren} {H H' : AHeap} {g : γ} {S : Nat → Prop} {w w' : World} (h : Inv E ρ H g S w) (hs : SRel ρ' H' w') (t : Step ρ H w ρ' H' w') : Inv E ρ' H' g S w' :=
  h.step hs (t.trans' S) fun b hb => t.keep b (h.bnd b hb) (h.disj b hb)
theorem SRel.drew {ρ : Ren} {H : AHeap} {w : World} (h : SRel ρ H w) : SRel ρ H w.drew := ⟨h.dom, h.obj, h.inj⟩
theorem Step.drew (ρ : Ren) (H : AHeap) (w : World) : Step ρ H w ρ H w.drew :=
  ⟨Nat.le_refl _, fun _ _ => rfl, rfl, rfl, rfl, Nat.le_refl _, fun _ _ _ => rfl, fun _ h => .inr h⟩
def Ren.add (ρ : Ren) (i : Nat) (m : Img) : Ren := fun j => if j = i then some m else ρ j
theorem Ren.add_same (ρ : Ren) (i : Nat) (m : Img) : ρ.add i m i = some m := by simp [Ren.add]
theorem Ren.add_le {ρ : Ren} {H : AHeap} {w : World} (h : SRel ρ H w) (m : Img) : ρ.le (ρ.add H.length m) := fun i m' hi => by
  have := (h.dom i m' hi).1
  simp only [Ren.add, if_neg (show i ≠ H.length by omega), hi]
theorem heap_alloc_lt (w : World) (o : Obj) {k : Nat} (h : k < w.heap.size) : (w.alloc o).heap[k]? = w.heap[k]? := by
  show (w.heap.push o)[k]? = _
  rw [Array.getElem?_push, if_neg (by omega)]
theorem heap_alloc_new (w : World) (o : Obj) : (w.alloc o).heap[w.heap.size]? = some o := by
  show (w.heap.push o)[w.heap.size]? = some o
  simp
theorem SRel.alloc {ρ : Ren} {H : AHeap} {w : World} (h : SRel ρ H w) (o : AObj) (ob : Obj) (m : Img) (hb : m.blk = w.heap.size) (hor : ORel ρ o m (some ob)) :
    SRel (ρ.add H.length m) (H ++ [o]) (w.alloc ob) ∧ Step ρ H w (ρ.add H.length m) (H ++ [o]) (w.alloc ob) := by
  have hle := Ren.add_le h m
  have hget : ∀ i, i < H.length → (H ++ [o])[i]? = H[i]? := fun i hi => List.getElem?_append_left hi
  have hnew : (H ++ [o])[H.length]? = some o := by simp
  have hold : ∀ {i m'}, (ρ.add H.length m) i = some m' → i ≠ H.length → ρ i = some m' := fun {i m'} hi hne => by simpa only [Ren.add, if_neg hne] using hi
  have hnm : ∀ {m'}, (ρ.add H.length m) H.length = some m' → m' = m := fun {m'} hi => by simp [Ren.add] at hi; exact hi.symm
  refine ⟨⟨fun i m' hi => ?_, fun i m' o' hi ho => ?_, fun i j m1 m2 o1 o2 hi hj ho1 ho2 hd1 hd2 hown hbb => ?_⟩,
    ⟨by simp, fun i hi => by simp only [Ren.add, if_neg (show i ≠ H.length by omega)], rfl, rfl, rfl, by simp, fun b hb' _ => heap_alloc_lt w ob hb', fun b hb' => ?_⟩⟩
  · by_cases e : i = H.length
    · subst e; rw [hnm hi]; simp [hb]
    · obtain ⟨h1, h2⟩ := h.dom i m' (hold hi e)
      exact ⟨by simp; omega, by simp; omega⟩
  · by_cases e : i = H.length
    · subst e
      rw [hnew] at ho; cases ho
      rw [hnm hi, hb, heap_alloc_new]
      exact hor.mono hle
    · have hi' := hold hi e
      obtain ⟨h1, h2⟩ := h.dom i m' hi'
      rw [hget i h1] at ho
      rw [heap_alloc_lt w ob h2]
      exact (h.obj i m' o' hi' ho).mono hle
  · by_cases e1 : i = H.length
    · by_cases e2 : j = H.length
      · rw [e1, e2]
      · subst e1
        have := (h.dom j m2 (hold hj e2)).2
        rw [hnm hi, hb] at hbb; omega
    · by_cases e2 : j = H.length
      · subst e2
        have := (h.dom i m1 (hold hi e1)).2
        rw [hnm hj, hb] at hbb; omega
      · have hi' := hold hi e1
        have hj' := hold hj e2
        rw [hget i (h.dom i m1 hi').1] at ho1
        rw [hget j (h.dom j m2 hj').1] at ho2
        exact h.inj i j m1 m2 o1 o2 hi' hj' ho1 ho2 hd1 hd2 hown hbb
  · obtain ⟨i, m', o', hi, ho, hd, hown, rfl⟩ := hb'
    by_cases e : i = H.length
    · subst e; rw [hnm hi]; exact .inl (by omega)
    · have hi' := hold hi e
      rw [hget i (h.dom i m' hi').1] at ho
      exact .inr ⟨i, m', o', hi', ho, hd, hown, rfl⟩
theorem SRel.turn {ρ : Ren} {H : AHeap} {w w' : World} (h : SRel ρ H w) {i : Nat} {m : Img} {o : AObj} (o' : AObj) (hi : ρ i = some m) (ho : H[i]? = some o) (hd : o.dead? = false) (hown : m.own = true)
    (hsame : ∀ b, b ≠ m.blk → w'.heap[b]? = w.heap[b]?) (hsize : w'.heap.size = w.heap.size) (hos : w'.os = w.os) (htape : w'.tape = w.tape) (hout : w'.output = w.output)
    (hor : ORel ρ o' m w'.heap[m.blk]?) : SRel ρ (H.set i o') w' ∧ Step ρ H w ρ (H.set i o') w' := by
  have hlt : i < H.length := (h.dom i m hi).1
  have hget : ∀ j, j ≠ i → (H.set i o')[j]? = H[j]? := fun j hj => List.getElem?_set_ne (Ne.symm hj)
  have hnew : (H.set i o')[i]? = some o' := List.getElem?_set_self hlt
  refine ⟨⟨fun j mj hj => ?_, fun j mj oj hj hoj => ?_, fun j k mj mk oj ok hj hk hoj hok hdj hdk howj hbb => ?_⟩, ⟨by simp, fun _ _ => rfl, hos, htape, hout, by omega, fun b hb hl => ?_, fun b hb => ?_⟩⟩
  · obtain ⟨h1, h2⟩ := h.dom j mj hj
    exact ⟨by simpa using h1, by omega⟩
  · by_cases e : j = i
    · subst e
      rw [hnew] at hoj; cases hoj
      rw [hi] at hj; cases hj
      exact hor
    · rw [hget j e] at hoj
      by_cases hb : mj.blk = m.blk
      · cases hdj : oj.dead? with
        | true => cases oj <;> simp [AObj.dead?] at hdj; exact trivial
        | false => exact absurd (h.inj i j m mj o oj hi hj ho hoj hd hdj hown hb.symm).symm e
      · rw [hsame _ hb]; exact h.obj j mj oj hj hoj
  · have live : ∀ {k mk ok}, ρ k = some mk → (H.set i o')[k]? = some ok → ok.dead? = false → ∃ ok', H[k]? = some ok' ∧ ok'.dead? = false := fun {k mk ok} hk hok hdk => by
      by_cases e : k = i
      · subst e; exact ⟨o, ho, hd⟩
      · rw [hget k e] at hok; exact ⟨ok, hok, hdk⟩
    obtain ⟨oj', h1, h2⟩ := live hj hoj hdj
    obtain ⟨ok', h3, h4⟩ := live hk hok hdk
    exact h.inj j k mj mk oj' ok' hj hk h1 h3 h2 h4 howj hbb
  · refine hsame b fun e => hl ⟨i, m, o, hi, ho, hd, hown, e.symm⟩
  · obtain ⟨j, mj, oj, hj, hoj, hdj, howj, rfl⟩ := hb
    refine .inr ?_
    by_cases e : j = i
    · subst e; rw [hi] at hj; cases hj; exact ⟨j, m, o, hi, ho, hd, hown, rfl⟩
    · rw [hget j e] at hoj; exact ⟨j, mj, oj, hj, hoj, hdj, howj, rfl⟩
structure OpRel (ρ : Ren) (T : List Value) (ac : Act) (o : Op) : Prop where
  rel : ∀ x ∈ o.operands.toList, VRel ρ (evalT T x) (ac.eval x)
theorem OpRel.eval {ρ : Ren} {T : List Value} {ac : Act} {o : Op} (h : OpRel ρ T ac o) (x : Operand) (hx : x ∈ o.operands.toList := by simp [Op.operands, Call.operands]) : VRel ρ (evalT T x) (ac.eval x) := h.rel x hx
theorem TRel.op {ρ : Ren} {T : List Value} {ac : Act} (h : TRel ρ T ac.tmps) (o : Op) : OpRel ρ T ac o := ⟨fun x _ => h.eval x⟩
section
variable {γ : Type} (P : Program) (E : Env γ)
def OpJ (o : Oper) (K : Value → AHeap → γ → Prop) (T : List Value) (H : AHeap) (g : γ) : Prop :=
  ∀ (ρ : Ren) (w : World) (S : Nat → Prop) (ro : Option Nat) (Ds : List Nat) (ac : Act) (Q : Exit → Act → World → Prop), Inv E ρ H g S w → OpRel ρ T ac o.op → RoOk ro S w → Marks ac.defers Ds S w →
    o.uponIn (Wr ro) 0 P ac (fun ac' w' => ∃ ρ' v v' H' g' S', ac' = ac.put o.dst v' ∧ VRel ρ' v v' ∧ Inv E ρ' H' g' S' w' ∧ Trans ρ H S w ρ' H' S' w' ∧ K v H' g') Q ((o.semAt ro ac.eval).run P w)
def Runs (o : Oper) (v : Value) (H' : AHeap) (T : List Value) (H : AHeap) : Prop :=
  ∀ (ρ : Ren) (w : World) (ac : Act), SRel ρ H w → OpRel ρ T ac o.op → ∃ v' w' ρ', ((execOp ac.eval o).run P w = .ok (.value v') w' ∨ ((execOp ac.eval o).run P w = .ok .skip w' ∧ v' = undef)) ∧
    VRel ρ' v v' ∧ SRel ρ' H' w' ∧ Step ρ H w ρ' H' w'
end
section
variable {γ : Type} {P : Program} {E : Env γ} {T : List Value} {H H' : AHeap} {g : γ}
theorem OpJ.of_runs {o : Oper} {v : Value} {K : Value → AHeap → γ → Prop} (h : Runs P o v H' T H) (hd : ∀ c, o.op ≠ .defer c) (hk : K v H' g) : OpJ P E o K T H g := by
  intro ρ w S ro Ds ac Q hi ht hr hm
  obtain ⟨v', w', ρ', hrun, hv, hs, st⟩ := h ρ w ac hi.srel ht
  rw [Oper.semAt_eq ro ac.eval o hd]
  rcases hrun with hrun | ⟨hrun, rfl⟩
  · rw [hrun]; exact ⟨ρ', v, v', H', g, S, rfl, hv, hi.plain hs st, st.trans' S, hk⟩
  · rw [hrun]; exact ⟨ρ', v, undef, H', g, S, rfl, hv, hi.plain hs st, st.trans' S, hk⟩
theorem OpJ.mono {o : Oper} {K K' : Value → AHeap → γ → Prop} (h : OpJ P E o K T H g) (hk : ∀ v H g, K v H g → K' v H g) : OpJ P E o K' T H g := by
  intro ρ w S ro Ds ac Q hi ht hr hm
  have hh := h ρ w S ro Ds ac Q hi ht hr hm
  have key : ∀ ac' w', (∃ ρ' v v' H' g' S', ac' = ac.put o.dst v' ∧ VRel ρ' v v' ∧ Inv E ρ' H' g' S' w' ∧ Trans ρ H S w ρ' H' S' w' ∧ K v H' g') →
      (∃ ρ' v v' H' g' S', ac' = ac.put o.dst v' ∧ VRel ρ' v v' ∧ Inv E ρ' H' g' S' w' ∧ Trans ρ H S w ρ' H' S' w' ∧ K' v H' g') := by
    rintro ac' w' ⟨ρ', v, v', H', g', S', h1, h2, h3, h4, h5⟩
    exact ⟨ρ', v, v', H', g', S', h1, h2, h3, h4, hk _ _ _ h5⟩
  have := Oper.wpIn_mono (F := Wr ro) (n := 0) (P := P) (Q := Q) (o := o) (a := ac) (w := w) key ⟨fun _ _ => trivial, hh⟩
  exact this.2
def putT (T : List Value) (dst : Option Tmp) (v : Value) : List Value :=
  match dst with
  | some d => T.set d v
  | none => T
theorem TRel.put {ρ : Ren} {ac : Act} (h : TRel ρ T ac.tmps) (dst : Option Tmp) {v v' : Value} (hv : VRel ρ v v') : TRel ρ (putT T dst v) (ac.put dst v').tmps := by
  cases dst with
  | none => exact h
  | some d =>
    have := ARel.set h d hv
    simpa [TRel, putT, Act.put] using this
theorem put_defers (ac : Act) (dst : Option Tmp) (v : Value) : (ac.put dst v).defers = ac.defers := by cases dst <;> rfl
def guardAt (ops : Array Oper) (T : List Value) (j : Nat) : Option (Option Bool) :=
  match ((ops[j]?).bind (·.dst)).bind (T[·]?) with
  | some (.bool b) => some (some b)
  | some (.tuple _) => some none
  | _ => none
theorem guardAt_spec {ops : Array Oper} {j : Nat} {ρ : Ren} {ac : Act} {x : Option Bool} (h : TRel ρ T ac.tmps) (hg : guardAt ops T j = some x) : yielded ops ac.tmps j = x := by
  unfold guardAt at hg
  unfold yielded
  cases hd : (ops[j]?).bind (·.dst) with
  | none => rw [hd] at hg; simp at hg
  | some d =>
    rw [hd] at hg
    simp only [Option.bind_some] at hg ⊢
    cases hT : T[d]? with
    | none => rw [hT] at hg; simp at hg
    | some v =>
      rw [hT] at hg
      obtain ⟨hlt, hv⟩ := List.getElem?_eq_some_iff.1 hT
      have h1 : T.length = ac.tmps.size := by simpa using h.1
      have hlt' : d < ac.tmps.size := by rw [← h1]; exact hlt
      have hr := h.2 d (by simpa using hlt) hlt'
      simp only [List.getElem_toArray] at hr
      rw [hv] at hr
      rw [Array.getElem?_eq_getElem hlt']
      split at hg
      · rename_i b hb
        simp only [Option.some.injEq] at hb hg
        rw [hb] at hr
        generalize ac.tmps[d] = u at hr
        cases hr; exact hg
      · rename_i hb
        simp only [Option.some.injEq] at hb hg
        rw [hb] at hr
        generalize ac.tmps[d] = u at hr
        cases hr
        exact hg
      · cases hg
def OpsJ (P : Program) {γ : Type} (E : Env γ) (ops : Array Oper) (Q : List Value → AHeap → γ → Prop) : List Oper → List Value → AHeap → γ → Prop
  | [], T, H, g => Q T H g
  | o :: rest, T, H, g =>
    match o.guard with
    | none => OpJ P E o (fun v H' g' => OpsJ P E ops Q rest (putT T o.dst v) H' g') T H g
    | some (j, b) => ∃ x, guardAt ops T j = some x ∧ (x = some b → OpJ P E o (fun v H' g' => OpsJ P E ops Q rest (putT T o.dst v) H' g') T H g) ∧ (x ≠ some b → OpsJ P E ops Q rest (putT T o.dst undef) H g)
theorem OpsJ.sound {ops : Array Oper} {Q : Exit → List Value → AHeap → γ → Prop} : ∀ (k : Nat) (l : List Oper), (∀ j, l[j]? = ops[k + j]?) → ∀ (T : List Value) (H : AHeap) (g : γ), OpsJ P E ops (Q .normal) l T H g →
    ∀ (ρ : Ren) (w : World) (S : Nat → Prop) (ro : Option Nat) (Ds : List Nat) (ac : Act), Inv E ρ H g S w → TRel ρ T ac.tmps → RoOk ro S w → Marks ac.defers Ds S w →
    wpOpsIn (Wr ro) 0 P ops (Post E Q ρ H S w Ds) ((List.range l.length).map (k + ·)) ac w
  | k, [], _, T, H, g, h, ρ, w, S, ro, Ds, ac, hi, ht, _, hm => ⟨ρ, T, H, g, S, Ds, hi, ht, .refl _ _ _ _, ⟨hm, fun _ h => .inl h⟩, h⟩
  | k, o :: l, hl, T, H, g, h, ρ, w, S, ro, Ds, ac, hi, ht, hr, hm => by
    have h0 : ops[k]? = some o := by simpa using (hl 0).symm
    have hl' : ∀ j, l[j]? = ops[k + 1 + j]? := fun j => by have := hl (j + 1); simpa [Nat.add_assoc, Nat.add_comm 1 j] using this
    have hlist : ((List.range (o :: l).length).map (k + ·)) = k :: ((List.range l.length).map (k + 1 + ·)) := by
      simp only [List.length_cons, List.range_succ_eq_map, List.map_cons, Nat.add_zero, List.map_map]
      congr 1
      apply List.map_congr_left
      intro j _
      simp [Nat.add_assoc, Nat.add_comm 1 j]
    rw [hlist]
    simp only [wpOpsIn, h0]
    have runOp : OpJ P E o (fun v H' g' => OpsJ P E ops (Q .normal) l (putT T o.dst v) H' g') T H g →
        o.wpIn (Wr ro) 0 P ac w (wpOpsIn (Wr ro) 0 P ops (Post E Q ρ H S w Ds) ((List.range l.length).map (k + 1 + ·))) (Post E Q ρ H S w Ds) := by
      intro hop
      refine Oper.wpIn_mono ?_ ⟨fun _ _ => trivial, hop ρ w S ro Ds ac (Post E Q ρ H S w Ds) hi (ht.op _) hr hm⟩
      rintro ac' w' ⟨ρ', v, v', H', g', S', rfl, hv, hi', tr, hk⟩
      have ht' : TRel ρ' (putT T o.dst v) (ac.put o.dst v').tmps := (ht.mono (tr.le hi.srel)).put o.dst hv
      have hm' : Marks (ac.put o.dst v').defers Ds S' w' := by rw [put_defers]; exact hm.trans hi.srel tr
      have := OpsJ.sound (k + 1) l hl' _ _ _ hk ρ' w' S' ro Ds _ hi' ht' (hr.trans hi.srel tr) hm'
      have mono : ∀ e a w2, Post E Q ρ' H' S' w' Ds e a w2 → Post E Q ρ H S w Ds e a w2 := fun e a w2 hp => hp.from tr (fun _ h => .inl h)
      exact wpOpsIn_mono' mono _ _ _ this
    cases hg : o.guard with
    | none =>
      have hw : Region.wanted o (yielded ops ac.tmps) = true := by simp [Region.wanted, hg]
      simp only [OpsJ, hg] at h
      simp only [hw, if_true]
      exact runOp h
    | some jb =>
      obtain ⟨j, b⟩ := jb
      simp only [OpsJ, hg] at h
      obtain ⟨x, hx, h1, h2⟩ := h
      have hy := guardAt_spec ht hx
      by_cases hxb : x = some b
      · have hw : Region.wanted o (yielded ops ac.tmps) = true := by simp [Region.wanted, hg, hy, hxb]
        simp only [hw, if_true]
        exact runOp (h1 hxb)
      · have hw : Region.wanted o (yielded ops ac.tmps) = false := by simp [Region.wanted, hg, hy, hxb]
        simp only [hw, Bool.false_eq_true, if_false]
        refine ⟨fun _ _ => trivial, ?_⟩
        exact OpsJ.sound (k + 1) l hl' _ _ _ (h2 hxb) ρ w S ro Ds _ hi (ht.put o.dst (undef_rel ρ)) hr (by rw [put_defers]; exact hm)
  where
  wpOpsIn_mono' {F : Fence} {n : Nat} {ops : Array Oper} {R R' : Exit → Act → World → Prop} (h : ∀ e a w, R e a w → R' e a w) : ∀ (l : List Nat) (a : Act) (w : World), wpOpsIn F n P ops R l a w → wpOpsIn F n P ops R' l a w
    | [], a, w, hh => h _ _ _ hh
    | i :: rest, a, w, hh => by
      rw [wpOpsIn_cons] at hh ⊢
      have step := wpOpIn_mono (Q := R) (ops := ops) (i := i) (a := a) (w := w) (fun a w => wpOpsIn_mono' h rest a w) hh
      exact wpOpIn_monoQ h step
  wpOpIn_monoQ {F : Fence} {n : Nat} {ops : Array Oper} {R R' : Exit → Act → World → Prop} (h : ∀ e a w, R e a w → R' e a w) {i : Nat} {K : Act → World → Prop} {a : Act} {w : World} (hh : wpOpIn F n P ops R i K a w) : wpOpIn F n P ops R' i K a w := by
    unfold wpOpIn at *
    cases ho : ops[i]? with
    | none => simp only [ho] at hh ⊢; exact hh
    | some o =>
      simp only [ho] at hh ⊢
      split
      · rename_i hw
        rw [if_pos hw] at hh
        refine ⟨hh.1, ?_⟩
        have hh := hh.2
        generalize (o.semAt F.round a.eval).run P w = r at *
        have lets : LetsOut R → LetsOut R' := fun ⟨a, w, hq⟩ => ⟨a, w, h _ _ _ hq⟩
        cases r with
        | ok x w' =>
          cases x <;> simp only [Oper.uponIn] at hh ⊢ <;>
            first
              | exact hh
              | exact ⟨hh.1, CallsIn.mono hh.2 (fun e w'' he => by cases e <;> first | exact he | exact h _ _ _ he | exact lets he)⟩
              | exact ⟨hh.1, RoundIn.mono hh.2 (fun e w'' he => by cases e <;> first | exact he | exact h _ _ _ he | exact lets he)⟩
        | halt x w' => cases x <;> simp only [Oper.uponIn] at hh ⊢ <;> first | exact hh | exact h _ _ _ hh
      · rename_i hw
        rw [if_neg hw] at hh
        exact hh
theorem WPJ.region {id : Nat} {ops : Array Oper} {Q : Exit → List Value → AHeap → γ → Prop} (h : OpsJ P E ops (Q .normal) ops.toList T H g) : WPJ P E (.region id ops false) Q T H g := by
  intro ρ w S ro Ds ac hi ht hr hm
  refine wpIn_region ?_
  have := OpsJ.sound 0 ops.toList (fun j => by simp) T H g h ρ w S ro Ds ac hi ht hr hm
  simpa using this
end
end Go.Abs
namespace Go.Abs
open Go
def Ty (P : Program) (t : TypeId) (d : TypeDesc) (n : Nat) (z : Value) (by_ : Nat) : Prop :=
  P.underlying t = some d ∧ ∃ i, P.info? t = some i ∧ i.size = n ∧ i.zero = some z ∧ i.bytes = by_
def tyOf (P : Program) (t : TypeId) : Option (TypeDesc × Nat × Option Value × Nat) :=
  match P.underlying t, P.info? t with
  | some d, some i => some (d, i.size, i.zero, i.bytes)
  | _, _ => none
theorem Ty.of {P : Program} {t : TypeId} {d : TypeDesc} {n : Nat} {z : Value} {b : Nat} (h : tyOf P t = some (d, n, some z, b)) : Ty P t d n z b := by
  unfold tyOf at h
  split at h
  · rename_i d' i h1 h2
    simp only [Option.some.injEq, Prod.mk.injEq] at h
    obtain ⟨rfl, h3, h4, h5⟩ := h
    exact ⟨h1, i, h2, h3, h4, h5⟩
  · cases h
section
variable {P : Program} {t : TypeId} {d : TypeDesc} {n : Nat} {z : Value} {b : Nat} {w : World}
theorem Ty.und (h : Ty P t d n z b) (w : World) : (underlying t).run P w = .ok d w := run_underlying h.1 w
theorem Ty.info (h : Ty P t d n z b) (w : World) : ∃ i, (typeInfo t).run P w = .ok i w ∧ i.bytes = b := by
  obtain ⟨_, i, hi, h1, h2, h3⟩ := h
  exact ⟨i, by simp [typeInfo, hi], h3⟩
theorem Ty.sizeOf (h : Ty P t d n z b) (w : World) : (sizeOf t).run P w = .ok n w := by
  obtain ⟨_, i, hi, h1, h2, h3⟩ := h
  simp [Go.sizeOf, typeInfo, hi, h1]
theorem Ty.zero (h : Ty P t d n z b) (w : World) : (zeroValue t).run P w = .ok z w := by
  obtain ⟨_, i, hi, h1, h2, h3⟩ := h
  simp [Go.zeroValue, typeInfo, hi, h2]
def aggD : TypeDesc → Bool
  | .struct _ | .array _ _ => true
  | _ => false
theorem Ty.isAgg (h : Ty P t d n z b) (w : World) : (isAgg t).run P w = .ok (aggD d) w := by
  unfold Go.isAgg
  rw [Sem.run_bind, h.und w]
  cases d <;> rfl
end
theorem addr_add (b o n : Nat) : (⟨b, o, none⟩ : Addr).add n = ⟨b, o + n, none⟩ := by unfold Addr.add; split <;> simp_all
section
variable {ρ : Ren} {H : AHeap} {w : World} {v' : Value}
theorem rel_ptr {i o : Nat} (h : VRel ρ (.pointer (some ⟨i, o, none⟩)) v') : ∃ m, ρ i = some m ∧ v' = .pointer (some ⟨m.blk, o, none⟩) := by
  cases h; exact ⟨_, by assumption, rfl⟩
theorem rel_int {k : IntKind} {n : Int} (h : VRel ρ (.int k n) v') : v' = .int k n := by cases h; rfl
theorem rel_bool {b : Bool} (h : VRel ρ (.bool b) v') : v' = .bool b := by cases h; rfl
theorem rel_agg {a : Array Value} (h : VRel ρ (.agg a) v') : ∃ a', v' = .agg a' ∧ ARel ρ a a' := by
  cases h with
  | agg hs h => exact ⟨_, rfl, hs, h⟩
theorem rel_tuple {a : Array Value} (h : VRel ρ (.tuple a) v') : ∃ a', v' = .tuple a' ∧ ARel ρ a a' := by
  cases h with
  | tuple hs h => exact ⟨_, rfl, hs, h⟩
theorem rel_slice {i o len cap : Nat} (h : VRel ρ (.slice (some ⟨i, o, none⟩) len cap) v') : ∃ m cap', ρ i = some m ∧ len ≤ cap' ∧ (m.own = true → o + cap' * m.es = m.cs) ∧ v' = .slice (some ⟨m.blk, o, none⟩) len cap' := by
  cases h; exact ⟨_, _, by assumption, by assumption, by assumption, rfl⟩
theorem rel_nilSlice (h : VRel ρ (.slice none 0 0) v') : v' = .slice none 0 0 := by cases h; rfl
theorem rel_len {a : Option Addr} {len cap : Nat} (h : VRel ρ (.slice a len cap) v') : ∃ a' cap', v' = .slice a' len cap' := by
  cases h <;> exact ⟨_, _, rfl⟩
def cellsL : Value → List Value
  | .agg cs => cs.toList
  | v => [v]
def cellOk : Value → Bool
  | .agg _ | .tuple _ | .complex .. => false
  | _ => true
theorem cellOk_rel {v v' : Value} (h : VRel ρ v v') (hc : cellOk v = true) : v'.oneCell' = true := by
  cases h <;> simp_all [cellOk, Value.oneCell', wild]
theorem cells_rel {v : Value} (h : VRel ρ v v') (hc : ∀ c ∈ cellsL v, cellOk c = true) : (cellsL v).length = v'.cells.size ∧ ∀ (j : Nat) (h1 : j < (cellsL v).length) (h2 : j < v'.cells.size), VRel ρ (cellsL v)[j] v'.cells[j] := by
  have single : ∀ {v v' : Value}, VRel ρ v v' → cellsL v = [v] → v'.cells = #[v'] → (cellsL v).length = v'.cells.size ∧ ∀ (j : Nat) (h1 : j < (cellsL v).length) (h2 : j < v'.cells.size), VRel ρ (cellsL v)[j] v'.cells[j] := by
    intro v v' h e1 e2
    refine ⟨by rw [e1, e2]; rfl, fun j h1 h2 => ?_⟩
    have hj : j = 0 := by rw [e1] at h1; simpa using h1
    subst hj
    simp only [e1, e2]
    exact h
  cases h with
  | wild v => have := hc wild (by simp [cellsL, wild]); simp [cellOk, wild] at this
  | agg hs h => exact ⟨by simpa [cellsL, Value.cells] using hs, fun j h1 h2 => by simp only [cellsL, Value.cells, Array.getElem_toList] at *; exact h j (by simpa only [cellsL, Array.length_toList] using h1) h2⟩
  | tuple hs h => have := hc _ (by simp [cellsL]; rfl); simp [cellOk] at this
  | bool b => exact single (.bool b) rfl rfl
  | int k n => exact single (.int k n) rfl rfl
  | string s => exact single (.string s) rfl rfl
  | nilPtr => exact single .nilPtr rfl rfl
  | ptr h => exact single (.ptr h) rfl rfl
  | nilSlice => exact single .nilSlice rfl rfl
  | empty a c => exact single (.empty a c) rfl rfl
  | slice h hl ho => exact single (.slice h hl ho) rfl rfl
  | nilMap => exact single .nilMap rfl rfl
  | map h => exact single (.map h) rfl rfl
  | func hx hxs hc2 hcs => exact single (.func hx hxs hc2 hcs) rfl rfl
  | yield h => exact single (.yield h) rfl rfl
  | nilFunc => exact single .nilFunc rfl rfl
  | nilIface => exact single .nilIface rfl rfl
  | iface h => exact single (.iface h) rfl rfl
end
section
variable {P : Program} {T : List Value} {H : AHeap} {dst : Option Tmp} {ty : TypeId} {ps : String} {af : Array Edge} {gd : Option (Nat × Bool)}
theorem Runs.pure {o : Oper} {v : Value} (h : ∀ (ρ : Ren) (w : World) (ac : Act), SRel ρ H w → OpRel ρ T ac o.op → ∃ v', (execOp ac.eval o).run P w = .ok (.value v') w ∧ VRel ρ v v') : Runs P o v H T H :=
  fun ρ w ac hs ht => let ⟨v', h1, h2⟩ := h ρ w ac hs ht; ⟨v', w, ρ, .inl h1, h2, hs, .refl _ _ _⟩
theorem runs_move {x : Operand} : Runs P ⟨dst, .move x, ty, ps, af, gd⟩ (evalT T x) H T H :=
  Runs.pure fun ρ w ac hs ht => ⟨ac.eval x, rfl, ht.eval x⟩
theorem runs_assign {x : Operand} : Runs P ⟨dst, .assign x, ty, ps, af, gd⟩ (evalT T x) H T H :=
  Runs.pure fun ρ w ac hs ht => ⟨ac.eval x, rfl, ht.eval x⟩
theorem runs_pick {c x y : Operand} {b : Bool} (hc : evalT T c = .bool b) : Runs P ⟨dst, .pick c x y, ty, ps, af, gd⟩ (bif b then evalT T x else evalT T y) H T H :=
  Runs.pure fun ρ w ac hs ht => by
    have h := rel_bool (hc ▸ ht.eval c)
    refine ⟨if b then ac.eval x else ac.eval y, ?_, ?_⟩
    · simp only [execOp, h, asBool, Sem.run_bind, Sem.run_pure, Result.andThen_ok]
    · cases b
      · exact ht.eval y
      · exact ht.eval x
theorem runs_nilCheck {x : Operand} {a : Addr} (hx : evalT T x = .pointer (some a)) : Runs P ⟨dst, .nilCheck x, ty, ps, af, gd⟩ (evalT T x) H T H :=
  Runs.pure fun ρ w ac hs ht => by
    have h := ht.eval x
    refine ⟨ac.eval x, ?_, h⟩
    rw [hx] at h
    generalize hv : ac.eval x = v at h
    simp only [execOp, hv]
    cases h; rfl
theorem runs_extract {x : Operand} {k : Nat} {a : Array Value} {v : Value} (hx : evalT T x = .tuple a) (hv : a[k]? = some v) : Runs P ⟨dst, .extract x k, ty, ps, af, gd⟩ v H T H :=
  Runs.pure fun ρ w ac hs ht => by
    obtain ⟨a', ha, hr⟩ := rel_tuple (hx ▸ ht.eval x)
    obtain ⟨hlt, he⟩ := Array.getElem?_eq_some_iff.1 hv
    have hlt' : k < a'.size := hr.1 ▸ hlt
    refine ⟨a'[k], ?_, he ▸ hr.2 k hlt hlt'⟩
    simp [execOp, ha, Instr.extract, hlt']
theorem runs_bin {op : BinOp} {xt yt : TypeId} {x y : Operand} {vx vy v : Value} (hx : evalT T x = vx) (hy : evalT T y = vy)
    (h : ∀ (ρ : Ren) (w : World) (x' y' : Value), VRel ρ vx x' → VRel ρ vy y' → SRel ρ H w → ∃ v', ((do eqGuard op xt x y x' y'; binOp op xt x' y') : Sem Value).run P w = .ok v' w ∧ VRel ρ v v') : Runs P ⟨dst, .binOp op xt x y yt, ty, ps, af, gd⟩ v H T H :=
  Runs.pure fun ρ w ac hs ht => by
    obtain ⟨v', h1, h2⟩ := h ρ w (ac.eval x) (ac.eval y) (hx ▸ ht.eval x) (hy ▸ ht.eval y) hs
    refine ⟨v', ?_, h2⟩
    simp only [execOp, Sem.run_bind, Sem.run_pure] at h1 ⊢
    rw [h1]; rfl
def intBin (op : BinOp) (k : IntKind) (a b : Int) : Option Value :=
  match op with
  | .add => some (.int k (k.wrap (a + b)))
  | .sub => some (.int k (k.wrap (a - b)))
  | .mul => some (.int k (k.wrap (a * b)))
  | .eql => some (.bool (a == b))
  | .neq => some (.bool (a != b))
  | .lss => some (.bool (decide (a < b)))
  | .leq => some (.bool (decide (a ≤ b)))
  | .gtr => some (.bool (decide (a > b)))
  | .geq => some (.bool (decide (a ≥ b)))
  | _ => none
theorem runs_intBin {op : BinOp} {xt yt : TypeId} {x y : Operand} {k : IntKind} {a b : Int} {v : Value} (hx : evalT T x = .int k a) (hy : evalT T y = .int k b) (hv : intBin op k a b = some v) :
    Runs P ⟨dst, .binOp op xt x y yt, ty, ps, af, gd⟩ v H T H :=
  runs_bin hx hy fun ρ w x' y' h1 h2 _ => by
    rw [rel_int h1, rel_int h2]
    cases op <;> simp only [intBin, Option.some.injEq, reduceCtorEq] at hv <;> subst hv <;>
      first
        | exact ⟨_, by simp [eqGuard, binOp, Op.intArith, Op.intCmp], .int _ _⟩
        | exact ⟨_, by simp [eqGuard, binOp, Op.intCmp], .bool _⟩
theorem runs_quo {xt yt : TypeId} {x y : Operand} {k : IntKind} {a b : Int} (hx : evalT T x = .int k a) (hy : evalT T y = .int k b) (hb : b ≠ 0) :
    Runs P ⟨dst, .binOp .quo xt x y yt, ty, ps, af, gd⟩ (.int k (k.wrap (a.tdiv b))) H T H :=
  runs_bin hx hy fun ρ w x' y' h1 h2 _ => by
    rw [rel_int h1, rel_int h2]
    exact ⟨_, by simp [eqGuard, binOp, Op.intDiv, hb], .int _ _⟩
theorem runs_rem {xt yt : TypeId} {x y : Operand} {k : IntKind} {a b : Int} (hx : evalT T x = .int k a) (hy : evalT T y = .int k b) (hb : b ≠ 0) :
    Runs P ⟨dst, .binOp .rem xt x y yt, ty, ps, af, gd⟩ (.int k (a.tmod b)) H T H :=
  runs_bin hx hy fun ρ w x' y' h1 h2 _ => by
    rw [rel_int h1, rel_int h2]
    exact ⟨_, by simp [eqGuard, binOp, Op.intDiv, hb], .int _ _⟩
theorem runs_shl {xt yt : TypeId} {x y : Operand} {k k' : IntKind} {a b : Int} (hx : evalT T x = .int k a) (hy : evalT T y = .int k' b) (hb : 0 ≤ b) :
    Runs P ⟨dst, .binOp .shl xt x y yt, ty, ps, af, gd⟩ (.int k (k.wrap (a * 2 ^ (min b.toNat k.bits)))) H T H :=
  runs_bin hx hy fun ρ w x' y' h1 h2 _ => by
    rw [rel_int h1, rel_int h2]
    exact ⟨_, by simp [eqGuard, binOp, Op.shift, show ¬ b < 0 by omega], .int _ _⟩
theorem runs_shr {xt yt : TypeId} {x y : Operand} {k k' : IntKind} {a b : Int} (hx : evalT T x = .int k a) (hy : evalT T y = .int k' b) (hb : 0 ≤ b) :
    Runs P ⟨dst, .binOp .shr xt x y yt, ty, ps, af, gd⟩ (.int k (a.fdiv (2 ^ (min b.toNat k.bits)))) H T H :=
  runs_bin hx hy fun ρ w x' y' h1 h2 _ => by
    rw [rel_int h1, rel_int h2]
    exact ⟨_, by simp [eqGuard, binOp, Op.shift, show ¬ b < 0 by omega], .int _ _⟩
def bitsBin (op : BinOp) (k : IntKind) (x y : Int) : Option Int :=
  let a := BitVec.ofInt k.bits x
  let b := BitVec.ofInt k.bits y
  match op with
  | .and => some (k.wrap (a &&& b).toNat)
  | .or => some (k.wrap (a ||| b).toNat)
  | .xor => some (k.wrap (a ^^^ b).toNat)
  | .andNot => some (k.wrap (a &&& ~~~b).toNat)
  | _ => none
theorem runs_bits {op : BinOp} {xt yt : TypeId} {x y : Operand} {k : IntKind} {a b n : Int} (hx : evalT T x = .int k a) (hy : evalT T y = .int k b) (hn : bitsBin op k a b = some n) :
    Runs P ⟨dst, .binOp op xt x y yt, ty, ps, af, gd⟩ (.int k n) H T H :=
  runs_bin hx hy fun ρ w x' y' h1 h2 _ => by
    rw [rel_int h1, rel_int h2]
    cases op <;> simp only [bitsBin, Option.some.injEq, reduceCtorEq] at hn <;> subst hn <;>
      exact ⟨_, by simp [eqGuard, binOp, Op.intBits], .int _ _⟩
theorem run_equal_bool {t : TypeId} {n : Nat} {z : Value} {b_ : Nat} (ht : Ty P t .bool n z b_) (a b : Bool) (w : World) : (Op.equal t (.bool a) (.bool b)).run P w = .ok (a == b) w := by
  show (Op.equalIn (9999 + 1) t (.bool a) (.bool b)).run P w = _
  rw [Op.equalIn, Sem.run_bind, ht.und w]
  rfl
theorem runs_eqBool {op : BinOp} {xt yt : TypeId} {x y : Operand} {a b : Bool} {n : Nat} {z : Value} {by_ : Nat} (ht : Ty P xt .bool n z by_) (hx : evalT T x = .bool a) (hy : evalT T y = .bool b) (ho : op = .eql ∨ op = .neq) :
    Runs P ⟨dst, .binOp op xt x y yt, ty, ps, af, gd⟩ (.bool (if op = .eql then a == b else !(a == b))) H T H :=
  runs_bin hx hy fun ρ w x' y' h1 h2 _ => by
    rw [rel_bool h1, rel_bool h2]
    rcases ho with rfl | rfl
    · exact ⟨.bool (a == b), by simp [eqGuard, binOp, run_equal_bool ht], .bool _⟩
    · exact ⟨.bool (!(a == b)), by simp [eqGuard, binOp, run_equal_bool ht], .bool _⟩
theorem runs_not {xt : TypeId} {x : Operand} {b : Bool} (hx : evalT T x = .bool b) : Runs P ⟨dst, .unOp .not xt x, ty, ps, af, gd⟩ (.bool (!b)) H T H :=
  Runs.pure fun ρ w ac hs ht => ⟨.bool (!b), by simp [execOp, Op.unary, rel_bool (hx ▸ ht.eval x)], .bool _⟩
theorem runs_neg {xt : TypeId} {x : Operand} {k : IntKind} {n : Int} (hx : evalT T x = .int k n) : Runs P ⟨dst, .unOp .neg xt x, ty, ps, af, gd⟩ (.int k (k.wrap (0 - n))) H T H :=
  Runs.pure fun ρ w ac hs ht => ⟨.int k (k.wrap (0 - n)), by simp [execOp, Op.unary, Op.intArith, rel_int (hx ▸ ht.eval x)], .int _ _⟩
theorem runs_convInt {src dt : TypeId} {x : Operand} {k k' : IntKind} {n : Int} {ds : TypeDesc} {n1 n2 : Nat} {z1 z2 : Value} {b1 b2 : Nat} (hs : Ty P src ds n1 z1 b1) (hd : Ty P dt (.int k') n2 z2 b2) (hx : evalT T x = .int k n) :
    Runs P ⟨dst, .convert src dt x, ty, ps, af, gd⟩ (.int k' (k'.wrap n)) H T H :=
  Runs.pure fun ρ w ac _ ht => ⟨.int k' (k'.wrap n), by simp [execOp, convert, hs.und w, hd.und w, rel_int (hx ▸ ht.eval x), Conv.intToInt], .int _ _⟩
theorem runs_min2 {x y : Operand} {at_ : Array TypeId} {k : IntKind} {a b : Int} (hx : evalT T x = .int k a) (hy : evalT T y = .int k b) :
    Runs P ⟨dst, .call { callee := .builtin .min, args := #[x, y], argTypes := at_ }, ty, ps, af, gd⟩ (.int k (if b < a then b else a)) H T H :=
  Runs.pure fun ρ w ac _ ht => ⟨_, by simp [execOp, resolve, invoke, builtin, Builtin.min_, Builtin.min2, rel_int (hx ▸ ht.eval x), rel_int (hy ▸ ht.eval y)], .int _ _⟩
theorem runs_max2 {x y : Operand} {at_ : Array TypeId} {k : IntKind} {a b : Int} (hx : evalT T x = .int k a) (hy : evalT T y = .int k b) :
    Runs P ⟨dst, .call { callee := .builtin .max, args := #[x, y], argTypes := at_ }, ty, ps, af, gd⟩ (.int k (if b > a then b else a)) H T H :=
  Runs.pure fun ρ w ac _ ht => ⟨_, by simp [execOp, resolve, invoke, builtin, Builtin.max_, Builtin.max2, rel_int (hx ▸ ht.eval x), rel_int (hy ▸ ht.eval y)], .int _ _⟩
end
end Go.Abs
namespace Go.Abs
open Go
section
variable {P : Program} {T : List Value} {H : AHeap} {dst : Option Tmp} {ty : TypeId} {ps : String} {af : Array Edge} {gd : Option (Nat × Bool)}
theorem getElem?_rel {ρ : Ren} {l : List Value} {c : Array Value} (hl : l.length ≤ c.size) (h : ∀ (j : Nat) (h1 : j < l.length) (h2 : j < c.size), VRel ρ l[j] c[j]) {j : Nat} {v : Value} (hj : l[j]? = some v) : ∃ v', c[j]? = some v' ∧ VRel ρ v v' := by
  obtain ⟨hlt, he⟩ := List.getElem?_eq_some_iff.1 hj
  exact ⟨c[j], Array.getElem?_eq_getElem (by omega), he ▸ h j hlt (by omega)⟩
theorem SRel.row {ρ : Ren} {w : World} (h : SRel ρ H w) {i : Nat} {m : Img} {cells : List Value} {es : Nat} {own : Bool} (hi : ρ i = some m) (ho : H[i]? = some (.row cells es own)) :
    m.es = es ∧ m.own = own ∧ ∃ c e fr, w.heap[m.blk]? = some (.cells c e fr) ∧ c.size = m.cs ∧ (own = true → fr = (0, 0)) ∧ cells.length ≤ c.size ∧
      ∀ (j : Nat) (h1 : j < cells.length) (h2 : j < c.size), VRel ρ cells[j] c[j] := h.obj i m _ hi ho
theorem cell_at {w : World} {b o : Nat} {c : Array Value} {e : TypeId} {fr : Nat × Nat} (h : w.heap[b]? = some (.cells c e fr)) : w.cell? ⟨b, o, none⟩ = c[o]? := by simp [World.cell?, h]
theorem runs_newRow {o : Oper} (cells : List Value) (es : Nat) (h : ∀ (ρ : Ren) (w : World) (ac : Act), SRel ρ H w → OpRel ρ T ac o.op →
      ∃ c e, (execOp ac.eval o).run P w = .ok (.value (.pointer (some ⟨w.heap.size, 0, none⟩))) (w.alloc (.cells c e)) ∧ cells.length ≤ c.size ∧ ∀ (j : Nat) (h1 : j < cells.length) (h2 : j < c.size), VRel ρ cells[j] c[j]) :
    Runs P o (.pointer (some ⟨H.length, 0, none⟩)) (H ++ [.row cells es true]) T H := by
  intro ρ w ac hs ht
  obtain ⟨c, e, hr, hl, hv⟩ := h ρ w ac hs ht
  obtain ⟨h1, h2⟩ := hs.alloc (.row cells es true) (.cells c e) ⟨w.heap.size, c.size, es, true⟩ rfl ⟨rfl, rfl, c, e, (0, 0), rfl, rfl, fun _ => rfl, hl, hv⟩
  exact ⟨_, _, _, .inl hr, .ptr (m := ⟨w.heap.size, c.size, es, true⟩) (Ren.add_same _ _ _), h1, h2⟩
theorem runs_alloc {e : TypeId} {d : TypeDesc} {n : Nat} {z : Value} {b : Nat} {cs : List Value} (ht : Ty P e d n z b) (hcs : (cellsL z).map constT = cs) :
    Runs P ⟨dst, .alloc e, ty, ps, af, gd⟩ (.pointer (some ⟨H.length, 0, none⟩)) (H ++ [.row cs 1 true]) T H :=
  runs_newRow cs 1 fun ρ w ac _ _ => by
    subst hcs
    have hz : (cellsL z).length = z.cells.size ∧ ∀ (j : Nat) (h1 : j < (cellsL z).length) (h2 : j < z.cells.size), (cellsL z)[j] = z.cells[j] := by
      cases z <;> simp [cellsL, Value.cells]
    refine ⟨z.cells, e, ?_, by simp [hz.1], fun j h1 h2 => ?_⟩
    · simp only [execOp, Instr.alloc, Sem.run_bind, ht.zero w, Result.andThen_ok, newVar, newRow, run_newObj_alloc, Sem.run_pure]
    · simp only [List.getElem_map]
      rw [hz.2 j (by simpa using h1) h2]
      exact constT_rel ρ _
theorem runs_box {e : TypeId} {x : Operand} {v : Value} {cs : List Value} (hx : evalT T x = v) (hcs : cellsL v = cs) (hok : cs.all cellOk = true) :
    Runs P ⟨dst, .box e x, ty, ps, af, gd⟩ (.pointer (some ⟨H.length, 0, none⟩)) (H ++ [.row cs 1 true]) T H :=
  runs_newRow cs 1 fun ρ w ac _ ht => by
    subst hcs
    obtain ⟨h1, h2⟩ := cells_rel (hx ▸ ht.eval x) (fun c hc => List.all_eq_true.1 hok c hc)
    refine ⟨(ac.eval x).cells, e, ?_, by omega, fun j h3 h4 => h2 j h3 h4⟩
    simp only [execOp, Instr.box, Sem.run_bind, Result.andThen_ok, newVar, newRow, run_newObj_alloc, Sem.run_pure]
theorem runs_fieldAddr {s : TypeId} {x : Operand} {f i o : Nat} {fields : Array Field} {fd : Field} {n : Nat} {z : Value} {b : Nat} {d' : TypeDesc} {n' : Nat} {z' : Value} {b' : Nat}
    (ht : Ty P s (.struct fields) n z b) (hf : fields[f]? = some fd) (hft : Ty P fd.type d' n' z' b') (hn : n' ≠ 0) (hx : evalT T x = .pointer (some ⟨i, o, none⟩)) :
    Runs P ⟨dst, .fieldAddr s x f, ty, ps, af, gd⟩ (.pointer (some ⟨i, o + fd.offset, none⟩)) H T H :=
  Runs.pure fun ρ w ac _ hT => by
    obtain ⟨m, hm, hv⟩ := rel_ptr (hx ▸ hT.eval x)
    refine ⟨_, ?_, .ptr (o := o + fd.offset) hm⟩
    simp only [execOp, Instr.fieldAt, hv, Sem.run_bind, ht.und w, Result.andThen_ok, hf, Instr.sureAddr, Sem.run_pure, fieldPlace, hft.sizeOf w, if_neg hn, addr_add]
theorem runs_indexAddrS {t : TypeId} {x ix : Operand} {i o len cap : Nat} {k : IntKind} {j : Int} {e : TypeId} {n : Nat} {z : Value} {b : Nat} {d' : TypeDesc} {n' : Nat} {z' : Value} {b' : Nat}
    (ht : Ty P t (.slice e) n z b) (he : Ty P e d' n' z' b') (hx : evalT T x = .slice (some ⟨i, o, none⟩) len cap) (hix : evalT T ix = .int k j) (h0 : 0 ≤ j) (h1 : j < len) :
    Runs P ⟨dst, .indexAddr t x ix, ty, ps, af, gd⟩ (.pointer (some ⟨i, o + j.toNat * n', none⟩)) H T H :=
  Runs.pure fun ρ w ac _ hT => by
    obtain ⟨m, cap', hm, hl, ho, hv⟩ := rel_slice (hx ▸ hT.eval x)
    have hi := rel_int (hix ▸ hT.eval ix)
    refine ⟨_, ?_, .ptr (o := o + j.toNat * n') hm⟩
    simp only [execOp, Instr.indexAt, hv, hi, asIntOf, Sem.run_bind, Sem.run_pure, ht.und w, Result.andThen_ok, addr_add]
    rw [if_pos ⟨h0, h1⟩]
    simp only [Sem.run_bind, he.sizeOf w, Result.andThen_ok, Sem.run_pure]
theorem runs_indexAddrA {t : TypeId} {x ix : Operand} {i o len : Nat} {k : IntKind} {j : Int} {e : TypeId} {n : Nat} {z : Value} {b : Nat} {d' : TypeDesc} {n' : Nat} {z' : Value} {b' : Nat}
    (ht : Ty P t (.array len e) n z b) (he : Ty P e d' n' z' b') (hx : evalT T x = .pointer (some ⟨i, o, none⟩)) (hix : evalT T ix = .int k j) (h0 : 0 ≤ j) (h1 : j < len) :
    Runs P ⟨dst, .indexAddr t x ix, ty, ps, af, gd⟩ (.pointer (some ⟨i, o + j.toNat * n', none⟩)) H T H :=
  Runs.pure fun ρ w ac _ hT => by
    obtain ⟨m, hm, hv⟩ := rel_ptr (hx ▸ hT.eval x)
    have hi := rel_int (hix ▸ hT.eval ix)
    refine ⟨_, ?_, .ptr (o := o + j.toNat * n') hm⟩
    simp only [execOp, Instr.indexAt, hv, hi, asIntOf, Sem.run_bind, Sem.run_pure, ht.und w, Result.andThen_ok, Instr.sureAddr]
    rw [if_pos ⟨h0, h1⟩]
    simp only [Sem.run_bind, he.sizeOf w, Result.andThen_ok, Sem.run_pure, addr_add]
theorem runs_load1 {t : TypeId} {x : Operand} {i o : Nat} {d : TypeDesc} {n : Nat} {z : Value} {b : Nat} {cells : List Value} {es : Nat} {own : Bool} {v : Value}
    (ht : Ty P t d n z b) (hd : aggD d = false) (hx : evalT T x = .pointer (some ⟨i, o, none⟩)) (hi : H[i]? = some (.row cells es own)) (hc : cells[o]? = some v) :
    Runs P ⟨dst, .load t x, ty, ps, af, gd⟩ v H T H :=
  Runs.pure fun ρ w ac hs hT => by
    obtain ⟨m, hm, hv⟩ := rel_ptr (hx ▸ hT.eval x)
    obtain ⟨_, _, c, e, fr, hb, _, _, hl, hr⟩ := hs.row hm hi
    obtain ⟨v', hv', hrel⟩ := getElem?_rel hl hr hc
    refine ⟨v', ?_, hrel⟩
    have hcell : w.cell? ⟨m.blk, o, none⟩ = some v' := (cell_at hb).trans hv'
    simp only [execOp, Instr.loadAt, hv, Instr.sureAddr, Sem.run_bind, Sem.run_pure, Result.andThen_ok, loadVar, ht.isAgg w, hd, Bool.false_eq_true, if_false]
    simp [load, Sem.run, hcell]
theorem run_loadCells_rel {ρ : Ren} {w : World} {b o n : Nat} {cells : List Value} {c : Array Value} {e : TypeId} {fr : Nat × Nat} (hb : w.heap[b]? = some (.cells c e fr)) (hl : cells.length ≤ c.size)
    (hr : ∀ (j : Nat) (h1 : j < cells.length) (h2 : j < c.size), VRel ρ cells[j] c[j]) (hn : o + n ≤ cells.length) :
    ∃ r : Array Value, (loadCells ⟨b, o, none⟩ n).run P w = .ok r w ∧ r.size = n ∧ (∀ (j : Nat) (_h : j < n) (h' : j < r.size), c[o + j]? = some r[j]) ∧ ARel ρ ⟨(cells.drop o).take n⟩ r := by
  have h := run_loadCells (P := P) w ⟨b, o, none⟩ n (fun j => c.getD (o + j) undef) (fun j hj => by
    rw [addr_add, cell_at hb, Array.getElem?_eq_getElem (by omega)]
    simp [Array.getD, show o + j < c.size by omega])
  refine ⟨_, h, by simp, fun j hj h' => ?_, ⟨by simp; omega, fun j h1 h2 => ?_⟩⟩
  · simp only [List.getElem_toArray, List.getElem_map, List.getElem_range]
    simp [Array.getD, show o + j < c.size by omega]
  · simp only [List.size_toArray, List.length_take, List.length_drop] at h1
    simp only [List.getElem_toArray, List.getElem_take, List.getElem_drop, List.getElem_map, List.getElem_range]
    have : o + j < c.size := by omega
    simp only [Array.getD, this, dif_pos]
    exact hr (o + j) (by omega) this
theorem runs_loadN {t : TypeId} {x : Operand} {i o : Nat} {d : TypeDesc} {n : Nat} {z : Value} {b : Nat} {cells cs : List Value} {es : Nat} {own : Bool}
    (ht : Ty P t d n z b) (hd : aggD d = true) (hx : evalT T x = .pointer (some ⟨i, o, none⟩)) (hi : H[i]? = some (.row cells es own)) (hn : o + n ≤ cells.length) (hcs : (cells.drop o).take n = cs) :
    Runs P ⟨dst, .load t x, ty, ps, af, gd⟩ (.agg ⟨cs⟩) H T H :=
  Runs.pure fun ρ w ac hs hT => by
    subst hcs
    obtain ⟨m, hm, hv⟩ := rel_ptr (hx ▸ hT.eval x)
    obtain ⟨_, _, c, e, fr, hb, _, _, hl, hr⟩ := hs.row hm hi
    obtain ⟨r, h1, _, _, h2⟩ := run_loadCells_rel (P := P) hb hl hr hn
    refine ⟨.agg r, ?_, .agg h2.1 h2.2⟩
    simp only [execOp, Instr.loadAt, hv, Instr.sureAddr, Sem.run_bind, Sem.run_pure, Result.andThen_ok, loadVar, ht.isAgg w, hd, if_true, ht.sizeOf w, h1]
def splice (cells : List Value) (o : Nat) (vs : List Value) : List Value := cells.take o ++ vs ++ cells.drop (o + vs.length)
theorem splice_rel {ρ : Ren} {cells vs : List Value} {c vs' : List Value} {o : Nat} (hl : cells.length ≤ c.length) (hr : ∀ (j : Nat) (h1 : j < cells.length) (h2 : j < c.length), VRel ρ cells[j] c[j])
    (hv : vs.length = vs'.length) (hvr : ∀ (j : Nat) (h1 : j < vs.length) (h2 : j < vs'.length), VRel ρ vs[j] vs'[j]) (ho : o + vs.length ≤ cells.length) :
    (splice cells o vs).length ≤ (splice c o vs').length ∧ ∀ (j : Nat) (h1 : j < (splice cells o vs).length) (h2 : j < (splice c o vs').length), VRel ρ (splice cells o vs)[j] (splice c o vs')[j] := by
  refine ⟨by simp [splice]; omega, fun j h1 h2 => ?_⟩
  have get : ∀ (cells vs : List Value) (h : j < (splice cells o vs).length) (hle : o + vs.length ≤ cells.length),
      (splice cells o vs)[j] = if h1 : j < o then cells[j]'(by simp [splice] at h; omega) else if h2 : j < o + vs.length then vs[j - o]'(by omega) else cells[j]'(by simp [splice] at h; omega) := by
    intro cells vs h hle
    unfold splice at h ⊢
    by_cases h3 : j < o
    · rw [dif_pos h3, List.getElem_append_left (by simp; omega), List.getElem_append_left (by simp; omega), List.getElem_take]
    · rw [dif_neg h3]
      by_cases h4 : j < o + vs.length
      · rw [dif_pos h4, List.getElem_append_left (by simp; omega), List.getElem_append_right (by simp; omega)]
        congr 1; simp; omega
      · rw [dif_neg h4, List.getElem_append_right (by simp; omega), List.getElem_drop]
        congr 1; simp; omega
  rw [get cells vs h1 ho, get c vs' h2 (by omega)]
  split
  · exact hr j _ _
  · split
    · rename_i h4; rw [dif_pos (by omega)]; exact hvr _ _ _
    · rename_i h4; rw [dif_neg (by omega)]; exact hr j _ _
theorem runs_store {t : TypeId} {x y : Operand} {i o : Nat} {d : TypeDesc} {n : Nat} {z : Value} {b : Nat} {cells vs cs' : List Value} {es : Nat} {v : Value}
    (ht : Ty P t d n z b) (hx : evalT T x = .pointer (some ⟨i, o, none⟩)) (hy : evalT T y = v) (hvs : cellsL v = vs) (hok : vs.all cellOk = true) (hn : vs.length = n) (hi : H[i]? = some (.row cells es true))
    (ho : o + n ≤ cells.length) (hcs : splice cells o vs = cs') :
    Runs P ⟨dst, .store t x y, ty, ps, af, gd⟩ undef (H.set i (.row cs' es true)) T H := by
  intro ρ w ac hs hT
  subst hvs
  subst hcs
  obtain ⟨m, hm, hv⟩ := rel_ptr (hx ▸ hT.eval x)
  obtain ⟨hes, hown, c, e, fr, hb, hcz, hfr, hl, hr⟩ := hs.row hm hi
  have hvrel := hy ▸ hT.eval y
  obtain ⟨h1, h2⟩ := cells_rel hvrel (fun c hc => List.all_eq_true.1 hok c hc)
  have hfr' := hfr rfl
  subst hfr'
  have hone : ∀ u ∈ (ac.eval y).cells.toList, u.oneCell' = true := by
    intro u hu
    obtain ⟨j, hj, hju⟩ := List.getElem_of_mem hu
    simp only [Array.length_toList] at hj
    rw [← hju, Array.getElem_toList]
    exact cellOk_rel (h2 j (by omega) hj) (List.all_eq_true.1 hok _ (List.getElem_mem _))
  have hfit : o + 0 + (ac.eval y).cells.toList.length ≤ c.size := by simp; omega
  have hst := run_storeCells_at P m.blk o e (ac.eval y).cells.toList 0 c w hb hfit hone
  have hsp := splice_rel (c := c.toList) (vs' := (ac.eval y).cells.toList) (by simpa using hl) (fun j h1 h2 => by simpa using hr j h1 (by simpa using h2)) (by simpa using h1)
    (fun j h3 h4 => by simpa using h2 j h3 (by simpa using h4)) (by rw [hn]; exact ho)
  have hrow := setRow_heap w m.blk c (splice c.toList o (ac.eval y).cells.toList).toArray e (0, 0) hb
  obtain ⟨hs', st⟩ := hs.turn (w' := w.setRow m.blk (splice c.toList o (ac.eval y).cells.toList).toArray) (.row (splice cells o (cellsL v)) es true) hm hi rfl hown
    (fun k hk => setRow_other w m.blk k _ hk) (setRow_size w m.blk _) rfl rfl rfl
    ⟨hes, hown, _, e, (0, 0), hrow, by simp [splice]; omega, fun _ => rfl, by simpa using hsp.1, fun j h3 h4 => by simpa using hsp.2 j h3 (by simpa using h4)⟩
  refine ⟨undef, _, ρ, .inr ⟨?_, rfl⟩, undef_rel ρ, hs', st⟩
  have hsz : (ac.eval y).cells.size = n := by omega
  simp only [execOp, Instr.storeAt, hv, Instr.sureAddr, Sem.run_bind, Sem.run_pure, Result.andThen_ok, storeVar, ht.sizeOf w, hsz, ne_eq, not_true_eq_false, if_false]
  simp only [Nat.add_zero] at hst
  rw [hst]
  simp [splice]
theorem run_part_rel {ρ : Ren} {w : World} {t : TypeId} {d : TypeDesc} {n : Nat} {z : Value} {b : Nat} {cs cs' : Array Value} {off : Nat} (ht : Ty P t d n z b) (h : ARel ρ cs cs') {v : Value}
    (hv : (if aggD d then some (Value.agg ⟨(cs.toList.drop off).take n⟩) else cs.toList[off]?) = some v) : ∃ v', (part t cs' off).run P w = .ok v' w ∧ VRel ρ v v' := by
  unfold part
  simp only [Sem.run_bind, ht.isAgg w, Result.andThen_ok]
  cases hd : aggD d with
  | true =>
    rw [hd] at hv
    simp only [if_true, Option.some.injEq] at hv
    subst hv
    simp only [if_true, Sem.run_bind, ht.sizeOf w, Result.andThen_ok, Sem.run_pure]
    refine ⟨_, rfl, .agg ?_ fun j h1 h2 => ?_⟩
    · have := h.1; simp; omega
    · simp only [List.getElem_toArray, List.getElem_take, List.getElem_drop, Array.getElem_toList, Array.getElem_extract]
      exact h.2 _ _ _
  | false =>
    rw [hd] at hv
    simp only [Bool.false_eq_true, if_false] at hv
    obtain ⟨hlt, he⟩ := List.getElem?_eq_some_iff.1 hv
    have hlt1 : off < cs.size := by simpa using hlt
    have hlt' : off < cs'.size := h.1 ▸ hlt1
    simp only [Bool.false_eq_true, if_false, Array.getElem?_eq_getElem hlt', Sem.run_pure]
    refine ⟨_, rfl, ?_⟩
    rw [← he, Array.getElem_toList]
    exact h.2 off hlt1 hlt'
theorem runs_field {t : TypeId} {x : Operand} {f : Nat} {fields : Array Field} {fd : Field} {n : Nat} {z : Value} {b : Nat} {d' : TypeDesc} {n' : Nat} {z' : Value} {b' : Nat} {cs : Array Value} {v : Value}
    (ht : Ty P t (.struct fields) n z b) (hf : fields[f]? = some fd) (hft : Ty P fd.type d' n' z' b') (hx : evalT T x = .agg cs)
    (hv : (if aggD d' then some (Value.agg ⟨(cs.toList.drop fd.offset).take n'⟩) else cs.toList[fd.offset]?) = some v) : Runs P ⟨dst, .field t x f, ty, ps, af, gd⟩ v H T H :=
  Runs.pure fun ρ w ac _ hT => by
    obtain ⟨cs', he, hr⟩ := rel_agg (hx ▸ hT.eval x)
    obtain ⟨v', h1, h2⟩ := run_part_rel (P := P) (w := w) hft hr hv
    refine ⟨v', ?_, h2⟩
    simp only [execOp, Instr.field, he, asAgg, Sem.run_bind, Sem.run_pure, ht.und w, Result.andThen_ok, hf, h1]
theorem runs_indexA {t : TypeId} {x ix : Operand} {len : Nat} {k : IntKind} {j : Int} {e : TypeId} {n : Nat} {z : Value} {b : Nat} {d' : TypeDesc} {n' : Nat} {z' : Value} {b' : Nat} {cs : Array Value} {v : Value}
    (ht : Ty P t (.array len e) n z b) (he : Ty P e d' n' z' b') (hx : evalT T x = .agg cs) (hix : evalT T ix = .int k j) (h0 : 0 ≤ j) (h1 : j < len)
    (hv : (if aggD d' then some (Value.agg ⟨(cs.toList.drop (j.toNat * n')).take n'⟩) else cs.toList[j.toNat * n']?) = some v) : Runs P ⟨dst, .index t x ix, ty, ps, af, gd⟩ v H T H :=
  Runs.pure fun ρ w ac _ hT => by
    obtain ⟨cs', hc, hr⟩ := rel_agg (hx ▸ hT.eval x)
    obtain ⟨v', h2, h3⟩ := run_part_rel (P := P) (w := w) he hr hv
    refine ⟨v', ?_, h3⟩
    simp only [execOp, Instr.index, hc, rel_int (hix ▸ hT.eval ix), asIntOf, Sem.run_bind, Sem.run_pure, ht.und w, Result.andThen_ok]
    rw [if_pos ⟨h0, h1⟩]
    simp only [Sem.run_bind, he.sizeOf w, Result.andThen_ok, h2]
theorem runs_lenS {x : Operand} {t : TypeId} {e : TypeId} {n : Nat} {z : Value} {b : Nat} {a : Option Addr} {len cap : Nat} (ht : Ty P t (.slice e) n z b) (hx : evalT T x = .slice a len cap) :
    Runs P ⟨dst, .call { callee := .builtin .len, args := #[x], argTypes := #[t] }, ty, ps, af, gd⟩ (.int .i64 len) H T H :=
  Runs.pure fun ρ w ac _ hT => by
    obtain ⟨a', c', hv⟩ := rel_len (hx ▸ hT.eval x)
    exact ⟨.int .i64 len, by simp [execOp, resolve, invoke, builtin, Builtin.len_, hv, ht.und w, goInt], .int _ _⟩
def evalL (T : List Value) : List Operand → List Value
  | [] => []
  | x :: xs => evalT T x :: evalL T xs
theorem evalL_eq (T : List Value) : ∀ xs : List Operand, evalL T xs = xs.map (evalT T)
  | [] => rfl
  | x :: xs => by rw [evalL, evalL_eq T xs]; rfl
theorem map_rel {ρ : Ren} {ac : Act} {o : Op} (hT : OpRel ρ T ac o) (xs : Array Operand) (hxs : ∀ x ∈ xs.toList, x ∈ o.operands.toList) : ARel ρ ⟨evalL T xs.toList⟩ (xs.map ac.eval) := by
  rw [evalL_eq]
  exact ⟨by simp, fun j h1 h2 => by simp only [List.getElem_toArray, List.getElem_map, Array.getElem_toList, Array.getElem_map]; exact hT.eval _ (hxs _ (by simp))⟩
theorem runs_makeFunc {f : FuncId} {first captured : Array Operand} {xs cs : List Value} (hx : evalL T first.toList = xs) (hc : evalL T captured.toList = cs) :
    Runs P ⟨dst, .makeFunc (.func f) first captured, ty, ps, af, gd⟩ (.func (.func f) ⟨xs⟩ ⟨cs⟩) H T H :=
  Runs.pure fun ρ w ac _ hT => by
    subst hx; subst hc
    have h1 := map_rel hT first (fun x hx => by simp [Op.operands]; exact .inl (by simpa using hx))
    have h2 := map_rel hT captured (fun x hx => by simp [Op.operands]; exact .inr (by simpa using hx))
    exact ⟨_, rfl, .func h1.1 h1.2 h2.1 h2.2⟩
theorem runs_sliceTo {t : TypeId} {x hi : Operand} {e : TypeId} {n : Nat} {z : Value} {b : Nat} {d' : TypeDesc} {n' : Nat} {z' : Value} {b' : Nat} {i o len cap : Nat} {k : IntKind} {j : Int}
    (ht : Ty P t (.slice e) n z b) (he : Ty P e d' n' z' b') (hx : evalT T x = .slice (some ⟨i, o, none⟩) len cap) (hh : evalT T hi = .int k j) (h0 : 0 ≤ j) (h1 : j ≤ len) :
    Runs P ⟨dst, .slice t x none (some hi) none, ty, ps, af, gd⟩ (.slice (some ⟨i, o, none⟩) j.toNat j.toNat) H T H :=
  Runs.pure fun ρ w ac _ hT => by
    obtain ⟨m, cap', hm, hl, ho, hv⟩ := rel_slice (hx ▸ hT.eval x)
    have hj := rel_int (hh ▸ hT.eval hi)
    refine ⟨.slice (some ⟨m.blk, o, none⟩) j.toNat cap', ?_, .slice hm (by omega) ho⟩
    have hb : 0 ≤ j ∧ j ≤ cap' := ⟨h0, by omega⟩
    simp only [execOp, Instr.sliceAt, Instr.slice, hv, ht.und w, Sem.run_bind, Sem.run_pure, Result.andThen_ok, Option.map_some, Option.map_none, Instr.sliceBounds, Instr.sliceBound, hj, asIntOf, if_pos hb, he.sizeOf w,
      Nat.zero_mul, addr_add, Nat.add_zero, ite_self, Nat.sub_zero]
end
end Go.Abs
namespace Go.Abs
open Go
theorem foldl_set (off : Nat) : ∀ (vs : List Value) (k : Nat) (c : Array Value), off + k + vs.length ≤ c.size →
    (vs.zipIdx k).foldl (fun (cs : Array Value) (x : Value × Nat) => cs.setIfInBounds (off + x.2) x.1) c = (splice c.toList (off + k) vs).toArray
  | [], k, c, h => by simp [splice]
  | v :: vs, k, c, h => by
    simp only [List.zipIdx_cons, List.foldl_cons]
    rw [foldl_set off vs (k + 1) _ (by simp at h ⊢; omega)]
    apply congrArg List.toArray
    have e := list_seg_step c.toList (off + k) v vs (by simp at h ⊢; omega)
    simpa [splice, Nat.add_assoc] using e
def fillA (place : Nat → Option (Nat × Nat)) (cells : List Value) : List (Nat × Value) → Option (List Value)
  | [] => some cells
  | (i, v) :: rest =>
    match place i with
    | none => none
    | some (off, size) =>
      if (cellsL v).all cellOk && (cellsL v).length == size && decide (off + size ≤ cells.length) then fillA place (splice cells off (cellsL v)) rest else none
theorem fill_rel {ρ : Ren} {place : Nat → Option (Nat × Nat)} : ∀ (ps ps' : List (Nat × Value)) (cells cs : List Value) (c : Array Value), fillA place cells ps = some cs →
    cells.length = c.size → (∀ (j : Nat) (h1 : j < cells.length) (h2 : j < c.size), VRel ρ cells[j] c[j]) →
    ps.length = ps'.length → (∀ (j : Nat) (h1 : j < ps.length) (h2 : j < ps'.length), ps[j].1 = ps'[j].1 ∧ VRel ρ ps[j].2 ps'[j].2) →
    ∃ c', Instr.fill place c ps' = some c' ∧ cs.length = c'.size ∧ ∀ (j : Nat) (h1 : j < cs.length) (h2 : j < c'.size), VRel ρ cs[j] c'[j]
  | [], [], cells, cs, c, h, hl, hr, _, _ => by
    simp only [fillA, Option.some.injEq] at h
    subst h
    exact ⟨c, rfl, hl, hr⟩
  | [], _ :: _, _, _, _, _, _, _, hp, _ => by simp at hp
  | _ :: _, [], _, _, _, _, _, _, hp, _ => by simp at hp
  | (i, v) :: rest, (i', v') :: rest', cells, cs, c, h, hl, hr, hp, hpr => by
    have h0 := hpr 0 (by simp) (by simp)
    simp only [List.getElem_cons_zero] at h0
    obtain ⟨rfl, hv⟩ := h0
    simp only [fillA] at h
    cases hpl : place i with
    | none => rw [hpl] at h; cases h
    | some os =>
      obtain ⟨off, size⟩ := os
      rw [hpl] at h
      simp only at h
      split at h
      · rename_i hc
        simp only [Bool.and_eq_true, beq_iff_eq, decide_eq_true_eq] at hc
        obtain ⟨⟨hok, hsz⟩, hfit⟩ := hc
        obtain ⟨k1, k2⟩ := cells_rel hv (fun c hc => List.all_eq_true.1 hok c hc)
        have hz : v'.cells.size = size := by omega
        have hfold : v'.cells.zipIdx.foldl (fun cs (x : Value × Nat) => cs.setIfInBounds (off + x.2) x.1) c = (splice c.toList off v'.cells.toList).toArray := by
          rw [← Array.foldl_toList, Array.toList_zipIdx]
          have := foldl_set off v'.cells.toList 0 c (by simp; omega)
          simpa using this
        have hsp := splice_rel (ρ := ρ) (cells := cells) (vs := cellsL v) (c := c.toList) (vs' := v'.cells.toList) (o := off) (by simp; omega) (fun j h1 h2 => by simpa using hr j h1 (by simpa using h2)) (by simpa using k1)
          (fun j h1 h2 => by simpa using k2 j h1 (by simpa using h2)) (by omega)
        obtain ⟨c', hc', hl', hr'⟩ := fill_rel rest rest' _ cs (splice c.toList off v'.cells.toList).toArray h (by simp [splice]; omega)
          (fun j h1 h2 => by simpa using hsp.2 j h1 (by simpa using h2)) (by simpa using hp)
          (fun j h1 h2 => by have := hpr (j + 1) (by simpa using h1) (by simpa using h2); simpa using this)
        refine ⟨c', ?_, hl', hr'⟩
        simp only [Instr.fill, hpl, hz, ne_eq, not_true_eq_false, decide_false, Bool.false_or, decide_eq_true_eq]
        rw [if_neg (by simp; omega)]
        have e : v'.cells.zipIdx.foldl (fun cs x => match x with | (c, j) => cs.setIfInBounds (off + j) c) c = v'.cells.zipIdx.foldl (fun cs (x : Value × Nat) => cs.setIfInBounds (off + x.2) x.1) c := rfl
        rw [e, hfold]
        exact hc'
      · cases h
section
variable {P : Program} {T : List Value} {H : AHeap} {dst : Option Tmp} {ty : TypeId} {ps : String} {af : Array Edge} {gd : Option (Nat × Bool)}
abbrev partsC (ac : Act) (parts : Array (Nat × Operand)) : List (Nat × Value) := (parts.map fun (i, x) => (i, ac.eval x)).toList
abbrev partsT (T : List Value) (parts : Array (Nat × Operand)) : List (Nat × Value) := parts.toList.map fun x => (x.1, evalT T x.2)
theorem parts_rel {ρ : Ren} {ac : Act} {o : Op} (hT : OpRel ρ T ac o) (parts : Array (Nat × Operand)) (hp : ∀ x ∈ parts.toList, x.2 ∈ o.operands.toList) :
    (partsT T parts).length = (partsC ac parts).length ∧
    ∀ (j : Nat) (h1 : j < (partsT T parts).length) (h2 : j < (partsC ac parts).length), (partsT T parts)[j].1 = (partsC ac parts)[j].1 ∧ VRel ρ (partsT T parts)[j].2 (partsC ac parts)[j].2 := by
  refine ⟨by simp, fun j h1 h2 => ?_⟩
  simp only [partsT, partsC, Array.toList_map, List.getElem_map, Array.getElem_toList]
  exact ⟨trivial, hT.eval _ (hp _ (by simp))⟩
def placesOf (P : Program) (fields : Array Field) : Option (Array (Nat × Nat)) := fields.mapM fun f => (P.info? f.type).map fun i => (f.offset, i.size)
theorem run_places {fields : Array Field} {places : Array (Nat × Nat)} (h : placesOf P fields = some places) (w : World) :
    ((fields.mapM fun f => do pure (f.offset, ← sizeOf f.type)) : Sem (Array (Nat × Nat))).run P w = .ok places w := by
  have key : ∀ (l : List Field) (r : List (Nat × Nat)), (l.mapM fun f => (P.info? f.type).map fun i => (f.offset, i.size)) = some r →
      ((l.mapM fun f => do pure (f.offset, ← sizeOf f.type)) : Sem (List (Nat × Nat))).run P w = .ok r w := by
    intro l
    induction l with
    | nil => intro r hr; simp at hr; subst hr; simp
    | cons f l ih =>
      intro r hr
      simp only [List.mapM_cons, Option.bind_eq_bind, Option.pure_def] at hr
      cases hi : P.info? f.type with
      | none => rw [hi] at hr; simp at hr
      | some i =>
        rw [hi] at hr
        simp only [Option.map_some, Option.bind_some] at hr
        cases hl : l.mapM fun f => (P.info? f.type).map fun i => (f.offset, i.size) with
        | none => rw [hl] at hr; simp at hr
        | some r' =>
          rw [hl] at hr
          simp only [Option.bind_some, Option.some.injEq] at hr
          subst hr
          have := ih r' hl
          have hsz : (Go.sizeOf f.type).run P w = .ok i.size w := by simp [Go.sizeOf, typeInfo, hi]
          rw [List.mapM_cons]
          simp only [Sem.run_bind, hsz, Result.andThen_ok, Sem.run_pure] at this ⊢
          rw [this]
          rfl
  have h1 : fields.toList.mapM (fun f => (P.info? f.type).map fun i => (f.offset, i.size)) = some places.toList := by
    unfold placesOf at h
    rw [Array.mapM_eq_mapM_toList] at h
    cases hl : fields.toList.mapM (fun f => (P.info? f.type).map fun i => (f.offset, i.size)) with
    | none => rw [hl] at h; simp at h
    | some r => rw [hl] at h; simp at h; subst h; rfl
  have h2 := key fields.toList places.toList h1
  rw [Array.mapM_eq_mapM_toList]
  change Sem.run P (Bind.bind (List.mapM (fun f => do pure (f.offset, ← Go.sizeOf f.type)) fields.toList) (fun r => Pure.pure r.toArray)) w = _
  rw [Sem.run_bind, h2]
  rfl
theorem runs_buildS {t : TypeId} {parts : Array (Nat × Operand)} {fields : Array Field} {n : Nat} {z : Value} {b : Nat} {places : Array (Nat × Nat)} {cs : List Value}
    (ht : Ty P t (.struct fields) n z b) (hp : placesOf P fields = some places) (hcs : fillA (places[·]?) ((cellsL z).map constT) (partsT T parts) = some cs) :
    Runs P ⟨dst, .build t parts, ty, ps, af, gd⟩ (.agg ⟨cs⟩) H T H :=
  Runs.pure fun ρ w ac _ hT => by
    have hz : (cellsL z).length = z.cells.size ∧ ∀ (j : Nat) (h1 : j < (cellsL z).length) (h2 : j < z.cells.size), (cellsL z)[j] = z.cells[j] := by
      cases z <;> simp [cellsL, Value.cells]
    obtain ⟨p1, p2⟩ := parts_rel hT parts (fun x hx => by simp [Op.operands]; exact ⟨x.1, by simpa using hx⟩)
    obtain ⟨c', h1, h2, h3⟩ := fill_rel (ρ := ρ) _ _ _ cs z.cells hcs (by simp [hz.1]) (fun j h1 h2 => by simp only [List.getElem_map]; rw [hz.2 j (by simpa using h1) h2]; exact constT_rel ρ _) p1 p2
    refine ⟨.agg c', ?_, .agg (by simpa using h2) fun j a b => by simpa using h3 j (by simpa using a) b⟩
    simp only [execOp, Instr.build, Sem.run_bind, ht.zero w, Result.andThen_ok, ht.und w, run_places hp w, h1, Sem.run_pure]
theorem runs_buildA {t : TypeId} {parts : Array (Nat × Operand)} {len : Nat} {e : TypeId} {n : Nat} {z : Value} {b : Nat} {d' : TypeDesc} {n' : Nat} {z' : Value} {b' : Nat} {cs : List Value}
    (ht : Ty P t (.array len e) n z b) (he : Ty P e d' n' z' b') (hcs : fillA (fun i => some (i * n', n')) ((cellsL z).map constT) (partsT T parts) = some cs) :
    Runs P ⟨dst, .build t parts, ty, ps, af, gd⟩ (.agg ⟨cs⟩) H T H :=
  Runs.pure fun ρ w ac _ hT => by
    have hz : (cellsL z).length = z.cells.size ∧ ∀ (j : Nat) (h1 : j < (cellsL z).length) (h2 : j < z.cells.size), (cellsL z)[j] = z.cells[j] := by
      cases z <;> simp [cellsL, Value.cells]
    obtain ⟨p1, p2⟩ := parts_rel hT parts (fun x hx => by simp [Op.operands]; exact ⟨x.1, by simpa using hx⟩)
    obtain ⟨c', h1, h2, h3⟩ := fill_rel (ρ := ρ) _ _ _ cs z.cells hcs (by simp [hz.1]) (fun j h1 h2 => by simp only [List.getElem_map]; rw [hz.2 j (by simpa using h1) h2]; exact constT_rel ρ _) p1 p2
    refine ⟨.agg c', ?_, .agg (by simpa using h2) fun j a b => by simpa using h3 j (by simpa using a) b⟩
    simp only [execOp, Instr.build, Sem.run_bind, ht.zero w, Result.andThen_ok, ht.und w, he.sizeOf w, h1, Sem.run_pure]
theorem runs_newSlice {o : Oper} (cells : List Value) (es len : Nat) (h : ∀ (ρ : Ren) (w : World) (ac : Act), SRel ρ H w → OpRel ρ T ac o.op →
      ∃ (c : Array Value) (e : TypeId) (cap : Nat) (w1 : World), (execOp ac.eval o).run P w = .ok (.value (.slice (some ⟨w.heap.size, 0, none⟩) len cap)) (w1.alloc (.cells c e)) ∧ (w1 = w ∨ w1 = w.drew) ∧ len ≤ cap ∧ cap * es = c.size ∧ cells.length ≤ c.size ∧
        ∀ (j : Nat) (h1 : j < cells.length) (h2 : j < c.size), VRel ρ cells[j] c[j]) :
    Runs P o (.slice (some ⟨H.length, 0, none⟩) len len) (H ++ [.row cells es true]) T H := by
  intro ρ w ac hs ht
  obtain ⟨c, e, cap, w1, hr, hw1, hlen, hcap, hl, hv⟩ := h ρ w ac hs ht
  have hs1 : SRel ρ H w1 := by rcases hw1 with rfl | rfl; exact hs; exact hs.drew
  have hz : w1.heap.size = w.heap.size := by rcases hw1 with rfl | rfl <;> rfl
  have st1 : Step ρ H w ρ H w1 := by rcases hw1 with rfl | rfl; exact .refl _ _ _; exact Step.drew _ _ _
  obtain ⟨h1, h2⟩ := hs1.alloc (.row cells es true) (.cells c e) ⟨w.heap.size, c.size, es, true⟩ hz.symm ⟨rfl, rfl, c, e, (0, 0), rfl, rfl, fun _ => rfl, hl, hv⟩
  exact ⟨_, _, _, .inl hr, .slice (m := ⟨w.heap.size, c.size, es, true⟩) (Ren.add_same _ _ _) hlen (fun _ => by simpa using hcap), h1, st1.trans h2⟩
theorem runs_buildSlice {t : TypeId} {len : Nat} {parts : Array (Nat × Operand)} {e : TypeId} {n : Nat} {z : Value} {b : Nat} {d' : TypeDesc} {n' : Nat} {z' : Value} {b' : Nat} {cs : List Value}
    (ht : Ty P t (.slice e) n z b) (he : Ty P e d' n' z' b') (hlen : len * n' ≤ 2 ^ 24) (hcs : fillA (fun i => some (i * n', n')) (List.replicate (len * n') wild) (partsT T parts) = some cs) :
    Runs P ⟨dst, .buildSlice t len parts, ty, ps, af, gd⟩ (.slice (some ⟨H.length, 0, none⟩) len len) (H ++ [.row cs n' true]) T H :=
  runs_newSlice cs n' len fun ρ w ac _ hT => by
    obtain ⟨p1, p2⟩ := parts_rel hT parts (fun x hx => by simp [Op.operands]; exact ⟨x.1, by simpa using hx⟩)
    let zero : Array Value := if len * n' = 0 then #[] else z'.cells
    obtain ⟨c', h1, h2, h3⟩ := fill_rel (ρ := ρ) _ _ _ cs ((Array.range (len * n')).map (zero[· % zero.size]!)) hcs (by simp) (fun j h1 h2 => by simp only [List.getElem_replicate]; exact .wild _) p1 p2
    have hsz : c'.size = len * n' := by
      have hl : ∀ (ps : List (Nat × Value)) (a c : List Value), fillA (fun i => some (i * n', n')) a ps = some c → c.length = a.length := by
        intro ps
        induction ps with
        | nil => intro a c h; simp [fillA] at h; rw [h]
        | cons p ps ih =>
          intro a c h
          simp only [fillA] at h
          split at h
          · rename_i hc
            simp only [Bool.and_eq_true, beq_iff_eq, decide_eq_true_eq] at hc
            rw [ih _ _ h]; simp [splice]; omega
          · cases h
      have := hl _ _ _ hcs
      simp at this
      omega
    refine ⟨c', e, len, w, ?_, .inl rfl, Nat.le_refl _, by omega, by omega, h3⟩
    simp only [execOp, Instr.buildSlice, Sem.run_bind, ht.und w, Result.andThen_ok, he.sizeOf w]
    rw [if_neg (by omega)]
    simp only [Sem.run_pure]
    by_cases h0 : len * n' = 0
    · simp only [zero, h0, if_true] at h1
      simp only [h0, if_true, Sem.run_bind, Sem.run_pure, Result.andThen_ok]
      have h1' : Instr.fill (fun i => some (i * n', n')) (Array.map (fun x => (#[] : Array Value)[x % (#[] : Array Value).size]!) (Array.range 0)) (parts.map fun (i, x) => (i, ac.eval x)).toList = some c' := h1
      rw [h1']
      simp [newRow]
    · simp only [zero, h0, if_false] at h1
      simp only [h0, if_false, Sem.run_bind, he.zero w, Sem.run_pure, Result.andThen_ok]
      have h1' : Instr.fill (fun i => some (i * n', n')) (Array.map (fun x => z'.cells[x % z'.cells.size]!) (Array.range (len * n'))) (parts.map fun (i, x) => (i, ac.eval x)).toList = some c' := h1
      rw [h1']
      simp [newRow]
end
end Go.Abs
namespace Go.Abs
open Go
theorem SRel.alias {ρ : Ren} {H : AHeap} {w : World} (h : SRel ρ H w) (o : AObj) (m : Img) (hlt : m.blk < w.heap.size) (_hown : m.own = true) (hno : ∀ i m' o', ρ i = some m' → H[i]? = some o' → o'.dead? = false → m'.blk ≠ m.blk)
    (hor : ORel ρ o m w.heap[m.blk]?) : SRel (ρ.add H.length m) (H ++ [o]) w ∧ ∀ b, LiveOwn (ρ.add H.length m) (H ++ [o]) b → b = m.blk ∨ LiveOwn ρ H b := by
  have hle := Ren.add_le h m
  have hget : ∀ i, i < H.length → (H ++ [o])[i]? = H[i]? := fun i hi => List.getElem?_append_left hi
  have hnew : (H ++ [o])[H.length]? = some o := by simp
  have hold : ∀ {i m'}, (ρ.add H.length m) i = some m' → i ≠ H.length → ρ i = some m' := fun {i m'} hi hne => by simpa only [Ren.add, if_neg hne] using hi
  have hnm : ∀ {m'}, (ρ.add H.length m) H.length = some m' → m' = m := fun {m'} hi => by simp [Ren.add] at hi; exact hi.symm
  refine ⟨⟨fun i m' hi => ?_, fun i m' o' hi ho => ?_, fun i j m1 m2 o1 o2 hi hj ho1 ho2 hd1 hd2 hown1 hbb => ?_⟩, fun b hb' => ?_⟩
  · by_cases e : i = H.length
    · subst e; rw [hnm hi]; exact ⟨by simp, hlt⟩
    · obtain ⟨h1, h2⟩ := h.dom i m' (hold hi e)
      exact ⟨by simp; omega, h2⟩
  · by_cases e : i = H.length
    · subst e
      rw [hnew] at ho; cases ho
      rw [hnm hi]
      exact hor.mono hle
    · have hi' := hold hi e
      rw [hget i (h.dom i m' hi').1] at ho
      exact (h.obj i m' o' hi' ho).mono hle
  · by_cases e1 : i = H.length
    · by_cases e2 : j = H.length
      · rw [e1, e2]
      · subst e1
        have hj' := hold hj e2
        rw [hget j (h.dom j m2 hj').1] at ho2
        rw [hnm hi] at hbb
        exact absurd hbb.symm (hno j m2 o2 hj' ho2 hd2)
    · by_cases e2 : j = H.length
      · subst e2
        have hi' := hold hi e1
        rw [hget i (h.dom i m1 hi').1] at ho1
        rw [hnm hj] at hbb
        exact absurd hbb (hno i m1 o1 hi' ho1 hd1)
      · have hi' := hold hi e1
        have hj' := hold hj e2
        rw [hget i (h.dom i m1 hi').1] at ho1
        rw [hget j (h.dom j m2 hj').1] at ho2
        exact h.inj i j m1 m2 o1 o2 hi' hj' ho1 ho2 hd1 hd2 hown1 hbb
  · obtain ⟨i, m', o', hi, ho, hd, hown', rfl⟩ := hb'
    by_cases e : i = H.length
    · subst e; rw [hnm hi]; exact .inl rfl
    · have hi' := hold hi e
      rw [hget i (h.dom i m' hi').1] at ho
      exact .inr ⟨i, m', o', hi', ho, hd, hown', rfl⟩
section
variable {P : Program} {T : List Value} {H : AHeap} {dst : Option Tmp} {ty : TypeId} {ps : String} {af : Array Edge} {gd : Option (Nat × Bool)}
theorem slice_cells {ρ : Ren} {w : World} (hs : SRel ρ H w) {i o len cap : Nat} {v' : Value} {cells : List Value} {es : Nat} {own : Bool} (hv : VRel ρ (.slice (some ⟨i, o, none⟩) len cap) v') (hi : H[i]? = some (.row cells es own))
    (n : Nat) (hn : o + n ≤ cells.length) :
    ∃ (b cap' : Nat) (r : List Value), v' = .slice (some ⟨b, o, none⟩) len cap' ∧ r.length = n ∧ (∀ j u, r[j]? = some u → w.cell? ((⟨b, o, none⟩ : Addr).add j) = some u) ∧
      (∀ (j : Nat) (h1 : j < ((cells.drop o).take n).length) (h2 : j < r.length), VRel ρ ((cells.drop o).take n)[j] r[j]) := by
  obtain ⟨m, cap', hm, hl, ho, rfl⟩ := rel_slice hv
  obtain ⟨_, _, c, e, fr, hb, _, _, hl', hr⟩ := hs.row hm hi
  refine ⟨m.blk, cap', (c.toList.drop o).take n, rfl, by simp; omega, fun j u hu => ?_, fun j h1 h2 => ?_⟩
  · rw [addr_add, cell_at hb]
    rw [List.getElem?_take] at hu
    split at hu
    · rw [List.getElem?_drop] at hu; simpa using hu
    · cases hu
  · simp only [List.getElem_take, List.getElem_drop, Array.getElem_toList]
    simp at h1
    exact hr _ _ (by omega)
theorem size_zc (z : Array Value) (n : Nat) : (Builtin.zeroCells z n).size = n * z.size := by simp [Builtin.zeroCells]
theorem runs_appendNil {s x : Operand} {t e : TypeId} {n : Nat} {z : Value} {b : Nat} {d' : TypeDesc} {n' : Nat} {z' : Value} {b' : Nat} {i o m cap : Nat} {cells news : List Value} {es : Nat} {own : Bool}
    (ht : Ty P t (.slice e) n z b) (he : Ty P e d' n' z' b') (hz' : (cellsL z').length = n') (hs_ : evalT T s = .slice none 0 0) (hx : evalT T x = .slice (some ⟨i, o, none⟩) m cap) (hi : H[i]? = some (.row cells es own))
    (hfit : o + m * n' ≤ cells.length) (hnews : (cells.drop o).take (m * n') = news) (h0 : 0 < m) (h63 : m ≤ maxLen) (h48 : m * b' ≤ 140737488355328) :
    Runs P ⟨dst, .call { callee := .builtin .append, args := #[s, x], argTypes := #[t, t] }, ty, ps, af, gd⟩ (.slice (some ⟨H.length, 0, none⟩) m m) (H ++ [.row news n' true]) T H :=
  runs_newSlice news n' m fun ρ w ac hs hT => by
    subst hnews
    have hsv := rel_nilSlice (hs_ ▸ hT.eval s)
    obtain ⟨bk, cap', r, hxv, hrl, hrc, hrr⟩ := slice_cells hs (hx ▸ hT.eval x) hi (m * n') hfit
    obtain ⟨hu, ti, hti, hsz, hzero, hby⟩ := he
    have hz2 : z'.cells.size = n' := by rw [← hz']; cases z' <;> simp [cellsL, Value.cells]
    have hr := run_append_nil (P := P) w t ty e ti z' ht.1 hti hzero ⟨bk, o, none⟩ m cap' r (by rw [hrl, hsz]) hrc h0 (by simp only [maxLen] at h63; omega) (by rw [hby]; omega)
    have hge : m ≤ grownCap w m 0 e := grownCap_ge w m 0 e
    refine ⟨r.toArray ++ Builtin.zeroCells z'.cells (grownCap w m 0 e - m), e, grownCap w m 0 e, w.drew, ?_, .inr rfl, hge, ?_, ?_, fun j h1 h2 => ?_⟩
    · simp only [execOp, resolve, Sem.run_bind, Sem.run_pure, Result.andThen_ok, invoke, builtin, Array.map]
      have e1 : (#[s, x] : Array Operand).map ac.eval = #[.slice none 0 0, .slice (some ⟨bk, o, none⟩) m cap'] := by simp [hsv, hxv]
      have e2 := e1
      simp only [Array.map] at e2
      simp only [e2, hr, Result.andThen_ok]
    · simp only [Array.size_append, List.size_toArray, hrl, size_zc, hz2]
      rw [← Nat.add_mul]; congr 1; omega
    · simp only [Array.size_append, List.size_toArray, hrl]; simp; omega
    · simp at h1
      rw [Array.getElem_append_left (by simp; omega)]
      simp only [List.getElem_toArray]
      exact hrr j (by simp; omega) _
theorem run_append_room' {w : World} {t ty e : TypeId} {i : TypeInfo} (ht : P.underlying t = some (.slice e)) (hi : P.info? e = some i)
    {g sLen sCap : Nat} {cur : Array Value} {e' : TypeId} (hg : w.heap[g]? = some (.cells cur e' (0, 0)))
    {a : Addr} {m c : Nat} {news : List Value} (hl : news.length = m * i.size) (hnews : ∀ j u, news[j]? = some u → w.cell? (a.add j) = some u) (h1 : ∀ u ∈ news, u.oneCell' = true)
    (hroom : sLen + m ≤ sCap) (hfit : sLen * i.size + news.length ≤ cur.size) :
    (Builtin.append_ #[t, t] ty #[.slice (some ⟨g, 0, none⟩) sLen sCap, .slice (some a) m c]).run P w =
      .ok (.slice (some ⟨g, 0, none⟩) (sLen + m) sCap) (w.setRow g (splice cur.toList (sLen * i.size) news).toArray) := by
  have hf := run_firstCells_some (P := P) w i.size m a m c news hl hnews
  have hst := run_storeCells_at P g (sLen * i.size) e' news 0 cur w hg (by simpa using hfit) h1
  simp only [Nat.add_zero] at hst
  simp [Builtin.append_, run_underlying ht, sizeOf, typeInfo, hi, Builtin.lenOf, hroom, hf, Addr.add_lit, hst, splice]
theorem runs_appendOwn {s x : Operand} {t e : TypeId} {n : Nat} {z : Value} {b : Nat} {d' : TypeDesc} {n' : Nat} {z' : Value} {b' : Nat} {i0 len cp i o m cap : Nat} {cells0 cells news : List Value} {es : Nat} {own : Bool}
    (ht : Ty P t (.slice e) n z b) (he : Ty P e d' n' z' b') (hz' : (cellsL z').length = n') (hs_ : evalT T s = .slice (some ⟨i0, 0, none⟩) len cp) (hi0 : H[i0]? = some (.row cells0 n' true)) (hlen : len * n' ≤ cells0.length)
    (hx : evalT T x = .slice (some ⟨i, o, none⟩) m cap) (hi : H[i]? = some (.row cells es own))
    (hfit : o + m * n' ≤ cells.length) (hnews : (cells.drop o).take (m * n') = news) (hok : news.all cellOk = true) (h63 : len + m ≤ maxLen) (h48 : (len + m) * b' ≤ 140737488355328) :
    Runs P ⟨dst, .call { callee := .builtin .append, args := #[s, x], argTypes := #[t, t] }, ty, ps, af, gd⟩ (.slice (some ⟨H.length, 0, none⟩) (len + m) (len + m)) (H.set i0 .dead ++ [.row (cells0.take (len * n') ++ news) n' true]) T H := by
  intro ρ w ac hs hT
  subst hnews
  obtain ⟨m0, cap0, hm0, hl0, ho0, hsv⟩ := rel_slice (hs_ ▸ hT.eval s)
  obtain ⟨hes0, hown0, c0, e0, fr0, hb0, hcs0, hfr0, hle0, hr0⟩ := hs.row hm0 hi0
  have hfr0' := hfr0 rfl
  subst hfr0'
  have hcap0 := ho0 hown0
  rw [hes0] at hcap0
  obtain ⟨bk, cap', r, hxv, hrl, hrc, hrr⟩ := slice_cells hs (hx ▸ hT.eval x) hi (m * n') hfit
  have he' := he
  obtain ⟨hu, ti, hti, hsz, hzero, hby⟩ := he'
  have hz2 : z'.cells.size = n' := by rw [← hz']; cases z' <;> simp [cellsL, Value.cells]
  have e1 : (#[s, x] : Array Operand).map ac.eval = #[.slice (some ⟨m0.blk, 0, none⟩) len cap0, .slice (some ⟨bk, o, none⟩) m cap'] := by simp [hsv, hxv]
  have hexec : ∀ v' w', (Builtin.append_ #[t, t] ty #[.slice (some ⟨m0.blk, 0, none⟩) len cap0, .slice (some ⟨bk, o, none⟩) m cap']).run P w = .ok v' w' →
      (execOp ac.eval ⟨dst, .call { callee := .builtin .append, args := #[s, x], argTypes := #[t, t] }, ty, ps, af, gd⟩).run P w = .ok (.value v') w' := by
    intro v' w' h
    simp only [execOp, resolve, Sem.run_bind, Sem.run_pure, Result.andThen_ok, invoke, builtin]
    rw [e1, h]; rfl
  have hnl : ((cells.drop o).take (m * n')).length = m * n' := by simp; omega
  have hlive : LiveOwn ρ H m0.blk := ⟨i0, m0, _, hm0, hi0, rfl, hown0, rfl⟩
  have hblt : m0.blk < w.heap.size := (hs.dom i0 m0 hm0).2
  have hlenH : i0 < H.length := (hs.dom i0 m0 hm0).1
  by_cases hroom : len + m ≤ cap0
  ·
    have hone : ∀ u ∈ r, u.oneCell' = true := by
      intro u hu
      obtain ⟨j, hj, hju⟩ := List.getElem_of_mem hu
      rw [← hju]
      exact cellOk_rel (hrr j (by omega) hj) (List.all_eq_true.1 hok _ (List.getElem_mem _))
    have hmul : (len + m) * n' ≤ cap0 * n' := Nat.mul_le_mul_right _ hroom
    rw [Nat.add_mul] at hmul
    have hr := run_append_room' (P := P) (ty := ty) ht.1 hti hb0 (a := ⟨bk, o, none⟩) (c := cap') (by rw [hrl, hsz]) hrc hone hroom (by rw [hsz, hrl, hcs0]; omega)
    rw [hsz] at hr
    have hrow := setRow_heap w m0.blk c0 (splice c0.toList (len * n') r).toArray e0 (0, 0) hb0
    obtain ⟨hs1, st1⟩ := hs.turn (w' := w.setRow m0.blk (splice c0.toList (len * n') r).toArray) .dead hm0 hi0 rfl hown0 (fun k hk => setRow_other w m0.blk k _ hk) (setRow_size w m0.blk _) rfl rfl rfl trivial
    have hor : ORel ρ (.row (cells0.take (len * n') ++ (cells.drop o).take (m * n')) n' true) m0 (w.setRow m0.blk (splice c0.toList (len * n') r).toArray).heap[m0.blk]? := by
      refine ⟨hes0, hown0, _, e0, (0, 0), hrow, by simp [splice, hrl]; omega, fun _ => rfl, by simp [splice, hrl]; omega, fun j h1 h2 => ?_⟩
      simp only [List.getElem_toArray]
      simp only [List.length_append, List.length_take, hnl] at h1
      unfold splice
      by_cases hj : j < len * n'
      · rw [List.getElem_append_left (by simp; omega), List.getElem_take, List.getElem_append_left (by simp; omega), List.getElem_append_left (by simp; omega), List.getElem_take, Array.getElem_toList]
        exact hr0 j _ _
      · rw [List.getElem_append_right (by simp; omega), List.getElem_append_left (by simp; omega), List.getElem_append_right (by simp; omega)]
        have e2 : (cells0.take (len * n')).length = len * n' := by simp; omega
        have e3 : (c0.toList.take (len * n')).length = len * n' := by simp; omega
        have := hrr (j - len * n') (by omega) (by omega)
        simp only [e2, e3]
        exact this
    obtain ⟨hs2, hl2⟩ := hs1.alias _ m0 (by rw [setRow_size]; exact hblt) hown0 (fun j mj oj hj hoj hdj hbb => by
      have hji : j ≠ i0 := fun e => by subst e; rw [List.getElem?_set_self hlenH] at hoj; cases hoj; cases hdj
      rw [List.getElem?_set_ne (Ne.symm hji)] at hoj
      exact hji (hs.inj i0 j m0 mj _ oj hm0 hj hi0 hoj rfl hdj hown0 hbb.symm).symm) hor
    rw [List.length_set] at hs2 hl2
    refine ⟨_, _, _, .inl (hexec _ _ hr), .slice (m := m0) (Ren.add_same _ _ _) hroom (fun _ => by rw [hes0]; exact hcap0), hs2,
      ⟨by simp, fun j hj => by simp only [Ren.add, if_neg (show j ≠ H.length by omega)], rfl, rfl, rfl, by rw [setRow_size]; exact Nat.le_refl _, st1.keep, fun k hk => ?_⟩⟩
    rcases hl2 k hk with h1 | h1
    · exact .inr (h1 ▸ hlive)
    · exact st1.fresh k h1
  ·
    have holds : ∀ j v, (c0.toList.take (len * n'))[j]? = some v → w.cell? ((⟨m0.blk, 0, none⟩ : Addr).add j) = some v := fun j v hv => by
      rw [addr_add, cell_at hb0, Nat.zero_add]
      rw [List.getElem?_take] at hv
      split at hv
      · simpa using hv
      · cases hv
    have hmul : len * n' ≤ cap0 * n' := Nat.mul_le_mul_right _ hl0
    have hr := run_append_grow (P := P) w t ty e ti z' ht.1 hti hzero ⟨m0.blk, 0, none⟩ len cap0 (c0.toList.take (len * n')) (by rw [hsz]; simp; omega) holds ⟨bk, o, none⟩ m cap' r (by rw [hrl, hsz]) hrc (by omega)
      (by simp only [maxLen] at h63; omega) (growslice_fits (by omega) (by rw [hby]; exact h48))
    have hge : len + m ≤ grownCap w (len + m) cap0 e := grownCap_ge w (len + m) cap0 e
    obtain ⟨hs1, st1⟩ := hs.drew.turn (w' := w.drew) .dead hm0 hi0 rfl hown0 (fun _ _ => rfl) rfl rfl rfl rfl trivial
    let C := (c0.toList.take (len * n')).toArray ++ r.toArray ++ Builtin.zeroCells z'.cells (grownCap w (len + m) cap0 e - (len + m))
    have hCs : C.size = grownCap w (len + m) cap0 e * n' := by
      simp only [C, Array.size_append, List.size_toArray, hrl, size_zc, hz2, List.length_take, Array.length_toList]
      rw [show min (len * n') c0.size = len * n' by omega, ← Nat.add_mul, ← Nat.add_mul]; congr 1; omega
    have hor : ORel ρ (.row (cells0.take (len * n') ++ (cells.drop o).take (m * n')) n' true) ⟨w.heap.size, C.size, n', true⟩ (some (.cells C e (0, 0))) := by
      refine ⟨rfl, rfl, C, e, (0, 0), rfl, rfl, fun _ => rfl, ?_, fun j h1 h2 => ?_⟩
      · simp only [C, Array.size_append, List.size_toArray, hrl, List.length_append, hnl, List.length_take, Array.length_toList]; omega
      · simp only [List.length_append, List.length_take, hnl] at h1
        simp only [C]
        rw [Array.getElem_append_left (by simp; omega)]
        by_cases hj : j < len * n'
        · rw [List.getElem_append_left (by simp; omega), List.getElem_take, Array.getElem_append_left (by simp; omega)]
          simp only [List.getElem_toArray, List.getElem_take, Array.getElem_toList]
          exact hr0 j _ _
        · rw [List.getElem_append_right (by simp; omega), Array.getElem_append_right (by simp; omega)]
          have e2 : (cells0.take (len * n')).length = len * n' := by simp; omega
          have e3 : (c0.toList.take (len * n')).toArray.size = len * n' := by simp; omega
          have := hrr (j - len * n') (by omega) (by omega)
          simp only [e2, e3, List.getElem_toArray]
          exact this
    obtain ⟨hs2, st2⟩ := hs1.alloc _ (.cells C e) ⟨w.heap.size, C.size, n', true⟩ rfl hor
    rw [List.length_set] at hs2 st2
    exact ⟨_, _, _, .inl (hexec _ _ hr), .slice (m := ⟨w.heap.size, C.size, n', true⟩) (Ren.add_same _ _ _) hge (fun _ => by simp only [hCs, Nat.zero_add]), hs2, ((Step.drew ρ H w).trans st1).trans st2⟩
theorem runs_makeSlice {t : TypeId} {l c : Operand} {e : TypeId} {n : Nat} {z : Value} {b : Nat} {d' : TypeDesc} {n' : Nat} {z' : Value} {b' : Nat} {k k' : IntKind} {jl jc : Int} {cs : List Value}
    (ht : Ty P t (.slice e) n z b) (he : Ty P e d' n' z' b') (hz' : (cellsL z').length = n') (hl : evalT T l = .int k jl) (hc : evalT T c = .int k' jc) (h0 : 0 ≤ jl) (h1 : jl ≤ jc) (h48 : (b' : Int) * jc ≤ 281474976710656) (h63 : jc ≤ 9223372036854775807)
    (hcl : cs.length = jl.toNat * n') (hcs : ∀ (j : Nat) (h : j < cs.length), cs[j] = constT ((cellsL z').getD (j % n') undef)) :
    Runs P ⟨dst, .makeSlice t l c, ty, ps, af, gd⟩ (.slice (some ⟨H.length, 0, none⟩) jl.toNat jl.toNat) (H ++ [.row cs n' true]) T H :=
  runs_newSlice cs n' jl.toNat fun ρ w ac _ hT => by
    have hlv := rel_int (hl ▸ hT.eval l)
    have hcv := rel_int (hc ▸ hT.eval c)
    obtain ⟨hu, ti, hti, hsz, hzero, hby⟩ := he
    have hzz : (cellsL z').length = z'.cells.size ∧ ∀ (j : Nat) (h1 : j < (cellsL z').length) (h2 : j < z'.cells.size), (cellsL z')[j] = z'.cells[j] := by
      cases z' <;> simp [cellsL, Value.cells]
    have hr := run_make (P := P) w t e ti z' ht.1 hti hzero k k' jl jc h0 h1 (by rw [hby]; exact h48) h63
    have hle : jl.toNat * n' ≤ jc.toNat * n' := Nat.mul_le_mul_right _ (by omega)
    rw [hsz] at hr
    refine ⟨madeCells z'.cells (jc.toNat * n'), e, jc.toNat, w, ?_, .inl rfl, by omega, by rw [size_madeCells], by rw [size_madeCells]; omega, fun j h2 h3 => ?_⟩
    · simp only [execOp, hlv, hcv, Sem.run_bind, hr, Result.andThen_ok, Sem.run_pure]
    · rw [hcs j h2]
      rw [size_madeCells] at h3
      have hpos : 0 < n' := by
        rcases Nat.eq_zero_or_pos n' with h | h
        · subst h; simp at h3
        · exact h
      have hmod : j % n' < n' := Nat.mod_lt _ hpos
      have e1 : (madeCells z'.cells (jc.toNat * n'))[j] = (cellsL z').getD (j % n') undef := by
        simp only [madeCells, Array.getElem_map, Array.getElem_range]
        have hs' : z'.cells.size = n' := by omega
        rw [hs', getElem!_pos z'.cells (j % n') (by omega), List.getD_eq_getElem?_getD, List.getElem?_eq_getElem (by omega), Option.getD_some]
        exact (hzz.2 _ _ _).symm
      rw [e1]
      exact constT_rel ρ _
end
end Go.Abs
namespace Go.Abs
open Go
section
variable {γ : Type} (P : Program) (E : Env γ)
def RetPost (K : Value → AHeap → γ → Prop) (ρ : Ren) (H : AHeap) (S : Nat → Prop) (w : World) : Ending → World → Prop :=
  fun e w' => ∃ ρ' v v' H' g' S', e = .returned v' ∧ VRel ρ' v v' ∧ Inv E ρ' H' g' S' w' ∧ Trans ρ H S w ρ' H' S' w' ∧ K v H' g'
def CallJ (f : FuncId) (args : List Value) (K : Value → AHeap → γ → Prop) (H : AHeap) (g : γ) : Prop :=
  ∀ (ρ : Ren) (w : World) (S : Nat → Prop) (args' : Array Value), Inv E ρ H g S w → ARel ρ ⟨args⟩ args' → Calls P f args' w (RetPost E K ρ H S w)
def CallV (fv : Value) (args : List Value) (K : Value → AHeap → γ → Prop) (H : AHeap) (g : γ) : Prop :=
  ∀ (ρ : Ren) (w : World) (S : Nat → Prop) (fv' : Value) (args' : Array Value), Inv E ρ H g S w → VRel ρ fv fv' → ARel ρ ⟨args⟩ args' →
    ∃ d, (Deferred.ofValue fv' args').run P w = .ok d w ∧
      ((∃ f as, (invoke d.target d.args).run P w = .ok (.enter f as) w ∧ Calls P f as w (RetPost E K ρ H S w)) ∨
       (∃ l f tmps assign body, (invoke d.target d.args).run P w = .ok (.round l f tmps assign body) w ∧ RoundIn (Wr none) 0 P l f tmps assign body w (RetPost E K ρ H S w)))
def Res (fn : Func) (T : List Value) (H : AHeap) (v : Value) : Prop :=
  ∀ (ρ : Ren) (w : World) (tmps : Array Value), SRel ρ H w → TRel ρ T tmps → ∃ v', (results fn tmps).run P w = .ok v' w ∧ VRel ρ v v'
def exitQ (fn : Func) (K : Value → AHeap → γ → Prop) : Exit → List Value → AHeap → γ → Prop
  | .normal, T, H, g | .ret, T, H, g => ∃ v, Res P fn T H v ∧ K v H g
  | _, _, _, _ => False
end
section
variable {γ : Type} {P : Program} {E : Env γ} {T : List Value} {H : AHeap} {g : γ} {K K' : Value → AHeap → γ → Prop}
theorem RetPost.mono (hk : ∀ v H g, K v H g → K' v H g) {ρ : Ren} {S : Nat → Prop} {w : World} {e : Ending} {w' : World} (h : RetPost E K ρ H S w e w') : RetPost E K' ρ H S w e w' := by
  obtain ⟨ρ', v, v', H', g', S', h1, h2, h3, h4, h5⟩ := h
  exact ⟨ρ', v, v', H', g', S', h1, h2, h3, h4, hk _ _ _ h5⟩
theorem CallJ.mono {f : FuncId} {args : List Value} (h : CallJ P E f args K H g) (hk : ∀ v H g, K v H g → K' v H g) : CallJ P E f args K' H g :=
  fun ρ w S args' hi ha => (h ρ w S args' hi ha).mono fun _ _ hp => hp.mono hk
theorem CallV.mono {fv : Value} {args : List Value} (h : CallV P E fv args K H g) (hk : ∀ v H g, K v H g → K' v H g) : CallV P E fv args K' H g := by
  intro ρ w S fv' args' hi hf ha
  obtain ⟨d, hd, hh⟩ := h ρ w S fv' args' hi hf ha
  refine ⟨d, hd, ?_⟩
  rcases hh with ⟨f, as, h1, h2⟩ | ⟨l, f, tmps, assign, body, h1, h2⟩
  · exact .inl ⟨f, as, h1, h2.mono fun _ _ hp => hp.mono hk⟩
  · exact .inr ⟨l, f, tmps, assign, body, h1, h2.mono fun _ _ hp => hp.mono hk⟩
theorem Inv.putObj {ρ : Ren} {S : Nat → Prop} {w : World} {D : Nat} {o o' : Obj} (h : Inv E ρ H g S w) (hS : ¬ S D) (hD : w.heap[D]? = some o) (hc : ∀ c e fr, o ≠ .cells c e fr) (hm : ∀ es ck, o ≠ .map es ck) (hit : ∀ a b c d, o ≠ .mapIter a b c d := by intro _ _ _ _ e; cases e) : Inv E ρ H g S (w.putObj D o') := by
  have hno := not_liveOwn_of_loop h.srel hD hc hm hit
  refine ⟨⟨fun i m hi => by have := h.srel.dom i m hi; simpa using this, fun i m ob hi ho => ?_, h.srel.inj⟩, E.stable g S w _ h.j (fun b hb => World.putObj_heap_other (fun e => hS (e ▸ hb))) (by simp) rfl rfl rfl, fun b hb => by simpa using h.bnd b hb, h.disj⟩
  have hor := h.srel.obj i m ob hi ho
  by_cases e : m.blk = D
  · cases ob with
    | row cells es own =>
      obtain ⟨_, _, c, e', fr, hb, _⟩ := hor
      rw [e, hD] at hb; cases hb; exact absurd rfl (hc _ _ _)
    | map es ck =>
      obtain ⟨_, es', hb, _⟩ := hor
      rw [e, hD] at hb; cases hb; exact absurd rfl (hm _ _)
    | iter mp ck sn =>
      obtain ⟨_, mm, _, hb⟩ := hor
      rw [e, hD] at hb; cases hb; exact absurd rfl (hit _ _ _ _)
    | tok _ => exact hor
    | dead => trivial
  · rw [World.putObj_heap_other e]; exact hor
theorem Trans.putObj (ρ : Ren) (H : AHeap) (S : Nat → Prop) (w : World) (D : Nat) (o : Obj) (w0 : World) (ρ0 : Ren) (H0 : AHeap) (S0 : Nat → Prop) (t : Trans ρ0 H0 S0 w0 ρ H S w) (hD : w0.heap.size ≤ D) : Trans ρ0 H0 S0 w0 ρ H S (w.putObj D o) :=
  ⟨t.next, t.ext, t.os, t.tape, t.out, by simpa using t.size, fun b hb hs hl => (World.putObj_heap_other (by omega)).trans (t.keep b hb hs hl), t.fresh, t.grow⟩
theorem leaves_marks {fn : Func} {ρ : Ren} {T : List Value} {tmps : Array Value} {v : Value} (hres : Res P fn T H v) (hk : K v H g) (ρ0 : Ren) (H0 : AHeap) (S0 : Nat → Prop) (w0 : World) (S : Nat → Prop) :
    ∀ (Ds : List Nat) (w : World), Inv E ρ H g S w → TRel ρ T tmps → Trans ρ0 H0 S0 w0 ρ H S w → Ds.Nodup → (∀ D ∈ Ds, w0.heap.size ≤ D ∧ ¬ S D ∧ w.heap[D]? = some (.deferred (some []))) →
      LeavesInM (Wr none) 0 P fn tmps (RetPost E K ρ0 H0 S0 w0) (Ds.map fun D => { target := .collected D, args := #[] }) .returning w
  | [], w, hi, ht, tr, _, _ => by
    obtain ⟨v', h1, h2⟩ := hres ρ w tmps hi.srel ht
    exact ⟨v', h1, ρ, v, v', H, g, S, rfl, h2, hi, tr, hk⟩
  | D :: Ds, w, hi, ht, tr, hn, hD => by
    obtain ⟨h1, h2, h3⟩ := hD D (by simp)
    refine ⟨by simp, .inl ⟨D, _, rfl, run_takeDeferred h3, ?_⟩⟩
    refine leaves_marks hres hk ρ0 H0 S0 w0 S Ds _ (hi.putObj h2 h3 (fun _ _ _ e => by cases e) (fun _ _ e => by cases e)) ht (Trans.putObj _ _ _ _ _ _ _ _ _ _ tr h1) (List.nodup_cons.1 hn).2 fun D' hD' => ?_
    obtain ⟨k1, k2, k3⟩ := hD D' (by simp [hD'])
    exact ⟨k1, k2, (World.putObj_heap_other (fun (e : D' = D) => (List.nodup_cons.1 hn).1 (by rw [← e]; exact hD'))).trans k3⟩
theorem CallJ.of_body {f : FuncId} {fn : Func} {c : Code} {args : List Value} (hf : P.funcs[f]? = some fn) (hb : fn.body = some c)
    (h : WPJ P E c (exitQ P fn K) (args ++ List.replicate (fn.ntmps - args.length) undef) H g) : CallJ P E f args K H g := by
  intro ρ w S args' hi ha
  rw [← callsIn_Wr (ro := none) (n := 0)]
  refine callsIn_of_wp_marks hf hb trivial ?_
  have hsz : args.length = args'.size := by simpa using ha.1
  have ht : TRel ρ (args ++ List.replicate (fn.ntmps - args.length) undef) (args' ++ Array.replicate (fn.ntmps - args'.size) undef) := by
    refine ⟨by simp [hsz], fun j h1 h2 => ?_⟩
    simp only [List.getElem_toArray]
    by_cases hj : j < args.length
    · rw [List.getElem_append_left hj, Array.getElem_append_left (hsz ▸ hj)]
      have := ha.2 j (by simpa using hj) (hsz ▸ hj)
      simpa using this
    · rw [List.getElem_append_right (by omega), Array.getElem_append_right (by omega)]
      simp only [Array.getElem_replicate, List.getElem_replicate]
      exact undef_rel ρ
  have hw := h ρ w S none [] { tmps := args' ++ Array.replicate (fn.ntmps - args'.size) undef, defers := [] } hi ht (fun l e => by cases e) ⟨rfl, List.nodup_nil, fun D h => by cases h⟩
  refine wpIn_mono hw ?_
  rintro e ac' w' ⟨ρ', T', H', g', S', Ds', h1, h2, h3, ⟨h4, h6⟩, h5⟩
  have fin : (∃ v, Res P fn T' H' v ∧ K v H' g') → LeavesInM (Wr none) 0 P fn ac'.tmps (RetPost E K ρ H S w) ac'.defers .returning w' := by
    rintro ⟨v, hres, hk⟩
    rw [h4.eq]
    exact leaves_marks hres hk ρ H S w S' Ds' w' h1 h2 h3 h4.nodup fun D hD => ⟨(h6 D hD).resolve_left (by simp), h4.at_ D hD⟩
  cases e with
  | normal => exact fin h5
  | ret => exact fin h5
  | exit id => exact h5.elim
  | goto l => exact h5.elim
  | panic ch => exact h5.elim
  | outgrown => exact h5.elim
def Enters (P : Program) (f : FuncId) : Prop := ∀ args w, (callFunc f args).run P w = .ok (.enter f args) w
theorem CallV.of_func {f : FuncId} {fx cx args : List Value} (he : Enters P f) (h : CallJ P E f (fx ++ (args ++ cx)) K H g) : CallV P E (.func (.func f) ⟨fx⟩ ⟨cx⟩) args K H g := by
  intro ρ w S fv' args' hi hf ha
  cases hf with
  | func hx hxs hc hcs =>
    rename_i x' c'
    refine ⟨{ target := .fn (.func f) c', args := x' ++ args' }, by simp [Deferred.ofValue], .inl ⟨f, x' ++ args' ++ c', by simp [invoke, he _ _], ?_⟩⟩
    have app : ∀ {a a' b b' : Array Value}, ARel ρ a a' → ARel ρ b b' → ARel ρ (a ++ b) (a' ++ b') := by
      intro a a' b b' h1 h2
      refine ⟨by simp [h1.1, h2.1], fun j k1 k2 => ?_⟩
      by_cases hj : j < a.size
      · rw [Array.getElem_append_left hj, Array.getElem_append_left (h1.1 ▸ hj)]; exact h1.2 _ _ _
      · simp only [Array.size_append] at k1 k2
        have e := h1.1
        rw [Array.getElem_append_right (by omega), Array.getElem_append_right (by omega)]
        have := h2.2 (j - a.size) (by omega) (by omega)
        simpa only [e] using this
    have := app (app ⟨hx, hxs⟩ ha) ⟨hc, hcs⟩
    simp only [List.append_toArray, List.append_assoc] at this
    exact h ρ w S _ hi this
theorem OpJ.callV {dst : Option Tmp} {x : Operand} {xs : Array Operand} {at_ : Array TypeId} {ty : TypeId} {ps : String} {af : Array Edge} {gd : Option (Nat × Bool)} {fv : Value} {args : List Value}
    (hx : evalT T x = fv) (ha : evalL T xs.toList = args) (h : CallV P E fv args K H g) : OpJ P E ⟨dst, .call { callee := .value x, args := xs, argTypes := at_ }, ty, ps, af, gd⟩ K T H g := by
  intro ρ w S ro Ds ac Q hi ht hr hm
  subst hx; subst ha
  rw [Oper.semAt_eq ro ac.eval _ (fun c e => by cases e)]
  obtain ⟨d, hd, hh⟩ := h ρ w S (ac.eval x) (xs.map ac.eval) hi (ht.eval x) (map_rel ht xs (fun y hy => by simp [Op.operands, Call.operands]; exact .inr (by simpa using hy)))
  have fin : ∀ e w', RetPost E K ρ H S w e w' → (match e with
      | .returned v => ∃ ρ' u v' H' g' S', ac.put dst v = ac.put dst v' ∧ VRel ρ' u v' ∧ Inv E ρ' H' g' S' w' ∧ Trans ρ H S w ρ' H' S' w' ∧ K u H' g'
      | .panicked chain => Q (.panic chain) ac w'
      | .outgrown => LetsOut Q) := by
    rintro e w' ⟨ρ', v, v', H', g', S', rfl, h2, h3, h4, h5⟩
    exact ⟨ρ', v, v', H', g', S', rfl, h2, h3, h4, h5⟩
  rcases hh with ⟨f, as, h1, h2⟩ | ⟨l, f, tmps, assign, body, h1, h2⟩
  · have hrun : (execOp ac.eval ⟨dst, .call { callee := .value x, args := xs, argTypes := at_ }, ty, ps, af, gd⟩).run P w = .ok (.enter f as) w := by
      simp only [execOp, resolve, Sem.run_bind, hd, Result.andThen_ok, h1]
    rw [hrun]
    refine ⟨fun h => by simp [Wr, Fence.wide] at h, callsIn_Wr.2 (h2.mono fun e w' hp => ?_)⟩
    have := fin e w' hp
    cases e <;> exact this
  · have hrun : (execOp ac.eval ⟨dst, .call { callee := .value x, args := xs, argTypes := at_ }, ty, ps, af, gd⟩).run P w = .ok (.round l f tmps assign body) w := by
      simp only [execOp, resolve, Sem.run_bind, hd, Result.andThen_ok, h1]
    rw [hrun]
    refine ⟨fun h => by simp [Wr, Fence.wide] at h, ?_⟩
    have h3 : RoundIn (Wr ro) (0 - 1) P l f tmps assign body w (RetPost E K ρ H S w) := h2
    refine h3.mono fun e w' hp => ?_
    have := fin e w' hp
    cases e <;> exact this
theorem OpJ.call {dst : Option Tmp} {f : FuncId} {xs : Array Operand} {at_ : Array TypeId} {ty : TypeId} {ps : String} {af : Array Edge} {gd : Option (Nat × Bool)} {args : List Value}
    (he : Enters P f) (ha : evalL T xs.toList = args) (h : CallJ P E f args K H g) : OpJ P E ⟨dst, .call { callee := .value (.func f), args := xs, argTypes := at_ }, ty, ps, af, gd⟩ K T H g :=
  OpJ.callV rfl ha (CallV.of_func he (by simpa using h))
theorem Res.nothing {fn : Func} (h : fn.results = #[]) : Res P fn T H (.tuple #[]) := fun ρ w tmps _ _ => ⟨.tuple #[], by simp [results, h], .tuple rfl (fun _ h => absurd h (Nat.not_lt_zero _))⟩
theorem Res.tmp {fn : Func} {t : Tmp} {v : Value} (h : fn.results = #[.tmp t]) (hv : getT T t = v) : Res P fn T H v := fun ρ w tmps _ ht =>
  ⟨tmps.getD t undef, by simp [results, h], hv ▸ ht.getD t⟩
theorem Res.tmp2 {fn : Func} {t u : Tmp} {v v2 : Value} (h : fn.results = #[.tmp t, .tmp u]) (hv : getT T t = v) (hv2 : getT T u = v2) : Res P fn T H (.tuple #[v, v2]) := fun ρ w tmps _ ht =>
  ⟨.tuple #[tmps.getD t undef, tmps.getD u undef], by simp [results, h], .tuple rfl fun j h1 h2 => by
    match j, h1 with
    | 0, _ => exact hv ▸ ht.getD t
    | 1, _ => exact hv2 ▸ ht.getD u⟩
theorem Res.tmp3 {fn : Func} {t u s : Tmp} {v v2 v3 : Value} (h : fn.results = #[.tmp t, .tmp u, .tmp s]) (hv : getT T t = v) (hv2 : getT T u = v2) (hv3 : getT T s = v3) : Res P fn T H (.tuple #[v, v2, v3]) := fun ρ w tmps _ ht =>
  ⟨.tuple #[tmps.getD t undef, tmps.getD u undef, tmps.getD s undef], by simp [results, h], .tuple rfl fun j h1 h2 => by
    match j, h1 with
    | 0, _ => exact hv ▸ ht.getD t
    | 1, _ => exact hv2 ▸ ht.getD u
    | 2, _ => exact hv3 ▸ ht.getD s⟩
theorem run_loadVar_rel {ρ : Ren} {w : World} (hs : SRel ρ H w) {t : TypeId} {i o : Nat} {d : TypeDesc} {n : Nat} {z : Value} {b : Nat} {cells : List Value} {es : Nat} {own : Bool} {v u : Value}
    (ht : Ty P t d n z b) (hi : H[i]? = some (.row cells es own)) (hv : (if aggD d then (if o + n ≤ cells.length then some (Value.agg ⟨(cells.drop o).take n⟩) else none) else cells[o]?) = some v) (hu : VRel ρ (.pointer (some ⟨i, o, none⟩)) u) :
    ∃ v', (do loadVar t (← asAddr u) : Sem Value).run P w = .ok v' w ∧ VRel ρ v v' := by
  obtain ⟨m, hm, rfl⟩ := rel_ptr hu
  obtain ⟨_, _, c, e, fr, hb, _, _, hl, hr⟩ := hs.row hm hi
  simp only [asAddr, Sem.run_bind, Sem.run_pure, Result.andThen_ok, loadVar, ht.isAgg w]
  cases hd : aggD d with
  | true =>
    rw [hd] at hv
    simp only [if_true] at hv ⊢
    split at hv
    · rename_i hn
      simp only [Option.some.injEq] at hv
      subst hv
      obtain ⟨r, h1, _, _, h2⟩ := run_loadCells_rel (P := P) hb hl hr hn
      exact ⟨.agg r, by simp only [Sem.run_bind, ht.sizeOf w, Result.andThen_ok, h1, Sem.run_pure], .agg h2.1 h2.2⟩
    · cases hv
  | false =>
    rw [hd] at hv
    simp only [Bool.false_eq_true, if_false] at hv ⊢
    obtain ⟨v', hv', hrel⟩ := getElem?_rel hl hr hv
    exact ⟨v', by simp [load, Sem.run, (cell_at hb).trans hv'], hrel⟩
theorem Res.cell {fn : Func} {p : Tmp} {t : TypeId} {i o : Nat} {d : TypeDesc} {n : Nat} {z : Value} {b : Nat} {cells : List Value} {es : Nat} {own : Bool} {v : Value} (h : fn.results = #[.cell p t])
    (ht : Ty P t d n z b) (hp : getT T p = .pointer (some ⟨i, o, none⟩)) (hi : H[i]? = some (.row cells es own)) (hv : (if aggD d then (if o + n ≤ cells.length then some (Value.agg ⟨(cells.drop o).take n⟩) else none) else cells[o]?) = some v) : Res P fn T H v := fun ρ w tmps hs hT => by
  obtain ⟨v', h1, h2⟩ := run_loadVar_rel hs ht hi hv (hp ▸ hT.getD p)
  refine ⟨v', ?_, h2⟩
  have h1' : (do loadVar t (← asAddr (tmps.getD p undef)) : Sem Value).run P w = .ok v' w := h1
  rw [Sem.run_bind] at h1'
  simp only [results, h]
  simp [Sem.run_bind] at h1' ⊢
  rw [h1']
end
end Go.Abs
namespace Go.Abs
open Go
theorem Enters.of {P : Program} {f : FuncId} {fn : Func} (hf : P.funcs[f]? = some fn) (hn : (fn.name == "runtime.NumGoroutine") = false) (hb : fn.body.isNone = false) : Enters P f := by
  intro args w
  have hn' : ¬ fn.name = "runtime.NumGoroutine" := by simpa using hn
  have hb' : ¬ fn.body = none := by cases h : fn.body <;> simp_all
  simp [callFunc, program, Sem.run, hf, hn', hb']
section
variable {γ : Type} {P : Program} {E : Env γ} {T : List Value} {H H' : AHeap} {g : γ} {Q : Exit → List Value → AHeap → γ → Prop} {next : List Value → AHeap → γ → Prop} {R : List Value → AHeap → γ → Prop}
theorem thenQ_n (h : next T H g) : thenQ next Q .normal T H g := h
theorem thenQ_ret (h : Q .ret T H g) : thenQ next Q .ret T H g := h
theorem thenQ_exit {id : Nat} (h : Q (.exit id) T H g) : thenQ next Q (.exit id) T H g := h
theorem blockQ_n {id : Nat} (h : Q .normal T H g) : blockQ id Q .normal T H g := h
theorem blockQ_ret {id : Nat} (h : Q .ret T H g) : blockQ id Q .ret T H g := h
theorem blockQ_exit {id : Nat} (h : Q .normal T H g) : blockQ id Q (.exit id) T H g := by simp only [blockQ, if_true]; exact h
theorem blockQ_exit' {id id' : Nat} (hne : (id' == id) = false) (h : Q (.exit id') T H g) : blockQ id Q (.exit id') T H g := by
  simp only [blockQ, if_neg (show ¬ id' = id by simpa using hne)]; exact h
theorem exitQ_ret {fn : Func} {K : Value → AHeap → γ → Prop} {v : Value} (h : Res P fn T H v) (hk : K v H g) : exitQ P fn K .ret T H g := ⟨v, h, hk⟩
theorem exitQ_n {fn : Func} {K : Value → AHeap → γ → Prop} {v : Value} (h : Res P fn T H v) (hk : K v H g) : exitQ P fn K .normal T H g := ⟨v, h, hk⟩
def isDefer : Op → Bool
  | .defer _ => true
  | _ => false
theorem OpsJ.nil {ops : Array Oper} (h : R T H g) : OpsJ P E ops R [] T H g := h
theorem OpsJ.step {ops : Array Oper} {dst : Option Tmp} {op : Op} {ty : TypeId} {ps : String} {af : Array Edge} {rest : List Oper} {v : Value} (h : Runs P ⟨dst, op, ty, ps, af, none⟩ v H' T H) (hd : isDefer op = false) (k : OpsJ P E ops R rest (putT T dst v) H' g) :
    OpsJ P E ops R (⟨dst, op, ty, ps, af, none⟩ :: rest) T H g :=
  OpJ.of_runs h (fun c e => by simp only at e; rw [e] at hd; cases hd) k
theorem OpsJ.stepJ {ops : Array Oper} {dst : Option Tmp} {op : Op} {ty : TypeId} {ps : String} {af : Array Edge} {rest : List Oper} {K : Value → AHeap → γ → Prop} (h : OpJ P E ⟨dst, op, ty, ps, af, none⟩ K T H g)
    (k : ∀ v H' g', K v H' g' → OpsJ P E ops R rest (putT T dst v) H' g') : OpsJ P E ops R (⟨dst, op, ty, ps, af, none⟩ :: rest) T H g :=
  h.mono k
theorem OpsJ.on {ops : Array Oper} {dst : Option Tmp} {op : Op} {ty : TypeId} {ps : String} {af : Array Edge} {rest : List Oper} {j : Nat} {b : Bool} (hg : guardAt ops T j = some (some b))
    (k : OpsJ P E ops R (⟨dst, op, ty, ps, af, none⟩ :: rest) T H g) : OpsJ P E ops R (⟨dst, op, ty, ps, af, some (j, b)⟩ :: rest) T H g :=
  ⟨_, hg, fun _ => k, fun h => absurd rfl h⟩
theorem OpsJ.off {ops : Array Oper} {dst : Option Tmp} {op : Op} {ty : TypeId} {ps : String} {af : Array Edge} {rest : List Oper} {j : Nat} {b b' : Bool} (hg : guardAt ops T j = some (some b')) (hb : (b' == b) = false)
    (k : OpsJ P E ops R rest (putT T dst undef) H g) : OpsJ P E ops R (⟨dst, op, ty, ps, af, some (j, b)⟩ :: rest) T H g :=
  ⟨_, hg, fun h => (by cases h; simp at hb), fun _ => k⟩
theorem OpsJ.off' {ops : Array Oper} {dst : Option Tmp} {op : Op} {ty : TypeId} {ps : String} {af : Array Edge} {rest : List Oper} {j : Nat} {b : Bool} (hg : guardAt ops T j = some none)
    (k : OpsJ P E ops R rest (putT T dst undef) H g) : OpsJ P E ops R (⟨dst, op, ty, ps, af, some (j, b)⟩ :: rest) T H g :=
  ⟨_, hg, fun h => (by cases h), fun _ => k⟩
end
section
variable {H L : AHeap} {o : AObj} {i k : Nat}
theorem get_new (h : L[k]? = some o) : (H ++ L)[H.length + k]? = some o := by rw [List.getElem?_append_right (by omega)]; simpa using h
theorem get_new0 (h : L[0]? = some o) : (H ++ L)[H.length]? = some o := get_new (k := 0) h
theorem get_old (h : H[i]? = some o) : (H ++ L)[i]? = some o := by
  rw [List.getElem?_append_left (List.getElem?_eq_some_iff.1 h).1]; exact h
theorem set_new (o : AObj) : (H ++ L).set (H.length + k) o = H ++ L.set k o := by
  rw [List.set_append, if_neg (by omega)]; simp
theorem set_new0 (o : AObj) : (H ++ L).set H.length o = H ++ L.set 0 o := set_new (k := 0) o
end
end Go.Abs
namespace Go.Abs
open Go
def Def (ρ : Ren) (v : Value) : Prop := ∃ v', VRel ρ v v'
theorem Def.mono {ρ ρ' : Ren} (h : ρ.le ρ') {v : Value} (hd : Def ρ v) : Def ρ' v := let ⟨v', hv⟩ := hd; ⟨v', hv.mono h⟩
theorem VRel.restrict {ρ ρ' : Ren} (hle : ρ.le ρ') {v v1 : Value} (h : VRel ρ v v1) : ∀ {v2 : Value}, VRel ρ' v v2 → VRel ρ v v2 := by
  induction h with
  | wild u => intro v2 h2; exact .wild _
  | bool b => intro v2 h2; cases h2; exact .bool b
  | int k n => intro v2 h2; cases h2; exact .int k n
  | string s => intro v2 h2; cases h2; exact .string s
  | nilPtr => intro v2 h2; cases h2; exact .nilPtr
  | ptr h => intro v2 h2; cases h2; rename_i h3; rw [hle _ _ h] at h3; cases h3; exact .ptr h
  | nilSlice => intro v2 h2; cases h2; exact .nilSlice
  | empty a c => intro v2 h2; cases h2; exact .empty _ _
  | slice h hl ho => intro v2 h2; cases h2 with | slice h3 h4 h5 => rw [hle _ _ h] at h3; cases h3; exact .slice h h4 h5
  | nilMap => intro v2 h2; cases h2; exact .nilMap
  | map h => intro v2 h2; cases h2; rename_i h3; rw [hle _ _ h] at h3; cases h3; exact .map h
  | func hx hxs hc hcs ih1 ih2 =>
    intro v2 h2
    cases h2 with
    | func kx kxs kc kcs => exact .func kx (fun j a b => ih1 j a (hx ▸ a) (kxs j a b)) kc (fun j a b => ih2 j a (hc ▸ a) (kcs j a b))
  | yield h => intro v2 h2; cases h2; rename_i h3; rw [hle _ _ h] at h3; cases h3; exact .yield h
  | nilFunc => intro v2 h2; cases h2; exact .nilFunc
  | nilIface => intro v2 h2; cases h2; exact .nilIface
  | iface _ ih => intro v2 h2; cases h2; rename_i h3; exact .iface (ih h3)
  | agg hs h ih => intro v2 h2; cases h2; rename_i k1 k2; exact .agg k1 (fun j a b => ih j a (hs ▸ a) (k2 j a b))
  | tuple hs h ih => intro v2 h2; cases h2; rename_i k1 k2; exact .tuple k1 (fun j a b => ih j a (hs ▸ a) (k2 j a b))
def cutR (ρ : Ren) (n : Nat) : Ren := fun i => if i < n then ρ i else none
theorem cutR_le (ρ : Ren) (n : Nat) : (cutR ρ n).le ρ := fun i m h => by unfold cutR at h; split at h; exact h; cases h
theorem cutR_mono (ρ : Ren) {n m : Nat} (h : n ≤ m) : (cutR ρ n).le (cutR ρ m) := fun i x hx => by
  unfold cutR at *
  split at hx
  · rw [if_pos (by omega)]; exact hx
  · cases hx
theorem cutR_some {ρ : Ren} {n i : Nat} {m : Img} (h : cutR ρ n i = some m) : i < n ∧ ρ i = some m := by
  unfold cutR at h; split at h
  · rename_i hi; exact ⟨hi, h⟩
  · cases h
theorem cutR_lt {ρ : Ren} {n i : Nat} (h : i < n) : cutR ρ n i = ρ i := by unfold cutR; rw [if_pos h]
def trivE : Env Unit := { J := fun _ _ _ => True, stable := fun _ _ _ _ _ _ _ _ _ _ => trivial }
def ownRow : AObj → Bool
  | .row _ _ own => own
  | .map _ _ => true
  | .iter _ _ _ => true
  | _ => false
def Mono (P : Program) (o : Oper) (v : Value) (L : AHeap) (T : List Value) (H : AHeap) : Prop :=
  L.all ownRow = true ∧ OpJ P trivE o (fun v' H' _ => v' = v ∧ H' = H ++ L) T H ()
def StepM (P : Program) (ops : Array Oper) (o : Oper) (v : Value) (L : AHeap) (T : List Value) (H : AHeap) : Prop :=
  match o.guard with
  | none => Mono P o v L T H
  | some (j, b) => ∃ x, guardAt ops T j = some x ∧ (x = some b → Mono P o v L T H) ∧ (x ≠ some b → v = undef ∧ L = [])
def MonoJ (P : Program) (ops : Array Oper) (R : List Value → AHeap → Prop) : Nat → List Oper → List Value → AHeap → Prop
  | 0, _, T, H => R T H
  | _ + 1, [], T, H => R T H
  | n + 1, o :: rest, T, H => ∃ v L, StepM P ops o v L T H ∧ MonoJ P ops R n rest (putT T o.dst v) (H ++ L)
section
variable (ops : Array Oper) (D : List (Value × AHeap)) (T : List Value) (H : AHeap)
def vD (j : Nat) : Value := ((D[j]?).map (·.1)).getD undef
def lD (j : Nat) : AHeap := ((D[j]?).map (·.2)).getD []
def dstA (j : Nat) : Option Tmp := (ops[j]?).bind (·.dst)
def TK : Nat → List Value
  | 0 => T
  | j + 1 => putT (TK j) (dstA ops j) (vD D j)
def HK : Nat → AHeap
  | 0 => H
  | j + 1 => HK j ++ lD D j
def TS (listed : Array Bool) : Nat → List Value
  | 0 => T
  | j + 1 => if listed.getD j false then putT (TS listed j) (dstA ops j) (vD D j) else TS listed j
end
theorem HK_prefix (D : List (Value × AHeap)) (H : AHeap) : ∀ {i j : Nat}, i ≤ j → ∃ M, HK D H j = HK D H i ++ M := by
  intro i j h
  induction j with
  | zero => obtain rfl : i = 0 := by omega
            exact ⟨[], by simp⟩
  | succ j ih =>
    by_cases e : i = j + 1
    · subst e; exact ⟨[], by simp⟩
    · obtain ⟨M, hM⟩ := ih (by omega)
      exact ⟨M ++ lD D j, by rw [HK, hM, List.append_assoc]⟩
theorem HK_len (D : List (Value × AHeap)) (H : AHeap) {i j : Nat} (h : i ≤ j) : (HK D H i).length ≤ (HK D H j).length := by
  obtain ⟨M, hM⟩ := HK_prefix D H h; rw [hM]; simp
theorem HK_get (D : List (Value × AHeap)) (H : AHeap) {i j k : Nat} (hi : k < (HK D H i).length) (hj : k < (HK D H j).length) : (HK D H i)[k]? = (HK D H j)[k]? := by
  rcases Nat.le_total i j with h | h
  · obtain ⟨M, hM⟩ := HK_prefix D H h; rw [hM, List.getElem?_append_left hi]
  · obtain ⟨M, hM⟩ := HK_prefix D H h; rw [hM, List.getElem?_append_left hj]
theorem MonoJ.data {P : Program} {ops : Array Oper} {R : List Value → AHeap → Prop} : ∀ (n k : Nat) (l : List Oper) (T : List Value) (H : AHeap), (∀ j, l[j]? = ops[k + j]?) → n ≤ l.length → MonoJ P ops R n l T H →
    ∃ D : List (Value × AHeap), D.length = n ∧ ∀ (D0 : List (Value × AHeap)) (T0 : List Value) (H0 : AHeap), D0.length = k → TK ops (D0 ++ D) T0 k = T → HK (D0 ++ D) H0 k = H →
      (∀ j o, k ≤ j → j < k + n → ops[j]? = some o → StepM P ops o (vD (D0 ++ D) j) (lD (D0 ++ D) j) (TK ops (D0 ++ D) T0 j) (HK (D0 ++ D) H0 j)) ∧ R (TK ops (D0 ++ D) T0 (k + n)) (HK (D0 ++ D) H0 (k + n))
  | 0, k, l, T, H, _, _, h => ⟨[], rfl, fun D0 T0 H0 hD hT hH => ⟨fun j o h1 h2 => by omega, by have h2 : R T H := h; simpa [← hT, ← hH] using h2⟩⟩
  | n + 1, k, [], T, H, _, hn, h => by simp at hn
  | n + 1, k, o :: l, T, H, hl, hn, h => by
    obtain ⟨v, L, hs, hrest⟩ := h
    have h0 : ops[k]? = some o := by simpa using (hl 0).symm
    obtain ⟨D, hDn, hD⟩ := MonoJ.data n (k + 1) l _ _ (fun j => by have := hl (j + 1); simpa [Nat.add_assoc, Nat.add_comm 1 j] using this) (by simpa using hn) hrest
    refine ⟨(v, L) :: D, by simp [hDn], fun D0 T0 H0 hk hT hH => ?_⟩
    have e : D0 ++ (v, L) :: D = (D0 ++ [(v, L)]) ++ D := by simp
    have hv : vD (D0 ++ (v, L) :: D) k = v := by simp [vD, ← hk]
    have hL : lD (D0 ++ (v, L) :: D) k = L := by simp [lD, ← hk]
    have hd : dstA ops k = o.dst := by simp [dstA, h0]
    have hT1 : TK ops (D0 ++ (v, L) :: D) T0 (k + 1) = putT T o.dst v := by rw [TK, hT, hv, hd]
    have hH1 : HK (D0 ++ (v, L) :: D) H0 (k + 1) = H ++ L := by rw [HK, hH, hL]
    rw [e] at hT1 hH1
    obtain ⟨k1, k2⟩ := hD (D0 ++ [(v, L)]) T0 H0 (by simp [hk]) hT1 hH1
    refine ⟨fun j o' h1 h2 ho => ?_, ?_⟩
    · by_cases ej : j = k
      · subst ej
        rw [h0] at ho; cases ho
        rw [hv, hL, hT, hH]; exact hs
      · rw [e]; exact k1 j o' (by omega) (by omega) ho
    · rw [e]; have := k2; rwa [show k + 1 + n = k + (n + 1) by omega] at this
def edgeB (ops : Array Oper) (j k : Nat) : Bool := ((ops[j]?).map fun o => o.after.any fun e => Region.binds .any e && e.on == k).getD false
def ancB (ops : Array Oper) : Nat → Nat → Nat → Bool
  | 0, _, _ => false
  | n + 1, j, k => edgeB ops j k || ((ops[j]?).map fun o => o.after.any fun e => Region.binds .any e && ancB ops n e.on k).getD false
def pairsB (ops : Array Oper) : Bool := (List.range ops.size).all fun j => (List.range j).all fun k => edgeB ops j k || (match ops[k]?, ops[j]? with | some ok, some oj => ok.apart ops oj | _, _ => true)
def backB (ops : Array Oper) : Bool := (List.range ops.size).all fun j => ((ops[j]?).map fun o => o.after.all fun e => !Region.binds .any e || decide (e.on < j)).getD true
def sufB (ops : Array Oper) (m : Nat) : Bool := (List.range ops.size).all fun j => decide (j < m) || (List.range j).all fun k => ancB ops ops.size j k
def Closed (ops : Array Oper) (listed : Array Bool) : Prop := ∀ j o, ops[j]? = some o → listed.getD j false = true → ∀ e ∈ o.after, Region.binds .any e = true → listed.getD e.on false = true
theorem anc_listed {ops : Array Oper} {listed : Array Bool} (hc : Closed ops listed) : ∀ (n j k : Nat) (o : Oper), ops[j]? = some o → (∀ e ∈ o.after, Region.binds .any e = true → listed.getD e.on false = true) → ancB ops n j k = true → listed.getD k false = true
  | 0, _, _, _, _, _, h => by simp [ancB] at h
  | n + 1, j, k, o, ho, hdeps, h => by
    simp only [ancB, Bool.or_eq_true] at h
    rcases h with h | h
    · simp only [edgeB, ho, Option.map_some, Option.getD_some] at h
      obtain ⟨e, he, hb⟩ := Array.any_eq_true'.1 h
      simp only [Bool.and_eq_true, beq_iff_eq] at hb
      exact hb.2 ▸ hdeps e he hb.1
    · simp only [ho, Option.map_some, Option.getD_some] at h
      obtain ⟨e, he, hb⟩ := Array.any_eq_true'.1 h
      simp only [Bool.and_eq_true] at hb
      have hl := hdeps e he hb.1
      cases ho' : ops[e.on]? with
      | none => cases n with
        | zero => simp [ancB] at hb
        | succ n => simp [ancB, edgeB, ho'] at hb
      | some o' => exact anc_listed hc n e.on k o' ho' (hc e.on o' ho' hl) hb.2
theorem getT_put {T : List Value} {d : Option Tmp} {v : Value} {t : Nat} (h : d ≠ some t) : getT (putT T d v) t = getT T t := by
  cases d with
  | none => rfl
  | some d =>
    have hne : d ≠ t := fun e => h (by rw [e])
    simp only [putT, getT_eq]
    simp [Array.getD, List.getElem_set_ne hne]
theorem pairs_spec {ops : Array Oper} (h : pairsB ops = true) {j k : Nat} {oj ok : Oper} (hkj : k < j) (hj : ops[j]? = some oj) (hk : ops[k]? = some ok) : edgeB ops j k = true ∨ ok.apart ops oj = true := by
  have h1 := List.all_eq_true.1 h j (List.mem_range.2 (Array.getElem?_eq_some_iff.1 hj).1)
  have h2 := List.all_eq_true.1 h1 k (List.mem_range.2 hkj)
  simpa only [hj, hk, Bool.or_eq_true] using h2
theorem edge_spec {ops : Array Oper} {j k : Nat} {oj : Oper} (hj : ops[j]? = some oj) (h : edgeB ops j k = true) : ∃ e ∈ oj.after, Region.binds .any e = true ∧ e.on = k := by
  simp only [edgeB, hj, Option.map_some, Option.getD_some] at h
  obtain ⟨e, he, hb⟩ := Array.any_eq_true'.1 h
  simp only [Bool.and_eq_true, beq_iff_eq] at hb
  exact ⟨e, he, hb.1, hb.2⟩
theorem look_same {ops : Array Oper} {D : List (Value × AHeap)} {T : List Value} {listed : Array Bool} (hp : pairsB ops = true) (hc : Closed ops listed) {j m : Nat} {o : Oper} (hj : ops[j]? = some o) (hm : j < m) (_hmn : m ≤ ops.size)
    (hun : listed.getD j false = false) (hdeps : ∀ e ∈ o.after, Region.binds .any e = true → listed.getD e.on false = true) {t : Nat} (ht : t ∈ o.looksAt ops) :
    (∀ k, k < j → dstA ops k = some t → listed.getD k false = true) ∧ getT (TS ops D T listed m) t = getT (TK ops D T j) t := by
  have before : ∀ k, k < j → dstA ops k = some t → listed.getD k false = true := by
    intro k hk hd
    obtain ⟨ok, hok⟩ : ∃ ok, ops[k]? = some ok := by
      cases h : ops[k]? with
      | none => simp [dstA, h] at hd
      | some ok => exact ⟨ok, rfl⟩
    have hd' : ok.dst = some t := by simpa [dstA, hok] using hd
    rcases pairs_spec hp hk hj hok with h | h
    · obtain ⟨e, he, hb, rfl⟩ := edge_spec hj h
      exact hdeps e he hb
    · exact absurd ht ((Oper.apart_spec h).1 t hd')
  have behind : ∀ k, j < k → listed.getD k false = true → dstA ops k ≠ some t := by
    intro k hk hl hd
    obtain ⟨ok, hok⟩ : ∃ ok, ops[k]? = some ok := by
      cases h : ops[k]? with
      | none => simp [dstA, h] at hd
      | some ok => exact ⟨ok, rfl⟩
    have hd' : ok.dst = some t := by simpa [dstA, hok] using hd
    rcases pairs_spec hp hk hok hj with h | h
    · obtain ⟨e, he, hb, rfl⟩ := edge_spec hok h
      have := hc k ok hok hl e he hb
      rw [hun] at this; cases this
    · exact absurd ht ((Oper.apart_spec h).2.2 t hd')
  refine ⟨before, ?_⟩
  have h1 : ∀ i, i ≤ j → getT (TS ops D T listed i) t = getT (TK ops D T i) t := by
    intro i
    induction i with
    | zero => intro _; rfl
    | succ i ih =>
      intro hi
      have := ih (by omega)
      simp only [TS, TK]
      by_cases hl : listed.getD i false = true
      · rw [if_pos hl]
        by_cases hd : dstA ops i = some t
        · rw [hd]
          have len : ∀ i, (TS ops D T listed i).length = T.length ∧ (TK ops D T i).length = T.length := by
            intro i
            induction i with
            | zero => exact ⟨rfl, rfl⟩
            | succ i ih =>
              have pl : ∀ (T : List Value) d v, (putT T d v).length = T.length := fun T d v => by cases d <;> simp [putT]
              simp only [TS, TK]
              refine ⟨?_, by rw [pl]; exact ih.2⟩
              split
              · rw [pl]; exact ih.1
              · exact ih.1
          simp only [putT, getT_eq]
          simp only [Array.getD, List.size_toArray, List.length_set, (len i).1, (len i).2]
          split <;> simp
        · rw [getT_put hd, getT_put hd, this]
      · rw [if_neg hl]
        have hd : dstA ops i ≠ some t := fun hd => hl (before i (by omega) hd)
        rw [getT_put hd, this]
  have h2 : ∀ i, j ≤ i → getT (TS ops D T listed i) t = getT (TS ops D T listed j) t := by
    intro i hi
    induction i with
    | zero => obtain rfl : j = 0 := by omega
              rfl
    | succ i ih =>
      by_cases e : j = i + 1
      · subst e; rfl
      · have := ih (by omega)
        simp only [TS]
        by_cases hl : listed.getD i false = true
        · rw [if_pos hl]
          have hji : j ≠ i := fun e => by subst e; rw [hun] at hl; cases hl
          rw [getT_put (behind i (by omega) hl), this]
        · rw [if_neg hl, this]
  rw [h2 m (by omega), h1 j (Nat.le_refl _)]
theorem putT_comm {T : List Value} {a b : Option Tmp} {u v : Value} (h : ∀ d, a = some d → b ≠ some d) : putT (putT T a u) b v = putT (putT T b v) a u := by
  cases a with
  | none => cases b <;> rfl
  | some a => cases b with
    | none => rfl
    | some b => simp only [putT]; exact List.set_comm _ _ (fun e => h a rfl (by rw [e]))
theorem TS_set {ops : Array Oper} {D : List (Value × AHeap)} {T : List Value} {listed : Array Bool} (hp : pairsB ops = true) (hc : Closed ops listed) {j : Nat} {o : Oper} (hj : ops[j]? = some o) (hz : listed.size = ops.size)
    (hun : listed.getD j false = false) : ∀ m, TS ops D T (listed.setIfInBounds j true) m = if j < m then putT (TS ops D T listed m) (dstA ops j) (vD D j) else TS ops D T listed m := by
  have hjl : j < listed.size := hz ▸ (Array.getElem?_eq_some_iff.1 hj).1
  have hset : ∀ k, (listed.setIfInBounds j true).getD k false = if k = j then true else listed.getD k false := by
    intro k
    simp only [Array.getD, Array.size_setIfInBounds]
    by_cases e : k = j
    · subst e; simp [hjl]
    · rw [if_neg e]
      by_cases hk : k < listed.size
      · simp [hk, Ne.symm e]
      · simp [hk]
  intro m
  induction m with
  | zero => simp [TS]
  | succ m ih =>
    simp only [TS, hset]
    by_cases e : m = j
    · subst e
      have e1 : (if listed.getD m false = true then putT (TS ops D T listed m) (dstA ops m) (vD D m) else TS ops D T listed m) = TS ops D T listed m := if_neg (by rw [hun]; simp)
      rw [if_pos rfl, ih, if_neg (Nat.lt_irrefl m), e1, if_pos (Nat.lt_succ_self m)]
      simp
    · rw [if_neg e, ih]
      by_cases hl : listed.getD m false = true
      · rw [if_pos hl, if_pos hl]
        by_cases hjm : j < m
        · rw [if_pos hjm, if_pos (by omega)]
          obtain ⟨om, hom⟩ : ∃ om, ops[m]? = some om := by
            have hml : m < listed.size := by
              rcases Nat.lt_or_ge m listed.size with h | h
              · exact h
              · simp [Array.getD, Nat.not_lt.2 h] at hl
            exact ⟨_, Array.getElem?_eq_getElem (hz ▸ hml)⟩
          refine putT_comm fun d hd => ?_
          have hd1 : o.dst = some d := by simpa [dstA, hj] using hd
          rcases pairs_spec hp hjm hom hj with h | h
          · obtain ⟨ed, he, hb, rfl⟩ := edge_spec hom h
            have := hc m om hom hl ed he hb
            rw [hun] at this; cases this
          · have := (Oper.apart_spec h).2.1 d hd1
            simpa [dstA, hom] using this
        · rw [if_neg hjm, if_neg (by omega)]
      · rw [if_neg hl, if_neg hl]
        by_cases hjm : j < m
        · rw [if_pos hjm, if_pos (by omega)]
        · rw [if_neg hjm, if_neg (by omega)]
end Go.Abs
namespace Go.Abs
open Go
section
variable {γ : Type} {P : Program} {E : Env γ} (ops : Array Oper) (D : List (Value × AHeap)) (T : List Value) (H : AHeap) (m : Nat) (LV : Nat → Prop)
structure InvA {γ : Type} (E : Env γ) (g : γ) (S : Nat → Prop) (ρ : Ren) (w0 : World) (ro : Option Nat) (Ds : List Nat) (ds : List Deferred) (listed : Array Bool) (a : Act) (w : World) (ρ' : Ren) : Prop where
  size : listed.size = ops.size
  closed : Closed ops listed
  pre : ∀ j, m ≤ j → listed.getD j false = false
  fam : ∀ k, k ≤ m → SRel (cutR ρ' (HK D H k).length) (HK D H k) w
  top : ∀ i x, ρ' i = some x → i < (HK D H m).length
  base : ∀ i, i < H.length → ρ' i = ρ i
  made : ∀ j, j < m → listed.getD j false = false → ∀ i, (HK D H j).length ≤ i → i < (HK D H (j + 1)).length → ρ' i = none
  vals : ∀ j, j < m → listed.getD j false = true → Def (cutR ρ' (HK D H (j + 1)).length) (vD D j)
  trel : TRel ρ' (TS ops D T listed m) a.tmps
  j : E.J g S w
  bnd : ∀ b, S b → b < w0.heap.size
  disj : ∀ b, S b → ¬ LV b
  live : ∀ b, LiveOwn ρ H b → LV b
  os : w.os = w0.os
  tape : w.tape = w0.tape
  out : w.output = w0.output
  wsize : w0.heap.size ≤ w.heap.size
  keep : ∀ b, b < w0.heap.size → ¬ LV b → w.heap[b]? = w0.heap[b]?
  fresh : ∀ i x, H.length ≤ i → ρ' i = some x → w0.heap.size ≤ x.blk ∨ LV x.blk
  ro : RoOk ro S w
  marks : Marks a.defers Ds S w
  defers : a.defers = ds
end
section
variable {γ : Type} {P : Program} {E : Env γ} {ops : Array Oper} {D : List (Value × AHeap)} {T : List Value} {H : AHeap} {m : Nat} {LV : Nat → Prop}
  {g : γ} {S : Nat → Prop} {ρ : Ren} {w0 : World} {ro : Option Nat} {Ds : List Nat} {ds : List Deferred} {listed : Array Bool} {a : Act} {w : World} {ρ' : Ren}
theorem getD_set {listed : Array Bool} {j : Nat} (hj : j < listed.size) (k : Nat) : (listed.setIfInBounds j true).getD k false = if k = j then true else listed.getD k false := by
  simp only [Array.getD, Array.size_setIfInBounds]
  by_cases e : k = j
  · subst e; simp [hj]
  · rw [if_neg e]
    by_cases hk : k < listed.size
    · simp [hk, Ne.symm e]
    · simp [hk]
theorem getT_get? (T : List Value) (t : Nat) : getT T t = (T[t]?).getD undef := by
  rw [getT_eq]; simp [Array.getD_eq_getD_getElem?]
structure Left (ρ1 : Ren) (H1 : AHeap) (w : World) (L : AHeap) (ρ2 : Ren) (w' : World) : Prop where
  srel : SRel ρ2 (H1 ++ L) w'
  ext : ∀ i, i < H1.length → ρ2 i = ρ1 i
  os : w'.os = w.os
  tape : w'.tape = w.tape
  out : w'.output = w.output
  size : w.heap.size ≤ w'.heap.size
  keep : ∀ b, b < w.heap.size → ¬ LiveOwn ρ1 H1 b → w'.heap[b]? = w.heap[b]?
  new : ∀ i x, H1.length ≤ i → ρ2 i = some x → w.heap.size ≤ x.blk
theorem Left.of {ρ1 : Ren} {H1 : AHeap} {w : World} {L : AHeap} {ρ2 : Ren} {w' : World} {S' : Nat → Prop} (hL : L.all ownRow = true) (hs1 : SRel ρ1 H1 w) (hs : SRel ρ2 (H1 ++ L) w') (tr : Trans ρ1 H1 (fun _ => False) w ρ2 (H1 ++ L) S' w') : Left ρ1 H1 w L ρ2 w' where
  srel := hs
  ext := tr.ext
  os := tr.os
  tape := tr.tape
  out := tr.out
  size := tr.size
  keep := fun b hb hl => tr.keep b hb (fun h => h) hl
  new := fun i x hi hx => by
    have hlt := (hs.dom i x hx).1
    have hi2 : (H1 ++ L)[i]? = L[i - H1.length]? := List.getElem?_append_right hi
    obtain ⟨o, ho⟩ : ∃ o, (H1 ++ L)[i]? = some o := ⟨_, List.getElem?_eq_getElem hlt⟩
    have hoL : o ∈ L := List.mem_of_getElem? (hi2 ▸ ho)
    have how := List.all_eq_true.1 hL o hoL
    have hor := hs.obj i x o hx ho
    cases o with
    | row cells es own =>
      have hown : own = true := how
      subst hown
      have hxo : x.own = true := hor.2.1
      rcases tr.fresh x.blk ⟨i, x, _, hx, ho, rfl, hxo, rfl⟩ with h1 | ⟨i', m', o', h1, h2, h3, h4, h5⟩
      · exact h1
      · have hi' := (hs1.dom i' m' h1).1
        have h1' : ρ2 i' = some m' := (tr.ext i' hi').trans h1
        have h2' : (H1 ++ L)[i']? = some o' := by rw [List.getElem?_append_left hi']; exact h2
        have := hs.inj i' i m' x o' _ h1' hx h2' ho h3 rfl h4 h5
        omega
    | map es ck =>
      have hxo : x.own = true := hor.1
      rcases tr.fresh x.blk ⟨i, x, _, hx, ho, rfl, hxo, rfl⟩ with h1 | ⟨i', m', o', h1, h2, h3, h4, h5⟩
      · exact h1
      · have hi' := (hs1.dom i' m' h1).1
        have h1' : ρ2 i' = some m' := (tr.ext i' hi').trans h1
        have h2' : (H1 ++ L)[i']? = some o' := by rw [List.getElem?_append_left hi']; exact h2
        have := hs.inj i' i m' x o' _ h1' hx h2' ho h3 rfl h4 h5
        omega
    | iter mp ck sn =>
      have hxo : x.own = true := hor.1
      rcases tr.fresh x.blk ⟨i, x, _, hx, ho, rfl, hxo, rfl⟩ with h1 | ⟨i', m', o', h1, h2, h3, h4, h5⟩
      · exact h1
      · have hi' := (hs1.dom i' m' h1).1
        have h1' : ρ2 i' = some m' := (tr.ext i' hi').trans h1
        have h2' : (H1 ++ L)[i']? = some o' := by rw [List.getElem?_append_left hi']; exact h2
        have := hs.inj i' i m' x o' _ h1' hx h2' ho h3 rfl h4 h5
        omega
    | tok _ => cases how
    | dead => cases how
theorem InvA.step (hi : InvA ops D T H m LV E g S ρ w0 ro Ds ds listed a w ρ') (hp : pairsB ops = true) (hrows : ∀ k, k < m → (lD D k).all ownRow = true) {j : Nat} {o : Oper} (hj : ops[j]? = some o) (hjm : j < m) (hun : listed.getD j false = false)
    (hdeps : ∀ e ∈ o.after, Region.binds .any e = true → listed.getD e.on false = true) {ρ2 : Ren} {w' : World} {v' : Value} (hl : Left (cutR ρ' (HK D H j).length) (HK D H j) w (lD D j) ρ2 w') (hv : VRel ρ2 (vD D j) v') :
    ∃ ρ3, InvA ops D T H m LV E g S ρ w0 ro Ds ds (listed.setIfInBounds j true) (a.put o.dst v') w' ρ3 := by
  have hjl : j < listed.size := hi.size ▸ (Array.getElem?_eq_some_iff.1 hj).1
  have hset := getD_set hjl
  let ρ3 : Ren := fun i => if (HK D H j).length ≤ i ∧ i < (HK D H (j + 1)).length then ρ2 i else ρ' i
  have hlow : ∀ i, i < (HK D H j).length → ρ3 i = ρ' i := fun i h => by simp only [ρ3]; rw [if_neg (by omega)]
  have hmid : ∀ i, (HK D H j).length ≤ i → i < (HK D H (j + 1)).length → ρ3 i = ρ2 i := fun i h1 h2 => by simp only [ρ3]; rw [if_pos ⟨h1, h2⟩]
  have hhigh : ∀ i, (HK D H (j + 1)).length ≤ i → ρ3 i = ρ' i := fun i h => by simp only [ρ3]; rw [if_neg (by omega)]
  have hlen1 : (HK D H j).length ≤ (HK D H (j + 1)).length := HK_len D H (by omega)
  have h2low : ∀ i, i < (HK D H j).length → ρ2 i = ρ' i := fun i h => (hl.ext i h).trans (cutR_lt h)
  have hHj : HK D H j ++ lD D j = HK D H (j + 1) := rfl
  have hsr : SRel ρ2 (HK D H (j + 1)) w' := hl.srel
  have h2dom : ∀ i x, ρ2 i = some x → i < (HK D H (j + 1)).length := fun i x h => (hsr.dom i x h).1
  have le3 : ρ'.le ρ3 := fun i x hx => by
    by_cases h1 : (HK D H j).length ≤ i ∧ i < (HK D H (j + 1)).length
    · have := hi.made j hjm hun i h1.1 h1.2; rw [this] at hx; cases hx
    · simp only [ρ3]; rw [if_neg h1]; exact hx
  have le23 : ρ2.le ρ3 := fun i x hx => by
    have h1 := h2dom i x hx
    by_cases h2 : i < (HK D H j).length
    · rw [hlow i h2, ← h2low i h2]; exact hx
    · rw [hmid i (by omega) h1]; exact hx
  have oldblk : ∀ i x, ρ' i = some x → x.blk < w.heap.size := fun i x hx => ((hi.fam m (Nat.le_refl _)).dom i x (by rw [cutR_lt (hi.top i x hx)]; exact hx)).2
  have fam3 : ∀ k, k ≤ m → SRel (cutR ρ3 (HK D H k).length) (HK D H k) w' := by
    intro k hk
    have old := hi.fam k hk
    refine ⟨fun i x hx => ?_, fun i x ob hx hob => ?_, fun i i2 x x2 ob ob2 hx hx2 hob hob2 hd hd2 hown hbb => ?_⟩
    · obtain ⟨h1, h2⟩ := cutR_some hx
      refine ⟨h1, ?_⟩
      by_cases hmidi : (HK D H j).length ≤ i ∧ i < (HK D H (j + 1)).length
      · rw [hmid i hmidi.1 hmidi.2] at h2; exact (hsr.dom i x h2).2
      · have h3 : ρ' i = some x := by simp only [ρ3] at h2; rwa [if_neg hmidi] at h2
        have := oldblk i x h3; have := hl.size; omega
    · obtain ⟨h1, h2⟩ := cutR_some hx
      by_cases c1 : i < (HK D H j).length
      ·
        have h3 : ρ' i = some x := by rw [← hlow i c1]; exact h2
        have h4 : ρ2 i = some x := (h2low i c1).trans h3
        have hob1 : (HK D H (j + 1))[i]? = some ob := by rw [HK_get D H (j := k) (by omega) h1]; exact hob
        have hor := hsr.obj i x ob h4 hob1
        have hkk : ∃ k', k' ≤ j ∧ k' ≤ k ∧ i < (HK D H k').length := by
          rcases Nat.le_total j k with h | h
          · exact ⟨j, Nat.le_refl _, h, c1⟩
          · exact ⟨k, h, Nat.le_refl _, h1⟩
        obtain ⟨k', hk'j, hk'k, hik'⟩ := hkk
        have old' := hi.fam k' (by omega)
        have hob' : (HK D H k')[i]? = some ob := by rw [HK_get D H (j := k) hik' h1]; exact hob
        have hox := old'.obj i x ob (by rw [cutR_lt hik']; exact h3) hob'
        have lek2 : (cutR ρ' (HK D H k').length).le ρ2 := fun i' x' h' => by
          obtain ⟨a1, a2⟩ := cutR_some h'
          have := HK_len D H hk'j
          rw [h2low i' (by omega)]; exact a2
        have lek3 : (cutR ρ' (HK D H k').length).le (cutR ρ3 (HK D H k).length) := fun i' x' h' => by
          obtain ⟨a1, a2⟩ := cutR_some h'
          have := HK_len D H hk'k
          rw [cutR_lt (by omega)]; exact le3 i' x' a2
        cases ob with
        | row cells es own =>
          obtain ⟨b1, b2, c, e, fr, b3, b4, b5, b6, b7⟩ := hor
          obtain ⟨_, _, c0, _, _, _, _, _, d6, d7⟩ := hox
          exact ⟨b1, b2, c, e, fr, b3, b4, b5, b6, fun j' h1' h2' => ((d7 j' h1' (by omega)).restrict lek2 (b7 j' h1' h2')).mono lek3⟩
        | map es ck =>
          obtain ⟨b1, es', b2, b3, b4⟩ := hor
          obtain ⟨_, es0, _, d3, d4⟩ := hox
          refine ⟨b1, es', b2, b3, fun j' h1' h2' => ?_⟩
          have q := d4 j' h1' (by omega)
          have r := b4 j' h1' h2'
          exact ⟨(q.1.restrict lek2 r.1).mono lek3, (q.2.1.restrict lek2 r.2.1).mono lek3, r.2.2⟩
        | iter mp ck sn =>
          obtain ⟨b1, mm, b2, b3⟩ := hor
          obtain ⟨_, mm', d2, _⟩ := hox
          have : mm' = mm := by have := lek2 _ _ d2; rw [b2] at this; exact (Option.some.inj this).symm
          subst this
          exact ⟨b1, mm', lek3 _ _ d2, b3⟩
        | tok _ => exact ⟨hor.1, fun p hp => lek3 _ _ (hox.2 p hp)⟩
        | dead => trivial
      · by_cases c2 : i < (HK D H (j + 1)).length
        ·
          have hjk : j + 1 ≤ k := by
            rcases Nat.lt_or_ge j k with h | h
            · exact h
            · have := HK_len D H h; omega
          have h4 : ρ2 i = some x := by rw [← hmid i (by omega) c2]; exact h2
          have hob1 : (HK D H (j + 1))[i]? = some ob := by rw [HK_get D H (j := k) c2 h1]; exact hob
          refine (hsr.obj i x ob h4 hob1).mono fun i' x' h' => ?_
          have := HK_len D H hjk
          have := h2dom i' x' h'
          rw [cutR_lt (by omega)]; exact le23 i' x' h'
        ·
          have h3 : ρ' i = some x := by rw [← hhigh i (by omega)]; exact h2
          have hc : cutR ρ' (HK D H k).length i = some x := by rw [cutR_lt h1]; exact h3
          have hor := old.obj i x ob hc hob
          have hno : ¬ LiveOwn (cutR ρ' (HK D H j).length) (HK D H j) x.blk := by
            rintro ⟨i', x', o', e1, e2, e3, e4, e5⟩
            obtain ⟨f1, f2⟩ := cutR_some e1
            have hjk : j ≤ k := by
              rcases Nat.le_total j k with h | h
              · exact h
              · have := HK_len D H h; omega
            have hjk' := HK_len D H hjk
            have e2' : (HK D H k)[i']? = some o' := by rw [← HK_get D H (i := j) f1 (by omega)]; exact e2
            have hdob : ob.dead? = false := by
              have hmem : ∀ k, k ≤ m → ∀ i ob, H.length ≤ i → (HK D H k)[i]? = some ob → ownRow ob = true := by
                intro k
                induction k with
                | zero => intro _ i ob h1 h2; simp only [HK] at h2; rw [List.getElem?_eq_none h1] at h2; cases h2
                | succ k ih =>
                  intro hk i ob h1 h2
                  simp only [HK] at h2
                  by_cases h3 : i < (HK D H k).length
                  · rw [List.getElem?_append_left h3] at h2; exact ih (by omega) i ob h1 h2
                  · rw [List.getElem?_append_right (by omega)] at h2
                    exact List.all_eq_true.1 (hrows k (by omega)) ob (List.mem_of_getElem? h2)
              have h0 : H.length ≤ (HK D H j).length := HK_len D H (Nat.zero_le j)
              have := hmem k hk i ob (by omega) hob
              cases ob <;> simp_all [ownRow, AObj.dead?]
            have := old.inj i' i x' x o' ob (by rw [cutR_lt (by omega)]; exact f2) hc e2' hob e3 hdob e4 e5
            omega
          rw [hl.keep x.blk (oldblk i x h3) hno]
          exact hor.mono fun i' x' h' => by
            obtain ⟨a1, a2⟩ := cutR_some h'
            rw [cutR_lt a1]; exact le3 i' x' a2
    · obtain ⟨h1, h2⟩ := cutR_some hx
      obtain ⟨k1, k2⟩ := cutR_some hx2
      have cls : ∀ i x, ρ3 i = some x → ((HK D H j).length ≤ i ∧ i < (HK D H (j + 1)).length ∧ ρ2 i = some x ∧ w.heap.size ≤ x.blk) ∨ (ρ' i = some x ∧ x.blk < w.heap.size) := by
        intro i x h
        by_cases c : (HK D H j).length ≤ i ∧ i < (HK D H (j + 1)).length
        · rw [hmid i c.1 c.2] at h
          exact .inl ⟨c.1, c.2, h, hl.new i x c.1 h⟩
        · simp only [ρ3] at h; rw [if_neg c] at h; exact .inr ⟨h, oldblk i x h⟩
      rcases cls i x h2 with ⟨a1, a2, a3, a4⟩ | ⟨a3, a4⟩
      · rcases cls i2 x2 k2 with ⟨b1, b2, b3, b4⟩ | ⟨b3, b4⟩
        · have e1 : (HK D H (j + 1))[i]? = some ob := by rw [HK_get D H (j := k) a2 h1]; exact hob
          have e2 : (HK D H (j + 1))[i2]? = some ob2 := by rw [HK_get D H (j := k) b2 k1]; exact hob2
          exact hsr.inj i i2 x x2 ob ob2 a3 b3 e1 e2 hd hd2 hown hbb
        · omega
      · rcases cls i2 x2 k2 with ⟨b1, b2, b3, b4⟩ | ⟨b3, b4⟩
        · omega
        · exact old.inj i i2 x x2 ob ob2 (by rw [cutR_lt h1]; exact a3) (by rw [cutR_lt k1]; exact b3) hob hob2 hd hd2 hown hbb
  have hno : ∀ b, b < w0.heap.size → ¬ LV b → ¬ LiveOwn (cutR ρ' (HK D H j).length) (HK D H j) b := by
    rintro b hb hno ⟨i, x, o', e1, e2, e3, e4, e5⟩
    obtain ⟨f1, f2⟩ := cutR_some e1
    by_cases c : i < H.length
    · have h0 : HK D H 0 = H := rfl
      exact hno (hi.live _ ⟨i, x, o', (hi.base i c) ▸ f2, by have := HK_get D H (i := 0) (j := j) (k := i) (by rw [h0]; exact c) f1; rw [h0] at this; rw [this]; exact e2, e3, e4, e5⟩)
    · rcases hi.fresh i x (by omega) f2 with h9 | h9
      · omega
      · exact hno (e5 ▸ h9)
  have hk : ∀ b, b < w0.heap.size → ¬ LV b → w'.heap[b]? = w.heap[b]? := fun b hb hl' => hl.keep b (by have := hi.wsize; omega) (hno b hb hl')
  have hkS : ∀ b, S b → w'.heap[b]? = w.heap[b]? := fun b hb => hk b (hi.bnd b hb) (hi.disj b hb)
  have hd : dstA ops j = o.dst := by simp [dstA, hj]
  have hloop : ∀ (l : Nat) (ob : Obj), w.heap[l]? = some ob → (∀ c e fr, ob ≠ .cells c e fr) → (∀ es ck, ob ≠ .map es ck) → (∀ a b c d, ob ≠ .mapIter a b c d) → w'.heap[l]? = some ob := fun l ob h1 h2 h3 h4 =>
    (hl.keep l (Array.getElem?_eq_some_iff.1 h1).1 (not_liveOwn_of_loop (hi.fam j (by omega)) h1 h2 h3 h4)).trans h1
  refine ⟨ρ3, ?_⟩
  exact {
    size := by rw [Array.size_setIfInBounds]; exact hi.size
    closed := fun j' o' hj' hl' e he hb => by
      rw [hset] at hl' ⊢
      by_cases ej : j' = j
      · subst ej
        rw [hj] at hj'; cases hj'
        split
        · rfl
        · exact hdeps e he hb
      · rw [if_neg ej] at hl'
        split
        · rfl
        · exact hi.closed j' o' hj' hl' e he hb
    pre := fun j' hj' => by rw [hset, if_neg (by omega)]; exact hi.pre j' hj'
    fam := fam3
    top := fun i x hx => by
      by_cases c : (HK D H j).length ≤ i ∧ i < (HK D H (j + 1)).length
      · have := HK_len D H (i := j + 1) (j := m) (by omega); omega
      · simp only [ρ3] at hx; rw [if_neg c] at hx; exact hi.top i x hx
    base := fun i hi' => by
      have h0 : H.length ≤ (HK D H j).length := HK_len D H (Nat.zero_le j)
      rw [hlow i (by omega)]; exact hi.base i hi'
    made := fun j' hj' hl' i h1 h2 => by
      rw [hset] at hl'
      by_cases ej : j' = j
      · subst ej; rw [if_pos rfl] at hl'; cases hl'
      · rw [if_neg ej] at hl'
        have := hi.made j' hj' hl' i h1 h2
        have c : ¬ ((HK D H j).length ≤ i ∧ i < (HK D H (j + 1)).length) := by
          rintro ⟨c1, c2⟩
          rcases Nat.lt_or_gt_of_ne ej with h | h
          · have := HK_len D H (i := j' + 1) (j := j) (by omega); omega
          · have := HK_len D H (i := j + 1) (j := j') (by omega); omega
        simp only [ρ3]; rw [if_neg c]; exact this
    vals := fun j' hj' hl' => by
      rw [hset] at hl'
      by_cases ej : j' = j
      · subst ej
        exact ⟨v', hv.mono fun i x hx => by have := h2dom i x hx; rw [cutR_lt (by omega)]; exact le23 i x hx⟩
      · rw [if_neg ej] at hl'
        exact (hi.vals j' hj' hl').mono fun i x hx => by
          obtain ⟨a1, a2⟩ := cutR_some hx
          rw [cutR_lt a1]; exact le3 i x a2
    trel := by
      rw [TS_set hp hi.closed hj hi.size hun m, if_pos hjm, hd]
      exact TRel.put (ac := a) (hi.trel.mono le3) o.dst (hv.mono le23)
    j := E.stable g S w w' hi.j hkS hl.size hl.os hl.tape hl.out
    bnd := hi.bnd
    disj := hi.disj
    live := hi.live
    os := hl.os.trans hi.os
    tape := hl.tape.trans hi.tape
    out := hl.out.trans hi.out
    wsize := Nat.le_trans hi.wsize hl.size
    keep := fun b hb hl' => (hk b hb hl').trans (hi.keep b hb hl')
    fresh := fun i x h1 hx => by
      by_cases c : (HK D H j).length ≤ i ∧ i < (HK D H (j + 1)).length
      · rw [hmid i c.1 c.2] at hx
        have := hl.new i x c.1 hx
        have := hi.wsize
        exact .inl (by omega)
      · simp only [ρ3] at hx; rw [if_neg c] at hx; exact hi.fresh i x h1 hx
    ro := fun l hl' => by
      obtain ⟨h1, r, h2⟩ := hi.ro l hl'
      exact ⟨h1, r, hloop l _ h2 (fun _ _ _ e => by cases e) (fun _ _ e => by cases e) (fun _ _ _ _ e => by cases e)⟩
    marks := by
      rw [put_defers]
      exact ⟨hi.marks.eq, hi.marks.nodup, fun D' hD' => ⟨(hi.marks.at_ D' hD').1, hloop D' _ (hi.marks.at_ D' hD').2 (fun _ _ _ e => by cases e) (fun _ _ e => by cases e) (fun _ _ _ _ e => by cases e)⟩⟩
    defers := by rw [put_defers]; exact hi.defers }
theorem backB_spec (h : backB ops = true) {j : Nat} {o : Oper} (hj : ops[j]? = some o) : ∀ e ∈ o.after, Region.binds .any e = true → e.on < j := by
  intro e he hb
  have h1 := List.all_eq_true.1 h j (List.mem_range.2 (Array.getElem?_eq_some_iff.1 hj).1)
  simp only [hj, Option.map_some, Option.getD_some] at h1
  have h2 := Array.all_eq_true'.1 h1 e he
  simpa [hb] using h2
theorem sufB_spec (h : sufB ops m = true) {j k : Nat} (hj : j < ops.size) (hm : m ≤ j) (hk : k < j) : ancB ops ops.size j k = true := by
  have h1 := List.all_eq_true.1 h j (List.mem_range.2 hj)
  simp only [Bool.or_eq_true, decide_eq_true_eq] at h1
  exact List.all_eq_true.1 (h1.resolve_left (by omega)) k (List.mem_range.2 hk)
theorem first_ready (hb : backB ops = true) {listed : Array Bool} (hz : listed.size = ops.size) (h : Region.ready .any ops listed = []) : ∀ j, j < ops.size → listed.getD j false = true := by
  intro j
  induction j using Nat.strongRecOn with
  | _ j ih =>
    intro hj
    cases hl : listed.getD j false with
    | true => rfl
    | false =>
      exfalso
      have hun : listed.getD j true = false := by
        have : j < listed.size := by omega
        simp only [Array.getD, this, dif_pos] at hl ⊢; exact hl
      have : j ∈ Region.ready .any ops listed := mem_ready.2 ⟨hun, ops[j], Array.getElem?_eq_getElem hj, fun e he hbn => ih e.on (backB_spec hb (Array.getElem?_eq_getElem hj) e he hbn) (by
        have := backB_spec hb (Array.getElem?_eq_getElem hj) e he hbn; omega)⟩
      rw [h] at this; cases this
theorem TS_all {ops : Array Oper} {D : List (Value × AHeap)} {T : List Value} {listed : Array Bool} : ∀ m, (∀ j, j < m → listed.getD j false = true) → TS ops D T listed m = TK ops D T m
  | 0, _ => rfl
  | m + 1, h => by
    simp only [TS, TK]
    rw [if_pos (h m (by omega)), TS_all m (fun j hj => h j (by omega))]
theorem InvA.over {H0 : AHeap} (hi : InvA ops D T H m (LiveOwn ρ H0) E g S ρ w0 ro Ds ds listed a w ρ') (hl0 : H0.length = H.length) (hall : ∀ j, j < m → listed.getD j false = true) :
    Inv E ρ' (HK D H m) g S w ∧ TRel ρ' (TK ops D T m) a.tmps ∧ Trans ρ H0 S w0 ρ' (HK D H m) S w := by
  have hcut : cutR ρ' (HK D H m).length = ρ' := by
    funext i
    unfold cutR
    split
    · rfl
    · rename_i h
      cases hx : ρ' i with
      | none => rfl
      | some x => exact absurd (hi.top i x hx) h
  have hs : SRel ρ' (HK D H m) w := by have := hi.fam m (Nat.le_refl _); rwa [hcut] at this
  have hlive : ∀ b, LiveOwn ρ' (HK D H m) b → w0.heap.size ≤ b ∨ LiveOwn ρ H0 b := by
    rintro b ⟨i, x, o, h1, h2, h3, h4, rfl⟩
    by_cases c : i < H.length
    · have h0 : HK D H 0 = H := rfl
      exact .inr (hi.live _ ⟨i, x, o, (hi.base i c) ▸ h1, by have := HK_get D H (i := 0) (j := m) (k := i) (by rw [h0]; exact c) (hi.top i x h1); rw [h0] at this; rw [this]; exact h2, h3, h4, rfl⟩)
    · exact hi.fresh i x (by omega) h1
  refine ⟨⟨hs, hi.j, fun b hb => by have := hi.bnd b hb; have := hi.wsize; omega, fun b hb hl => ?_⟩, by rw [← TS_all m hall]; exact hi.trel, ⟨by rw [hl0]; exact HK_len D H (Nat.zero_le m), fun i hi' => hi.base i (by omega), hi.os, hi.tape, hi.out, hi.wsize, fun b hb _ hl => hi.keep b hb hl, hlive, fun b hb => .inl hb⟩⟩
  rcases hlive b hl with h | h
  · have := hi.bnd b hb; omega
  · exact hi.disj b hb h
def unl (ops : Array Oper) (listed : Array Bool) : Nat := ((List.range ops.size).filter fun k => !listed.getD k false).length
theorem unl_zero {ops : Array Oper} {listed : Array Bool} (h : unl ops listed ≤ 0) {j : Nat} (hj : j < ops.size) : listed.getD j false = true := by
  have h0 : (List.range ops.size).filter (fun k => !listed.getD k false) = [] := List.eq_nil_of_length_eq_zero (Nat.le_zero.1 h)
  have := List.filter_eq_nil_iff.1 h0 j (List.mem_range.2 hj)
  simpa using this
theorem unl_set {ops : Array Oper} {listed : Array Bool} {j fuel : Nat} (hz : listed.size = ops.size) (hj : j < ops.size) (hun : listed.getD j false = false) (h : unl ops listed ≤ fuel + 1) : unl ops (listed.setIfInBounds j true) ≤ fuel := by
  have e : (List.range ops.size).filter (fun k => !(listed.setIfInBounds j true).getD k false) = ((List.range ops.size).filter (fun k => !listed.getD k false)).filter (fun k => k != j) := by
    rw [List.filter_filter]
    apply List.filter_congr
    intro k _
    rw [getD_set (by omega)]
    by_cases ek : k = j
    · subst ek; simp
    · simp [ek]
  have hlt : (((List.range ops.size).filter (fun k => !listed.getD k false)).filter (fun k => k != j)).length < ((List.range ops.size).filter (fun k => !listed.getD k false)).length :=
    List.length_filter_lt_length_iff_exists.2 ⟨j, List.mem_filter.2 ⟨List.mem_range.2 hj, by simp only [hun]; rfl⟩, by simp⟩
  unfold unl at h ⊢
  rw [e]
  omega
theorem tail_any (hb : backB ops = true) (hsuf : sufB ops m = true) {R : List Value → AHeap → γ → Prop} {Q : Exit → List Value → AHeap → γ → Prop} (hRQ : ∀ T H g, R T H g → Q .normal T H g) :
    ∀ (fuel j : Nat) (listed : Array Bool), unl ops listed ≤ fuel → m ≤ j → listed.size = ops.size → (∀ k, listed.getD k false = true ↔ k < j) →
    ∀ (T1 : List Value) (H1 : AHeap) (g1 : γ), OpsJ P E ops R (ops.toList.drop j) T1 H1 g1 → ∀ (ρ1 : Ren) (w1 : World) (S1 : Nat → Prop) (Ds1 : List Nat) (a1 : Act), Inv E ρ1 H1 g1 S1 w1 → TRel ρ1 T1 a1.tmps → RoOk ro S1 w1 → Marks a1.defers Ds1 S1 w1 →
      ∀ (QQ : Exit → Act → World → Prop), (∀ e a w, Post E Q ρ1 H1 S1 w1 Ds1 e a w → QQ e a w) → wpAnyIn (Wr ro) 0 P .any ops QQ fuel listed a1 w1
  | 0, j, listed, hf, hm, hz, hl, T1, H1, g1, h, ρ1, w1, S1, Ds1, a1, hi, ht, hr, hmk, QQ, hQ => by
    have hj : ops.toList.drop j = [] := by
      apply List.drop_eq_nil_of_le
      simp only [Array.length_toList]
      exact Nat.le_of_not_lt fun h1 => by have := (hl j).1 (unl_zero hf h1); omega
    rw [hj] at h
    refine ⟨?_, hQ _ _ _ ⟨ρ1, T1, H1, g1, S1, Ds1, hi, ht, .refl _ _ _ _, ⟨hmk, fun _ h => .inl h⟩, hRQ _ _ _ h⟩⟩
    apply List.eq_nil_iff_forall_not_mem.2
    intro k hk
    obtain ⟨h1, o, h2, _⟩ := mem_ready.1 hk
    have hkl : k < ops.size := (Array.getElem?_eq_some_iff.1 h2).1
    have h3 := unl_zero hf hkl
    have : k < listed.size := by omega
    simp only [Array.getD, this, dif_pos] at h1 h3
    rw [h3] at h1; cases h1
  | fuel + 1, j, listed, hf, hm, hz, hl, T1, H1, g1, h, ρ1, w1, S1, Ds1, a1, hi, ht, hr, hmk, QQ, hQ => by
    refine ⟨fun h0 => ?_, fun k hk => ?_⟩
    · have hj : ops.toList.drop j = [] := by
        apply List.drop_eq_nil_of_le
        simp only [Array.length_toList]
        exact Nat.le_of_not_lt fun h1 => by have := (hl j).1 (first_ready hb hz h0 j h1); omega
      rw [hj] at h
      exact hQ _ _ _ ⟨ρ1, T1, H1, g1, S1, Ds1, hi, ht, .refl _ _ _ _, ⟨hmk, fun _ h => .inl h⟩, hRQ _ _ _ h⟩
    · obtain ⟨h1, o, h2, h3⟩ := mem_ready.1 hk
      have hkl : k < ops.size := (Array.getElem?_eq_some_iff.1 h2).1
      have hkz : k < listed.size := by omega
      have hun : ¬ k < j := fun hlt => by
        have := (hl k).2 hlt
        simp only [Array.getD, hkz, dif_pos] at h1 this
        rw [this] at h1; cases h1
      have hcl : Closed ops listed := fun j' o' hj' hl' e he hbn => (hl _).2 (by have := backB_spec hb hj' e he hbn; have := (hl j').1 hl'; omega)
      have hkj : k = j := by
        rcases Nat.lt_or_ge j k with h4 | h4
        · have := (hl j).1 (anc_listed hcl ops.size k j o h2 h3 (sufB_spec hsuf hkl (by omega) h4)); omega
        · omega
      subst hkj
      have hunk : listed.getD k false = false := by
        cases hq : listed.getD k false with
        | false => rfl
        | true => exact absurd ((hl k).1 hq) hun
      have hdrop : ops.toList.drop k = o :: ops.toList.drop (k + 1) := by
        have hk' : k < ops.toList.length := by simpa using hkl
        have := List.drop_eq_getElem_cons hk'
        rw [this]
        congr 1
        obtain ⟨_, he⟩ := Array.getElem?_eq_some_iff.1 h2
        simpa using he
      rw [hdrop] at h
      have hl' : ∀ k', (listed.setIfInBounds k true).getD k' false = true ↔ k' < k + 1 := by
        intro k'
        rw [getD_set hkz]
        by_cases e : k' = k
        · subst e; simp
        · rw [if_neg e, hl k']; omega
      have go : ∀ ac' w', (∃ ρ' v v' H' g' S', ac' = a1.put o.dst v' ∧ VRel ρ' v v' ∧ Inv E ρ' H' g' S' w' ∧ Trans ρ1 H1 S1 w1 ρ' H' S' w' ∧ OpsJ P E ops R (ops.toList.drop (k + 1)) (putT T1 o.dst v) H' g') →
          wpAnyIn (Wr ro) 0 P .any ops QQ fuel (listed.setIfInBounds k true) ac' w' := by
        rintro ac' w' ⟨ρ', v, v', H', g', S', rfl, hv, hi', tr, hk'⟩
        exact tail_any hb hsuf hRQ fuel (k + 1) _ (unl_set hz hkl hunk hf) (by omega) (by rw [Array.size_setIfInBounds]; exact hz) hl' _ _ _ hk' ρ' w' S' Ds1 _ hi' ((ht.mono (tr.le hi.srel)).put o.dst hv) (hr.trans hi.srel tr)
          (by rw [put_defers]; exact hmk.trans hi.srel tr) QQ fun e a w hp => hQ e a w (hp.from tr (fun _ h => .inl h))
      unfold wpOpIn
      simp only [h2]
      cases hg : o.guard with
      | none =>
        have hw : Region.wanted o (yielded ops a1.tmps) = true := by simp [Region.wanted, hg]
        simp only [OpsJ, hg] at h
        simp only [hw, if_true]
        exact Oper.wpIn_mono go ⟨fun _ _ => trivial, h ρ1 w1 S1 ro Ds1 a1 QQ hi (ht.op _) hr hmk⟩
      | some jb =>
        obtain ⟨jj, b⟩ := jb
        simp only [OpsJ, hg] at h
        obtain ⟨x, hx, k1, k2⟩ := h
        have hy := guardAt_spec ht hx
        by_cases hxb : x = some b
        · have hw : Region.wanted o (yielded ops a1.tmps) = true := by simp [Region.wanted, hg, hy, hxb]
          simp only [hw, if_true]
          exact Oper.wpIn_mono go ⟨fun _ _ => trivial, k1 hxb ρ1 w1 S1 ro Ds1 a1 QQ hi (ht.op _) hr hmk⟩
        · have hw : Region.wanted o (yielded ops a1.tmps) = false := by simp [Region.wanted, hg, hy, hxb]
          simp only [hw, Bool.false_eq_true, if_false]
          exact ⟨fun _ _ => trivial, go _ _ ⟨ρ1, undef, undef, H1, g1, S1, rfl, undef_rel _, hi, .refl _ _ _ _, k2 hxb⟩⟩
theorem head_any (hb : backB ops = true) (hp : pairsB ops = true) (hsuf : sufB ops m = true) (hmn : m ≤ ops.size) (hrows : ∀ k, k < m → (lD D k).all ownRow = true) {H0 : AHeap} (hl0 : H0.length = H.length) (hdom : ∀ i x, ρ i = some x → i < H.length) (htd : ∀ t, Def ρ (getT T t))
    {QQ : Exit → Act → World → Prop} (I : Array Bool → Prop) (hdat : ∀ (j : Nat) (o : Oper) (listed : Array Bool), j < m → ops[j]? = some o → listed.size = ops.size → Closed ops listed → listed.getD j false = false → (∀ e ∈ o.after, Region.binds .any e = true → listed.getD e.on false = true) → I listed →
      (StepM P ops o (vD D j) (lD D j) (TK ops D T j) (HK D H j) ∧ I (listed.setIfInBounds j true)) ∨
      (∀ (fuel : Nat) (a : Act) (w : World) (ρ' : Ren), unl ops listed ≤ fuel + 1 → InvA ops D T H m (LiveOwn ρ H0) E g S ρ w0 ro Ds ds listed a w ρ' → wpOpIn (Wr ro) 0 P ops QQ j (wpAnyIn (Wr ro) 0 P .any ops QQ fuel (listed.setIfInBounds j true)) a w)) {R : List Value → AHeap → γ → Prop} {Q : Exit → List Value → AHeap → γ → Prop} (hRQ : ∀ T H g, R T H g → Q .normal T H g)
    (hR : ∀ listed : Array Bool, I listed → (∀ j, j < m → listed.getD j false = true) → OpsJ P E ops R (ops.toList.drop m) (TK ops D T m) (HK D H m) g) (hQ : ∀ e a w, Post E Q ρ H0 S w0 Ds e a w → QQ e a w) :
    ∀ (fuel : Nat) (listed : Array Bool) (a : Act) (w : World) (ρ' : Ren), unl ops listed ≤ fuel →
      InvA ops D T H m (LiveOwn ρ H0) E g S ρ w0 ro Ds ds listed a w ρ' → I listed → wpAnyIn (Wr ro) 0 P .any ops QQ fuel listed a w := by
  have over : ∀ (fuel : Nat) (listed : Array Bool) (a : Act) (w : World) (ρ' : Ren), unl ops listed ≤ fuel → InvA ops D T H m (LiveOwn ρ H0) E g S ρ w0 ro Ds ds listed a w ρ' → I listed → (∀ j, j < m → listed.getD j false = true) → wpAnyIn (Wr ro) 0 P .any ops QQ fuel listed a w := by
    intro fuel listed a w ρ' hf hi hIl hall
    obtain ⟨h1, h2, h3⟩ := hi.over hl0 hall
    refine tail_any hb hsuf hRQ fuel m listed hf (Nat.le_refl _) hi.size (fun k => ⟨fun h => ?_, hall k⟩) _ _ _ (hR listed hIl hall) ρ' w S Ds a h1 h2 hi.ro hi.marks QQ fun e a w hp => hQ _ _ _ (hp.from h3 fun _ h => .inl h)
    rcases Nat.lt_or_ge k m with hk | hk
    · exact hk
    · rw [hi.pre k hk] at h; cases h
  intro fuel
  induction fuel with
  | zero =>
    intro listed a w ρ' hf hi hIl
    exact over 0 listed a w ρ' hf hi hIl fun j hj => unl_zero hf (by omega)
  | succ fuel ih =>
    intro listed a w ρ' hf hi hIl
    by_cases hall : ∀ j, j < m → listed.getD j false = true
    · exact over (fuel + 1) listed a w ρ' hf hi hIl hall
    · obtain ⟨j0, hj0, hun0⟩ : ∃ j0, j0 < m ∧ listed.getD j0 false = false := by
        apply Classical.byContradiction
        intro hno
        refine hall fun j hj => ?_
        cases hq : listed.getD j false with
        | true => rfl
        | false => exact absurd ⟨j, hj, hq⟩ hno
      refine ⟨fun h0 => ?_, fun k hk => ?_⟩
      · have := first_ready hb hi.size h0 j0 (by omega)
        rw [hun0] at this; cases this
      · obtain ⟨h1, o, h2, h3⟩ := mem_ready.1 hk
        have hkl : k < ops.size := (Array.getElem?_eq_some_iff.1 h2).1
        have hkz : k < listed.size := by rw [hi.size]; exact hkl
        have hunk : listed.getD k false = false := by
          simp only [Array.getD, hkz, dif_pos] at h1 ⊢; exact h1
        have hkm : k < m := by
          rcases Nat.lt_or_ge k m with h4 | h4
          · exact h4
          · have := anc_listed hi.closed ops.size k j0 o h2 h3 (sufB_spec hsuf hkl h4 (by omega))
            rw [hun0] at this; cases this
        rcases hdat k o listed hkm h2 hi.size hi.closed hunk h3 hIl with ⟨hst, hIs⟩ | hsp
        rotate_left
        · exact hsp fuel a w ρ' hf hi
        have hlook := fun t ht => look_same (D := D) (T := T) hp hi.closed h2 hkm hmn hunk h3 (t := t) ht
        have lek : (cutR ρ' (HK D H k).length).le ρ' := cutR_le _ _
        have hdef : ∀ t, t ∈ o.looksAt ops → Def (cutR ρ' (HK D H k).length) (getT (TK ops D T k) t) := by
          intro t ht
          have hw := (hlook t ht).1
          have : ∀ i, i ≤ k → Def (cutR ρ' (HK D H k).length) (getT (TK ops D T i) t) := by
            intro i
            induction i with
            | zero =>
              intro _
              refine (htd t).mono fun i x hx => ?_
              have hlt := hdom i x hx
              have := HK_len D H (Nat.zero_le k)
              have h0 : HK D H 0 = H := rfl
              rw [h0] at this
              rw [cutR_lt (by omega), hi.base i hlt]; exact hx
            | succ i ih2 =>
              intro hik
              simp only [TK]
              by_cases hd : dstA ops i = some t
              · have hdv := hi.vals i (by omega) (hw i (by omega) hd)
                have hdv' : Def (cutR ρ' (HK D H k).length) (vD D i) := hdv.mono (cutR_mono ρ' (HK_len D H hik))
                rw [hd]
                rw [getT_get?]
                simp only [putT]
                rw [List.getElem?_set_self']
                cases (TK ops D T i)[t]? with
                | none => exact ⟨undef, undef_rel _⟩
                | some _ => exact hdv'
              · rw [getT_put hd]; exact ih2 (by omega)
          exact this k (Nat.le_refl _)
        have hop : OpRel (cutR ρ' (HK D H k).length) (TK ops D T k) a o.op := ⟨fun x hx => by
          cases x with
          | tmp t =>
            have ht : t ∈ o.looksAt ops := List.mem_append_left _ (List.mem_filterMap.2 ⟨.tmp t, hx, rfl⟩)
            have h5 := hi.trel.getD t
            rw [(hlook t ht).2] at h5
            obtain ⟨v1, hv1⟩ := hdef t ht
            exact hv1.restrict lek h5
          | const v => exact constT_rel _ v
          | global i => exact .wild _
          | func f => exact .func rfl (fun _ h => absurd h (Nat.not_lt_zero _)) rfl (fun _ h => absurd h (Nat.not_lt_zero _))⟩
        have hinv : Inv trivE (cutR ρ' (HK D H k).length) (HK D H k) () (fun _ => False) w := ⟨hi.fam k (by omega), trivial, fun _ h => h.elim, fun _ h => h.elim⟩
        have hro : RoOk ro (fun _ => False) w := fun l hl => ⟨fun h => h, (hi.ro l hl).2⟩
        have hmk : Marks a.defers Ds (fun _ => False) w := ⟨hi.marks.eq, hi.marks.nodup, fun D' hD' => ⟨fun h => h, (hi.marks.at_ D' hD').2⟩⟩
        have runOp : Mono P o (vD D k) (lD D k) (TK ops D T k) (HK D H k) → o.wpIn (Wr ro) 0 P a w (wpAnyIn (Wr ro) 0 P .any ops QQ fuel (listed.setIfInBounds k true)) QQ := by
          rintro ⟨hL, hmono⟩
          refine Oper.wpIn_mono ?_ ⟨fun _ _ => trivial, hmono _ w (fun _ => False) ro Ds a QQ hinv hop hro hmk⟩
          rintro ac' w' ⟨ρ2, v, v', H', g', S', rfl, hv, hi', tr, hv1, hH1⟩
          subst hv1; subst hH1
          obtain ⟨ρ3, hi3⟩ := hi.step hp hrows h2 hkm hunk h3 (Left.of hL (hi.fam k (by omega)) hi'.srel tr) hv
          exact ih _ _ _ ρ3 (unl_set hi.size hkl hunk hf) hi3 hIs
        have skipOp : vD D k = undef → lD D k = [] → wpAnyIn (Wr ro) 0 P .any ops QQ fuel (listed.setIfInBounds k true) (a.put o.dst undef) w := by
          intro hv hL
          have hleft : Left (cutR ρ' (HK D H k).length) (HK D H k) w (lD D k) (cutR ρ' (HK D H k).length) w :=
            ⟨by rw [hL, List.append_nil]; exact hi.fam k (by omega), fun _ _ => rfl, rfl, rfl, rfl, Nat.le_refl _, fun _ _ _ => rfl, fun i x h1 hx => by have := (cutR_some hx).1; omega⟩
          obtain ⟨ρ3, hi3⟩ := hi.step hp hrows h2 hkm hunk h3 hleft (v' := undef) (by rw [hv]; exact undef_rel _)
          exact ih _ _ _ ρ3 (unl_set hi.size hkl hunk hf) hi3 hIs
        unfold wpOpIn
        simp only [h2]
        cases hg : o.guard with
        | none =>
          have hw : Region.wanted o (yielded ops a.tmps) = true := by simp [Region.wanted, hg]
          simp only [StepM, hg] at hst
          simp only [hw, if_true]
          exact runOp hst
        | some jb =>
          obtain ⟨jj, b⟩ := jb
          simp only [StepM, hg] at hst
          obtain ⟨x, hx, k1, k2⟩ := hst
          have hy : yielded ops a.tmps jj = x := by
            unfold guardAt at hx
            unfold yielded
            cases hd : (ops[jj]?).bind (·.dst) with
            | none => rw [hd] at hx; simp at hx
            | some d =>
              rw [hd] at hx
              simp only [Option.bind_some] at hx ⊢
              have ht : d ∈ o.looksAt ops := List.mem_append_right _ (by simp [hg, hd])
              have h5 := hi.trel.getD d
              rw [(hlook d ht).2] at h5
              cases hT : (TK ops D T k)[d]? with
              | none => rw [hT] at hx; simp at hx
              | some v =>
                rw [hT] at hx
                obtain ⟨hlt, he⟩ := List.getElem?_eq_some_iff.1 hT
                have hlenT : ∀ i, (TK ops D T i).length = T.length := by
                  intro i
                  induction i with
                  | zero => rfl
                  | succ i ih2 => simp only [TK]; cases dstA ops i <;> simp [putT, ih2]
                have hlenS : ∀ i, (TS ops D T listed i).length = T.length := by
                  intro i
                  induction i with
                  | zero => rfl
                  | succ i ih2 =>
                    simp only [TS]
                    split
                    · cases dstA ops i <;> simp [putT, ih2]
                    · exact ih2
                have hlt2 : d < a.tmps.size := by
                  have h6 : (TS ops D T listed m).length = a.tmps.size := by simpa using hi.trel.1
                  have h7 := hlenS m
                  have h8 := hlenT k
                  have h9 : d < T.length := h8 ▸ hlt
                  exact (h6 ▸ h7) ▸ h9
                rw [getT_get?, hT] at h5
                simp only [Array.getD, hlt2, dif_pos, Option.getD_some] at h5
                rw [Array.getElem?_eq_getElem hlt2]
                split at hx
                · rename_i b' hb'
                  simp only [Option.some.injEq] at hb' hx
                  rw [hb'] at h5
                  have : a.tmps[d] = .bool b' := rel_bool h5
                  rw [this]; exact hx
                · rename_i hb'
                  simp only [Option.some.injEq] at hb' hx
                  rw [hb'] at h5
                  obtain ⟨a', ha', _⟩ := rel_tuple h5
                  have : a.tmps[d] = .tuple a' := ha'
                  rw [this]; exact hx
                · cases hx
          by_cases hxb : x = some b
          · have hw : Region.wanted o (yielded ops a.tmps) = true := by simp [Region.wanted, hg, hy, hxb]
            simp only [hw, if_true]
            exact runOp (k1 hxb)
          · have hw : Region.wanted o (yielded ops a.tmps) = false := by simp [Region.wanted, hg, hy, hxb]
            simp only [hw, Bool.false_eq_true, if_false]
            exact ⟨fun _ _ => trivial, skipOp (k2 hxb).1 (k2 hxb).2⟩
end
theorem WPJ.draw {γ : Type} {P : Program} {E : Env γ} {T : List Value} {H : AHeap} {g : γ} {id : Nat} {ops : Array Oper} {Q : Exit → List Value → AHeap → γ → Prop} (m : Nat) (hm : P.follows .mixedOrders = true)
    (hb : backB ops = true) (hp : pairsB ops = true) (hsuf : sufB ops m = true) (hmn : m ≤ ops.size)
    (h : MonoJ P ops (fun T1 H1 => OpsJ P E ops (Q .normal) (ops.toList.drop m) T1 H1 g) m ops.toList T H) : WPJ P E (.region id ops true) Q T H g := by
  intro ρ w S ro Ds ac hi ht hr hmk
  refine wpIn_region_any hm ?_
  obtain ⟨D, hDm, hD⟩ := MonoJ.data m 0 ops.toList T H (fun j => by simp) (by simpa using hmn) h
  obtain ⟨hdat, hR⟩ := hD [] T H rfl rfl rfl
  simp only [List.nil_append, Nat.zero_add] at hdat hR
  have hrows : ∀ k, k < m → (lD D k).all ownRow = true := by
    intro k hk
    obtain ⟨o, ho⟩ : ∃ o, ops[k]? = some o := ⟨_, Array.getElem?_eq_getElem (by omega)⟩
    have hs := hdat k o (Nat.zero_le _) hk ho
    unfold StepM at hs
    cases hg : o.guard with
    | none => simp only [hg] at hs; exact hs.1
    | some jb =>
      obtain ⟨j, b⟩ := jb
      simp only [hg] at hs
      obtain ⟨x, _, k1, k2⟩ := hs
      by_cases hxb : x = some b
      · exact (k1 hxb).1
      · rw [(k2 hxb).2]; rfl
  have hs1 : SRel ρ H w.drew := hi.srel.drew
  have hgetF : ∀ k, (Array.replicate ops.size false).getD k false = false := fun k => by simp [Array.getD]
  have hTS : ∀ i, TS ops D T (Array.replicate ops.size false) i = T := by
    intro i
    induction i with
    | zero => rfl
    | succ i ih => simp only [TS, hgetF]; exact ih
  refine head_any (ρ := ρ) (w0 := w.drew) (ds := ac.defers) (Ds := Ds) hb hp hsuf hmn hrows (H0 := H) rfl (fun i x hx => (hs1.dom i x hx).1) (fun t => ⟨_, ht.getD t⟩) (fun _ => True) (fun j o _ hj ho _ _ _ _ _ => .inl ⟨hdat j o (Nat.zero_le _) hj ho, trivial⟩) (R := Q .normal) (fun _ _ _ h => h) (fun _ _ _ => hR)
    (QQ := Post E Q ρ H S w Ds) (fun e a w1 hp1 => hp1.from ((Step.drew ρ H w).trans' S) (fun _ h => .inl h)) ops.size _ ac w.drew ρ ?_ ?_ trivial
  · unfold unl; exact Nat.le_trans (List.length_filter_le _ _) (by simp)
  · exact {
      size := by simp
      closed := fun j o _ hl => by rw [hgetF] at hl; cases hl
      pre := fun j _ => hgetF j
      fam := fun k _ => by
        have hl0 : H.length ≤ (HK D H k).length := HK_len D H (Nat.zero_le k)
        have hg0 : ∀ i, i < H.length → (HK D H k)[i]? = H[i]? := fun i hi => (HK_get D H (i := 0) (j := k) hi (by omega)).symm
        refine ⟨fun i x hx => ?_, fun i x o hx ho => ?_, fun i j x y o o' hx hy ho ho' hd hd' hown hbb => ?_⟩
        · obtain ⟨h1, h2⟩ := cutR_some hx
          exact ⟨h1, (hs1.dom i x h2).2⟩
        · obtain ⟨h1, h2⟩ := cutR_some hx
          have hlt := (hs1.dom i x h2).1
          rw [hg0 i hlt] at ho
          refine (hs1.obj i x o h2 ho).mono fun i' x' h' => ?_
          have := (hs1.dom i' x' h').1
          rw [cutR_lt (by omega)]; exact h'
        · obtain ⟨h1, h2⟩ := cutR_some hx
          obtain ⟨h3, h4⟩ := cutR_some hy
          rw [hg0 i (hs1.dom i x h2).1] at ho
          rw [hg0 j (hs1.dom j y h4).1] at ho'
          exact hs1.inj i j x y o o' h2 h4 ho ho' hd hd' hown hbb
      top := fun i x hx => by have := (hs1.dom i x hx).1; have := HK_len D H (Nat.zero_le m); have h0 : HK D H 0 = H := rfl; rw [h0] at this; omega
      base := fun _ _ => rfl
      made := fun j _ _ i h1 _ => by
        cases hx : ρ i with
        | none => rfl
        | some x => have := (hs1.dom i x hx).1; have := HK_len D H (Nat.zero_le j); have h0 : HK D H 0 = H := rfl; rw [h0] at this; omega
      vals := fun j _ hl => by rw [hgetF] at hl; cases hl
      trel := by rw [hTS]; exact ht
      j := E.stable g S w w.drew hi.j (fun _ _ => rfl) (Nat.le_refl _) rfl rfl rfl
      bnd := hi.bnd
      disj := hi.disj
      live := fun _ h => h
      os := rfl
      tape := rfl
      out := rfl
      wsize := Nat.le_refl _
      keep := fun _ _ _ => rfl
      fresh := fun i x h1 hx => by have := (hs1.dom i x hx).1; omega
      ro := hr
      marks := ⟨hmk.eq, hmk.nodup, hmk.at_⟩
      defers := rfl }
end Go.Abs
namespace Go.Abs
open Go
class TyC (P : Program) (t : TypeId) (d : outParam TypeDesc) (n : outParam Nat) (z : outParam Value) (b : outParam Nat) : Prop where
  ty : Ty P t d n z b
class FaC (P : Program) (s : TypeId) (f : Nat) (off : outParam Nat) : Prop where
  fa : ∃ fields n z b fd d' n' z' b', Ty P s (.struct fields) n z b ∧ fields[f]? = some fd ∧ Ty P fd.type d' n' z' b' ∧ n' ≠ 0 ∧ fd.offset = off
class EntC (P : Program) (f : FuncId) : Prop where
  ent : Enters P f
class FdC (P : Program) (s : TypeId) (f : Nat) (off : outParam Nat) (agg : outParam Bool) (size : outParam Nat) : Prop where
  fd : ∃ fields n z b fd d' z' b', Ty P s (.struct fields) n z b ∧ fields[f]? = some fd ∧ Ty P fd.type d' size z' b' ∧ aggD d' = agg ∧ fd.offset = off
class PlC (P : Program) (s : TypeId) (places : outParam (List (Nat × Nat))) (z : outParam Value) : Prop where
  pl : ∃ fields n b, Ty P s (.struct fields) n z b ∧ placesOf P fields = some ⟨places⟩
theorem FaC.of {P : Program} {s : TypeId} {f : Nat} {fields : Array Field} {n : Nat} {z : Value} {b : Nat} {fd : Field} {d' : TypeDesc} {n' : Nat} {z' : Value} {b' off : Nat}
    (h1 : Ty P s (.struct fields) n z b) (h2 : fields[f]? = some fd) (h3 : Ty P fd.type d' n' z' b') (h4 : n' ≠ 0) (h5 : fd.offset = off) : FaC P s f off := ⟨_, _, _, _, _, _, _, _, _, h1, h2, h3, h4, h5⟩
theorem FdC.of {P : Program} {s : TypeId} {f : Nat} {fields : Array Field} {n : Nat} {z : Value} {b : Nat} {fd : Field} {d' : TypeDesc} {n' : Nat} {z' : Value} {b' off : Nat} {agg : Bool}
    (h1 : Ty P s (.struct fields) n z b) (h2 : fields[f]? = some fd) (h3 : Ty P fd.type d' n' z' b') (h4 : aggD d' = agg) (h5 : fd.offset = off) : FdC P s f off agg n' := ⟨_, _, _, _, _, _, _, _, h1, h2, h3, h4, h5⟩
theorem PlC.of {P : Program} {s : TypeId} {fields : Array Field} {n : Nat} {z : Value} {b : Nat} {places : List (Nat × Nat)} (h1 : Ty P s (.struct fields) n z b) (h2 : placesOf P fields = some ⟨places⟩) : PlC P s places z := ⟨_, _, _, h1, h2⟩
section
variable {γ : Type} {P : Program} {E : Env γ} {T T' : List Value} {H H' : AHeap} {g : γ} {R : List Value → AHeap → γ → Prop} {ops : Array Oper} {dst : Option Tmp} {ty : TypeId} {ps : String} {af : Array Edge} {rest : List Oper}
theorem WPJ.norm {c : Code} {Q : Exit → List Value → AHeap → γ → Prop} (hT : T = T') (hH : H = H') (h : WPJ P E c Q T' H' g) : WPJ P E c Q T H g := by subst hT; subst hH; exact h
theorem OpsJ.norm {l : List Oper} (hT : T = T') (hH : H = H') (h : OpsJ P E ops R l T' H' g) : OpsJ P E ops R l T H g := by subst hT; subst hH; exact h
theorem CallJ.enter {f : FuncId} {fn : Func} {c : Code} {args : List Value} {K : Value → AHeap → γ → Prop} (hf : P.funcs[f]? = some fn) (hb : fn.body = some c) (hT : args ++ List.replicate (fn.ntmps - args.length) undef = T)
    (h : WPJ P E c (exitQ P fn K) T H g) : CallJ P E f args K H g := CallJ.of_body hf hb (hT ▸ h)
theorem st_move {x : Operand} (k : OpsJ P E ops R rest (putT T dst (evalT T x)) H g) : OpsJ P E ops R (⟨dst, .move x, ty, ps, af, none⟩ :: rest) T H g := OpsJ.step runs_move rfl k
theorem st_assign {x : Operand} (k : OpsJ P E ops R rest (putT T dst (evalT T x)) H g) : OpsJ P E ops R (⟨dst, .assign x, ty, ps, af, none⟩ :: rest) T H g := OpsJ.step runs_assign rfl k
theorem st_pick {c x y : Operand} {b : Bool} (hc : evalT T c = .bool b) (k : OpsJ P E ops R rest (putT T dst (bif b then evalT T x else evalT T y)) H g) : OpsJ P E ops R (⟨dst, .pick c x y, ty, ps, af, none⟩ :: rest) T H g := OpsJ.step (runs_pick hc) rfl k
theorem st_nilCheck {x : Operand} {a : Addr} (hx : evalT T x = .pointer (some a)) (k : OpsJ P E ops R rest (putT T dst (evalT T x)) H g) : OpsJ P E ops R (⟨dst, .nilCheck x, ty, ps, af, none⟩ :: rest) T H g := OpsJ.step (runs_nilCheck hx) rfl k
theorem st_extract {x : Operand} {j : Nat} {a : List Value} {v : Value} (hx : evalT T x = .tuple ⟨a⟩) (hv : a[j]? = some v) (k : OpsJ P E ops R rest (putT T dst v) H g) : OpsJ P E ops R (⟨dst, .extract x j, ty, ps, af, none⟩ :: rest) T H g :=
  OpsJ.step (runs_extract hx (by simpa using hv)) rfl k
theorem st_int {op : BinOp} {xt yt : TypeId} {x y : Operand} {kd : IntKind} {a b : Int} {v : Value} (hx : evalT T x = .int kd a) (hy : evalT T y = .int kd b) (hv : intBin op kd a b = some v)
    (k : OpsJ P E ops R rest (putT T dst v) H g) : OpsJ P E ops R (⟨dst, .binOp op xt x y yt, ty, ps, af, none⟩ :: rest) T H g := OpsJ.step (runs_intBin hx hy hv) rfl k
theorem wrap64_eq {n : Int} (h : -9223372036854775808 ≤ n ∧ n ≤ 9223372036854775807) : IntKind.i64.wrap n = n := by
  have e1 : (2 : Int) ^ 64 = 18446744073709551616 := by decide
  have e2 : (2 : Int) ^ (64 - 1) = 9223372036854775808 := by decide
  simp only [IntKind.wrap, IntKind.bits, IntKind.signed, Bool.true_and, e1, e2]
  split
  · rename_i h'
    have h2 := of_decide_eq_true h'
    omega
  · rename_i h'
    have h2 : ¬ (n % 18446744073709551616 ≥ 9223372036854775808) := fun h3 => h' (decide_eq_true h3)
    omega
theorem st_add {xt yt : TypeId} {x y : Operand} {a b : Int} (hx : evalT T x = .int .i64 a) (hy : evalT T y = .int .i64 b) (hw : -9223372036854775808 ≤ a + b ∧ a + b ≤ 9223372036854775807)
    (k : OpsJ P E ops R rest (putT T dst (.int .i64 (a + b))) H g) : OpsJ P E ops R (⟨dst, .binOp .add xt x y yt, ty, ps, af, none⟩ :: rest) T H g := OpsJ.step (runs_intBin hx hy (by simp only [intBin, wrap64_eq hw])) rfl k
theorem st_sub {xt yt : TypeId} {x y : Operand} {a b : Int} (hx : evalT T x = .int .i64 a) (hy : evalT T y = .int .i64 b) (hw : -9223372036854775808 ≤ a - b ∧ a - b ≤ 9223372036854775807)
    (k : OpsJ P E ops R rest (putT T dst (.int .i64 (a - b))) H g) : OpsJ P E ops R (⟨dst, .binOp .sub xt x y yt, ty, ps, af, none⟩ :: rest) T H g := OpsJ.step (runs_intBin hx hy (by simp only [intBin, wrap64_eq hw])) rfl k
theorem st_mul {xt yt : TypeId} {x y : Operand} {a b : Int} (hx : evalT T x = .int .i64 a) (hy : evalT T y = .int .i64 b) (hw : -9223372036854775808 ≤ a * b ∧ a * b ≤ 9223372036854775807)
    (k : OpsJ P E ops R rest (putT T dst (.int .i64 (a * b))) H g) : OpsJ P E ops R (⟨dst, .binOp .mul xt x y yt, ty, ps, af, none⟩ :: rest) T H g := OpsJ.step (runs_intBin hx hy (by simp only [intBin, wrap64_eq hw])) rfl k
theorem st_quo {xt yt : TypeId} {x y : Operand} {kd : IntKind} {a b : Int} (hx : evalT T x = .int kd a) (hy : evalT T y = .int kd b) (hb : b ≠ 0) (k : OpsJ P E ops R rest (putT T dst (.int kd (kd.wrap (a.tdiv b)))) H g) :
    OpsJ P E ops R (⟨dst, .binOp .quo xt x y yt, ty, ps, af, none⟩ :: rest) T H g := OpsJ.step (runs_quo hx hy hb) rfl k
theorem st_rem {xt yt : TypeId} {x y : Operand} {kd : IntKind} {a b : Int} (hx : evalT T x = .int kd a) (hy : evalT T y = .int kd b) (hb : b ≠ 0) (k : OpsJ P E ops R rest (putT T dst (.int kd (a.tmod b))) H g) :
    OpsJ P E ops R (⟨dst, .binOp .rem xt x y yt, ty, ps, af, none⟩ :: rest) T H g := OpsJ.step (runs_rem hx hy hb) rfl k
theorem st_shl {xt yt : TypeId} {x y : Operand} {kd k' : IntKind} {a b : Int} (hx : evalT T x = .int kd a) (hy : evalT T y = .int k' b) (hb : 0 ≤ b) (k : OpsJ P E ops R rest (putT T dst (.int kd (kd.wrap (a * 2 ^ (min b.toNat kd.bits))))) H g) :
    OpsJ P E ops R (⟨dst, .binOp .shl xt x y yt, ty, ps, af, none⟩ :: rest) T H g := OpsJ.step (runs_shl hx hy hb) rfl k
theorem st_shr {xt yt : TypeId} {x y : Operand} {kd k' : IntKind} {a b : Int} (hx : evalT T x = .int kd a) (hy : evalT T y = .int k' b) (hb : 0 ≤ b) (k : OpsJ P E ops R rest (putT T dst (.int kd (a.fdiv (2 ^ (min b.toNat kd.bits))))) H g) :
    OpsJ P E ops R (⟨dst, .binOp .shr xt x y yt, ty, ps, af, none⟩ :: rest) T H g := OpsJ.step (runs_shr hx hy hb) rfl k
theorem st_bits {op : BinOp} {xt yt : TypeId} {x y : Operand} {kd : IntKind} {a b n : Int} (hx : evalT T x = .int kd a) (hy : evalT T y = .int kd b) (hn : bitsBin op kd a b = some n) (k : OpsJ P E ops R rest (putT T dst (.int kd n)) H g) :
    OpsJ P E ops R (⟨dst, .binOp op xt x y yt, ty, ps, af, none⟩ :: rest) T H g := OpsJ.step (runs_bits hx hy hn) rfl k
theorem st_eqBool {xt yt : TypeId} {x y : Operand} {a b : Bool} {n : Nat} {z : Value} {by_ : Nat} [ht : TyC P xt .bool n z by_] (hx : evalT T x = .bool a) (hy : evalT T y = .bool b) (k : OpsJ P E ops R rest (putT T dst (.bool (a == b))) H g) :
    OpsJ P E ops R (⟨dst, .binOp .eql xt x y yt, ty, ps, af, none⟩ :: rest) T H g := OpsJ.step (by simpa using runs_eqBool (op := .eql) ht.ty hx hy (.inl rfl)) rfl k
theorem st_neBool {xt yt : TypeId} {x y : Operand} {a b : Bool} {n : Nat} {z : Value} {by_ : Nat} [ht : TyC P xt .bool n z by_] (hx : evalT T x = .bool a) (hy : evalT T y = .bool b) (k : OpsJ P E ops R rest (putT T dst (.bool (!(a == b)))) H g) :
    OpsJ P E ops R (⟨dst, .binOp .neq xt x y yt, ty, ps, af, none⟩ :: rest) T H g := OpsJ.step (by simpa using runs_eqBool (op := .neq) ht.ty hx hy (.inr rfl)) rfl k
theorem st_not {xt : TypeId} {x : Operand} {b : Bool} (hx : evalT T x = .bool b) (k : OpsJ P E ops R rest (putT T dst (.bool (!b))) H g) : OpsJ P E ops R (⟨dst, .unOp .not xt x, ty, ps, af, none⟩ :: rest) T H g := OpsJ.step (runs_not hx) rfl k
theorem st_neg {xt : TypeId} {x : Operand} {kd : IntKind} {n : Int} (hx : evalT T x = .int kd n) (k : OpsJ P E ops R rest (putT T dst (.int kd (kd.wrap (0 - n)))) H g) : OpsJ P E ops R (⟨dst, .unOp .neg xt x, ty, ps, af, none⟩ :: rest) T H g := OpsJ.step (runs_neg hx) rfl k
theorem st_conv {src dt : TypeId} {x : Operand} {kd k' : IntKind} {n : Int} {ds : TypeDesc} {n1 n2 : Nat} {z1 z2 : Value} {b1 b2 : Nat} [hs : TyC P src ds n1 z1 b1] [hd : TyC P dt (.int k') n2 z2 b2] (hx : evalT T x = .int kd n)
    (k : OpsJ P E ops R rest (putT T dst (.int k' (k'.wrap n))) H g) : OpsJ P E ops R (⟨dst, .convert src dt x, ty, ps, af, none⟩ :: rest) T H g := OpsJ.step (runs_convInt hs.ty hd.ty hx) rfl k
theorem st_min {x y : Operand} {at_ : Array TypeId} {kd : IntKind} {a b : Int} (hx : evalT T x = .int kd a) (hy : evalT T y = .int kd b) (k : OpsJ P E ops R rest (putT T dst (.int kd (if b < a then b else a))) H g) :
    OpsJ P E ops R (⟨dst, .call { callee := .builtin .min, args := #[x, y], argTypes := at_ }, ty, ps, af, none⟩ :: rest) T H g := OpsJ.step (runs_min2 hx hy) rfl k
theorem st_max {x y : Operand} {at_ : Array TypeId} {kd : IntKind} {a b : Int} (hx : evalT T x = .int kd a) (hy : evalT T y = .int kd b) (k : OpsJ P E ops R rest (putT T dst (.int kd (if b > a then b else a))) H g) :
    OpsJ P E ops R (⟨dst, .call { callee := .builtin .max, args := #[x, y], argTypes := at_ }, ty, ps, af, none⟩ :: rest) T H g := OpsJ.step (runs_max2 hx hy) rfl k
theorem st_alloc {e : TypeId} {d : TypeDesc} {n : Nat} {z : Value} {b : Nat} [ht : TyC P e d n z b] (k : OpsJ P E ops R rest (putT T dst (.pointer (some ⟨H.length, 0, none⟩))) (H ++ [.row ((cellsL z).map constT) 1 true]) g) :
    OpsJ P E ops R (⟨dst, .alloc e, ty, ps, af, none⟩ :: rest) T H g := OpsJ.step (runs_alloc ht.ty rfl) rfl k
theorem st_box {e : TypeId} {x : Operand} {v : Value} (hx : evalT T x = v) (hok : (cellsL v).all cellOk = true) (k : OpsJ P E ops R rest (putT T dst (.pointer (some ⟨H.length, 0, none⟩))) (H ++ [.row (cellsL v) 1 true]) g) :
    OpsJ P E ops R (⟨dst, .box e x, ty, ps, af, none⟩ :: rest) T H g := OpsJ.step (runs_box hx rfl hok) rfl k
theorem st_fieldAddr {s : TypeId} {x : Operand} {f i o off : Nat} [h : FaC P s f off] (hx : evalT T x = .pointer (some ⟨i, o, none⟩)) (k : OpsJ P E ops R rest (putT T dst (.pointer (some ⟨i, o + off, none⟩))) H g) :
    OpsJ P E ops R (⟨dst, .fieldAddr s x f, ty, ps, af, none⟩ :: rest) T H g := by
  obtain ⟨fields, n, z, b, fd, d', n', z', b', h1, h2, h3, h4, rfl⟩ := h.fa
  exact OpsJ.step (runs_fieldAddr h1 h2 h3 h4 hx) rfl k
theorem st_indexS {t : TypeId} {x ix : Operand} {i o len cap : Nat} {kd : IntKind} {j : Int} {e : TypeId} {n : Nat} {z : Value} {b : Nat} {d' : TypeDesc} {n' : Nat} {z' : Value} {b' : Nat} [ht : TyC P t (.slice e) n z b] [he : TyC P e d' n' z' b']
    (hx : evalT T x = .slice (some ⟨i, o, none⟩) len cap) (hix : evalT T ix = .int kd j) (h0 : 0 ≤ j ∧ j < len) (k : OpsJ P E ops R rest (putT T dst (.pointer (some ⟨i, o + j.toNat * n', none⟩))) H g) :
    OpsJ P E ops R (⟨dst, .indexAddr t x ix, ty, ps, af, none⟩ :: rest) T H g := OpsJ.step (runs_indexAddrS ht.ty he.ty hx hix h0.1 h0.2) rfl k
theorem st_indexA {t : TypeId} {x ix : Operand} {i o len : Nat} {kd : IntKind} {j : Int} {e : TypeId} {n : Nat} {z : Value} {b : Nat} {d' : TypeDesc} {n' : Nat} {z' : Value} {b' : Nat} [ht : TyC P t (.array len e) n z b] [he : TyC P e d' n' z' b']
    (hx : evalT T x = .pointer (some ⟨i, o, none⟩)) (hix : evalT T ix = .int kd j) (h0 : 0 ≤ j ∧ j < len) (k : OpsJ P E ops R rest (putT T dst (.pointer (some ⟨i, o + j.toNat * n', none⟩))) H g) :
    OpsJ P E ops R (⟨dst, .indexAddr t x ix, ty, ps, af, none⟩ :: rest) T H g := OpsJ.step (runs_indexAddrA ht.ty he.ty hx hix h0.1 h0.2) rfl k
theorem st_load1 {t : TypeId} {x : Operand} {i o : Nat} {d : TypeDesc} {n : Nat} {z : Value} {b : Nat} {cells : List Value} {es : Nat} {own : Bool} {v : Value} [ht : TyC P t d n z b] (hd : aggD d = false) (hx : evalT T x = .pointer (some ⟨i, o, none⟩))
    (hi : H[i]? = some (.row cells es own)) (hc : cells[o]? = some v) (k : OpsJ P E ops R rest (putT T dst v) H g) : OpsJ P E ops R (⟨dst, .load t x, ty, ps, af, none⟩ :: rest) T H g := OpsJ.step (runs_load1 ht.ty hd hx hi hc) rfl k
theorem st_loadN {t : TypeId} {x : Operand} {i o : Nat} {d : TypeDesc} {n : Nat} {z : Value} {b : Nat} {cells cs : List Value} {es : Nat} {own : Bool} [ht : TyC P t d n z b] (hd : aggD d = true) (hx : evalT T x = .pointer (some ⟨i, o, none⟩))
    (hi : H[i]? = some (.row cells es own)) (hn : o + n ≤ cells.length) (hcs : (cells.drop o).take n = cs) (k : OpsJ P E ops R rest (putT T dst (.agg ⟨cs⟩)) H g) : OpsJ P E ops R (⟨dst, .load t x, ty, ps, af, none⟩ :: rest) T H g := OpsJ.step (runs_loadN ht.ty hd hx hi hn hcs) rfl k
theorem st_store {t : TypeId} {x y : Operand} {i o : Nat} {d : TypeDesc} {n : Nat} {z : Value} {b : Nat} {cells : List Value} {es : Nat} {v : Value} [ht : TyC P t d n z b] (hx : evalT T x = .pointer (some ⟨i, o, none⟩)) (hy : evalT T y = v)
    (hok : (cellsL v).all cellOk = true) (hn : (cellsL v).length = n) (hi : H[i]? = some (.row cells es true)) (ho : o + n ≤ cells.length) (k : OpsJ P E ops R rest (putT T dst undef) (H.set i (.row (splice cells o (cellsL v)) es true)) g) :
    OpsJ P E ops R (⟨dst, .store t x y, ty, ps, af, none⟩ :: rest) T H g := OpsJ.step (runs_store ht.ty hx hy rfl hok hn hi ho rfl) rfl k
theorem st_field {t : TypeId} {x : Operand} {f off size : Nat} {agg : Bool} {cs : List Value} {v : Value} [h : FdC P t f off agg size] (hx : evalT T x = .agg ⟨cs⟩)
    (hv : (if agg then some (Value.agg ⟨(cs.drop off).take size⟩) else cs[off]?) = some v) (k : OpsJ P E ops R rest (putT T dst v) H g) : OpsJ P E ops R (⟨dst, .field t x f, ty, ps, af, none⟩ :: rest) T H g := by
  obtain ⟨fields, n, z, b, fd, d', z', b', h1, h2, h3, rfl, rfl⟩ := h.fd
  exact OpsJ.step (runs_field h1 h2 h3 hx hv) rfl k
theorem st_idxA {t : TypeId} {x ix : Operand} {len : Nat} {kd : IntKind} {j : Int} {e : TypeId} {n : Nat} {z : Value} {b : Nat} {d' : TypeDesc} {n' : Nat} {z' : Value} {b' : Nat} {cs : List Value} {v : Value} [ht : TyC P t (.array len e) n z b] [he : TyC P e d' n' z' b']
    (hx : evalT T x = .agg ⟨cs⟩) (hix : evalT T ix = .int kd j) (h0 : 0 ≤ j ∧ j < len) (hv : (if aggD d' then some (Value.agg ⟨(cs.drop (j.toNat * n')).take n'⟩) else cs[j.toNat * n']?) = some v) (k : OpsJ P E ops R rest (putT T dst v) H g) :
    OpsJ P E ops R (⟨dst, .index t x ix, ty, ps, af, none⟩ :: rest) T H g := OpsJ.step (runs_indexA ht.ty he.ty hx hix h0.1 h0.2 hv) rfl k
theorem st_len {x : Operand} {t e : TypeId} {n : Nat} {z : Value} {b : Nat} {a : Option Addr} {len cap : Nat} [ht : TyC P t (.slice e) n z b] (hx : evalT T x = .slice a len cap) (k : OpsJ P E ops R rest (putT T dst (.int .i64 len)) H g) :
    OpsJ P E ops R (⟨dst, .call { callee := .builtin .len, args := #[x], argTypes := #[t] }, ty, ps, af, none⟩ :: rest) T H g := OpsJ.step (runs_lenS ht.ty hx) rfl k
theorem st_makeFunc {f : FuncId} {first captured : Array Operand} (k : OpsJ P E ops R rest (putT T dst (.func (.func f) ⟨evalL T first.toList⟩ ⟨evalL T captured.toList⟩)) H g) :
    OpsJ P E ops R (⟨dst, .makeFunc (.func f) first captured, ty, ps, af, none⟩ :: rest) T H g := OpsJ.step (runs_makeFunc rfl rfl) rfl k
theorem st_sliceTo {t : TypeId} {x hi : Operand} {e : TypeId} {n : Nat} {z : Value} {b : Nat} {d' : TypeDesc} {n' : Nat} {z' : Value} {b' : Nat} {i o len cap : Nat} {kd : IntKind} {j : Int} [ht : TyC P t (.slice e) n z b] [he : TyC P e d' n' z' b']
    (hx : evalT T x = .slice (some ⟨i, o, none⟩) len cap) (hh : evalT T hi = .int kd j) (h0 : 0 ≤ j ∧ j ≤ len) (k : OpsJ P E ops R rest (putT T dst (.slice (some ⟨i, o, none⟩) j.toNat j.toNat)) H g) :
    OpsJ P E ops R (⟨dst, .slice t x none (some hi) none, ty, ps, af, none⟩ :: rest) T H g := OpsJ.step (runs_sliceTo ht.ty he.ty hx hh h0.1 h0.2) rfl k
theorem st_buildS {t : TypeId} {parts : Array (Nat × Operand)} {places : List (Nat × Nat)} {z : Value} {cs : List Value} [h : PlC P t places z] (hcs : fillA (places[·]?) ((cellsL z).map constT) (partsT T parts) = some cs) (k : OpsJ P E ops R rest (putT T dst (.agg ⟨cs⟩)) H g) :
    OpsJ P E ops R (⟨dst, .build t parts, ty, ps, af, none⟩ :: rest) T H g := by
  obtain ⟨fields, n, b, h1, h2⟩ := h.pl
  exact OpsJ.step (runs_buildS h1 h2 (by simpa using hcs)) rfl k
theorem st_buildA {t : TypeId} {parts : Array (Nat × Operand)} {len : Nat} {e : TypeId} {n : Nat} {z : Value} {b : Nat} {d' : TypeDesc} {n' : Nat} {z' : Value} {b' : Nat} {cs : List Value} [ht : TyC P t (.array len e) n z b] [he : TyC P e d' n' z' b']
    (hcs : fillA (fun i => some (i * n', n')) ((cellsL z).map constT) (partsT T parts) = some cs) (k : OpsJ P E ops R rest (putT T dst (.agg ⟨cs⟩)) H g) : OpsJ P E ops R (⟨dst, .build t parts, ty, ps, af, none⟩ :: rest) T H g :=
  OpsJ.step (runs_buildA ht.ty he.ty hcs) rfl k
theorem st_buildSlice {t : TypeId} {len : Nat} {parts : Array (Nat × Operand)} {e : TypeId} {n : Nat} {z : Value} {b : Nat} {d' : TypeDesc} {n' : Nat} {z' : Value} {b' : Nat} {cs : List Value} [ht : TyC P t (.slice e) n z b] [he : TyC P e d' n' z' b']
    (hlen : len * n' ≤ 2 ^ 24) (hcs : fillA (fun i => some (i * n', n')) (List.replicate (len * n') wild) (partsT T parts) = some cs) (k : OpsJ P E ops R rest (putT T dst (.slice (some ⟨H.length, 0, none⟩) len len)) (H ++ [.row cs n' true]) g) :
    OpsJ P E ops R (⟨dst, .buildSlice t len parts, ty, ps, af, none⟩ :: rest) T H g := OpsJ.step (runs_buildSlice ht.ty he.ty hlen hcs) rfl k
theorem st_call {f : FuncId} {xs : Array Operand} {at_ : Array TypeId} {args : List Value} {K : Value → AHeap → γ → Prop} [he : EntC P f] (ha : evalL T xs.toList = args) (h : CallJ P E f args K H g)
    (k : ∀ v H' g', K v H' g' → OpsJ P E ops R rest (putT T dst v) H' g') : OpsJ P E ops R (⟨dst, .call { callee := .value (.func f), args := xs, argTypes := at_ }, ty, ps, af, none⟩ :: rest) T H g :=
  OpsJ.stepJ (OpJ.call he.ent ha h) k
end
end Go.Abs
namespace Go.Abs
open Go
def flat1 : Value → Bool
  | .bool _ | .int _ _ | .string _ | .pointer none | .slice none 0 0 | .slice none 0 1 | .map none | .nilFunc | .nilIface => true
  | _ => false
theorem flat1_rel {ρ ρ2 : Ren} {v v' : Value} (h : flat1 v = true) (hv : VRel ρ v v') : VRel ρ2 v v' := by
  cases hv with
  | wild => exact .wild _
  | bool b => exact .bool b
  | int k n => exact .int k n
  | string s => exact .string s
  | nilPtr => exact .nilPtr
  | nilSlice => exact .nilSlice
  | empty a c => exact .empty a c
  | nilMap => exact .nilMap
  | nilFunc => exact .nilFunc
  | nilIface => exact .nilIface
  | ptr _ => simp [flat1] at h
  | slice _ _ _ => simp [flat1] at h
  | map _ => simp [flat1] at h
  | func _ _ _ _ => simp [flat1] at h
  | yield _ => simp [flat1] at h
  | iface _ => simp [flat1] at h
  | agg _ _ => simp [flat1] at h
  | tuple _ _ => simp [flat1] at h
def Low (n : Nat) (v : Value) : Prop := ∀ (ρ ρ2 : Ren) (v' : Value), (∀ i, i < n → ρ2 i = ρ i) → VRel ρ v v' → VRel ρ2 v v'
theorem Low.flat {n : Nat} {v : Value} (h : flat1 v = true) : Low n v := fun _ _ _ _ hv => flat1_rel h hv
theorem Low.slice {n i o l c : Nat} (h : i < n) : Low n (.slice (some ⟨i, o, none⟩) l c) := fun ρ ρ2 v' h2 hv => by
  cases hv with
  | slice h1 h3 h4 => exact .slice ((h2 i h).trans h1) h3 h4
theorem Low.agg {n : Nat} {a : List Value} (h : ∀ v ∈ a, Low n v) : Low n (.agg ⟨a⟩) := fun ρ ρ2 v' h2 hv => by
  cases hv with
  | agg hs hh => exact .agg hs fun j p q => h _ (List.getElem_mem (by simpa using p)) ρ ρ2 _ h2 (hh j p q)
inductive Mv (n : Nat) (ks : List Nat) : Value → Value → Prop
  | flat {v : Value} (h : flat1 v = true) : Mv n ks v v
  | low {v : Value} (h : Low n v) : Mv n ks v v
  | slice {i j o l c : Nat} (h : ks[j]? = some i) : Mv n ks (.slice (some ⟨i, o, none⟩) l c) (.slice (some ⟨n + j, o, none⟩) l c)
  | ptr {i j o : Nat} (h : ks[j]? = some i) : Mv n ks (.pointer (some ⟨i, o, none⟩)) (.pointer (some ⟨n + j, o, none⟩))
  | map {i j : Nat} (h : ks[j]? = some i) : Mv n ks (.map (some i)) (.map (some (n + j)))
  | agg {a : List Value} (h : a.all flat1 = true) : Mv n ks (.agg ⟨a⟩) (.agg ⟨a⟩)
  | tuple1 {u v : Value} (h : Mv n ks u v) : Mv n ks (.tuple #[u]) (.tuple #[v])
  | tuple0 : Mv n ks (.tuple #[]) (.tuple #[])
  | tuple2 {u v u' v' : Value} (h : Mv n ks u v) (h' : Mv n ks u' v') : Mv n ks (.tuple #[u, u']) (.tuple #[v, v'])
  | tuple3 {u v u' v' u2 v2 : Value} (h : Mv n ks u v) (h' : Mv n ks u' v') (h2 : Mv n ks u2 v2) : Mv n ks (.tuple #[u, u', u2]) (.tuple #[v, v', v2])
  | aggs {a b : List Value} (hl : a.length = b.length) (h : ∀ (j : Nat) (h1 : j < a.length) (h2 : j < b.length), Mv n ks a[j] b[j]) : Mv n ks (.agg ⟨a⟩) (.agg ⟨b⟩)
def idxA (n : Nat) (ks : List Nat) (i : Nat) : Option Nat := if i < n then some i else ks[i - n]?
theorem idxA_lt {n : Nat} {ks : List Nat} {i : Nat} (h : i < n) : idxA n ks i = some i := if_pos h
theorem idxA_ge {n : Nat} {ks : List Nat} {j : Nat} : idxA n ks (n + j) = ks[j]? := by unfold idxA; rw [if_neg (by omega)]; congr 1; omega
theorem Mv.rel {n : Nat} {ks : List Nat} {ρ : Ren} {v v0 : Value} (h : Mv n ks v v0) : ∀ {v' : Value}, VRel ρ v v' → VRel (fun i => (idxA n ks i).bind ρ) v0 v' := by
  induction h with
  | flat h => intro v' hv; exact flat1_rel h hv
  | low h => intro v' hv; exact h _ _ _ (fun i hi => by simp only [idxA_lt hi, Option.bind_some]) hv
  | slice h =>
    intro v' hv
    cases hv with
    | slice h1 h2 h3 => exact .slice (by simp only [idxA_ge, h, Option.bind_some]; exact h1) h2 h3
  | ptr h =>
    intro v' hv
    cases hv with
    | ptr h1 => exact .ptr (by simp only [idxA_ge, h, Option.bind_some]; exact h1)
  | map h =>
    intro v' hv
    cases hv with
    | map h1 => exact .map (by simp only [idxA_ge, h, Option.bind_some]; exact h1)
  | agg h =>
    intro v' hv
    cases hv with
    | agg hs hh =>
      refine .agg hs fun j h1 h2 => flat1_rel ?_ (hh j h1 h2)
      exact List.all_eq_true.1 h _ (List.getElem_mem (by simpa using h1))
  | tuple0 => intro v' hv; cases hv with | tuple hs hh => exact .tuple hs fun j h1 h2 => absurd h1 (by simp)
  | tuple1 h ih =>
    intro v' hv
    cases hv with
    | tuple hs hh =>
      refine .tuple hs fun j h1 h2 => ?_
      match j, h1 with
      | 0, _ => exact ih (hh 0 (by simp) h2)
  | tuple2 h h' ih ih' =>
    intro v' hv
    cases hv with
    | tuple hs hh =>
      refine .tuple hs fun j h1 h2 => ?_
      match j, h1 with
      | 0, _ => exact ih (hh 0 (by simp) h2)
      | 1, _ => exact ih' (hh 1 (by simp) h2)
  | tuple3 h h' h2' ih ih' ih2 =>
    intro v' hv
    cases hv with
    | tuple hs hh =>
      refine .tuple hs fun j h1 h2 => ?_
      match j, h1 with
      | 0, _ => exact ih (hh 0 (by simp) h2)
      | 1, _ => exact ih' (hh 1 (by simp) h2)
      | 2, _ => exact ih2 (hh 2 (by simp) h2)
  | aggs hl h ih =>
    intro v' hv
    cases hv with
    | agg hs hh =>
      refine .agg (by simpa [← hl] using hs) fun j h1 h2 => ih j (by simpa [hl] using h1) (by simpa using h1) (hh j (by simpa [hl] using h1) h2)
def flat2 : Value → Bool
  | .agg a => a.toList.all flat1
  | v => flat1 v
theorem flat2_rel {ρ ρ2 : Ren} {v v' : Value} (h : flat2 v = true) (hv : VRel ρ v v') : VRel ρ2 v v' := by
  cases hv with
  | agg hs hh => exact .agg hs fun j h1 h2 => flat1_rel (List.all_eq_true.1 h _ (by simp)) (hh j h1 h2)
  | wild => exact .wild _
  | bool b => exact .bool b
  | int k n => exact .int k n
  | string s => exact .string s
  | nilPtr => exact .nilPtr
  | nilSlice => exact .nilSlice
  | empty a c => exact .empty a c
  | nilMap => exact .nilMap
  | nilFunc => exact .nilFunc
  | nilIface => exact .nilIface
  | ptr _ => simp [flat2, flat1] at h
  | slice _ _ _ => simp [flat2, flat1] at h
  | map _ => simp [flat2, flat1] at h
  | func _ _ _ _ => simp [flat2, flat1] at h
  | yield _ => simp [flat2, flat1] at h
  | iface _ => simp [flat2, flat1] at h
  | tuple _ _ => simp [flat2, flat1] at h
def flatRow : AObj → Bool
  | .map es _ => es.all fun e => flat2 e.key && flat2 e.val
  | .row cells _ _ => cells.all flat1
  | .dead => true
  | _ => false
theorem flatRow_rel {ρ ρ2 : Ren} {o : AObj} {m : Img} {b : Option Obj} (h : flatRow o = true) (hr : ORel ρ o m b) : ORel ρ2 o m b := by
  cases o with
  | row cells es own =>
    obtain ⟨h1, h2, c, e, fr, hb, h3, h4, h5, h6⟩ := hr
    simp only [flatRow] at h
    exact ⟨h1, h2, c, e, fr, hb, h3, h4, h5, fun j k1 k2 => flat1_rel (List.all_eq_true.1 h _ (List.getElem_mem k1)) (h6 j k1 k2)⟩
  | map es ck =>
    obtain ⟨h1, es', h2, h3, h4⟩ := hr
    simp only [flatRow] at h
    refine ⟨h1, es', h2, h3, fun j k1 k2 => ?_⟩
    have := List.all_eq_true.1 h _ (List.getElem_mem k1)
    simp only [Bool.and_eq_true] at this
    exact ⟨flat2_rel this.1 (h4 j k1 k2).1, flat2_rel this.2 (h4 j k1 k2).2.1, (h4 j k1 k2).2.2⟩
  | iter _ _ _ => simp [flatRow] at h
  | tok _ => simp [flatRow] at h
  | dead => trivial
theorem ORel.restrict {ρ ρ2 : Ren} (hle : ρ.le ρ2) {o : AObj} {m m' : Img} {b b' : Option Obj} (h : ORel ρ o m b) (h2 : ORel ρ2 o m' b') : ORel ρ o m' b' := by
  cases o with
  | row cells es own =>
    obtain ⟨_, _, c0, _, _, _, _, _, d6, d7⟩ := h
    obtain ⟨b1, b2, c, e, fr, b3, b4, b5, b6, b7⟩ := h2
    refine ⟨b1, b2, c, e, fr, b3, b4, b5, b6, fun j h1' h2' => (d7 j h1' (by omega)).restrict hle (b7 j h1' h2')⟩
  | map es ck =>
    obtain ⟨_, es0, _, d3, d4⟩ := h
    obtain ⟨b1, es', b2, b3, b4⟩ := h2
    refine ⟨b1, es', b2, b3, fun j h1' h2' => ?_⟩
    have q := d4 j h1' (by omega)
    have r := b4 j h1' h2'
    exact ⟨q.1.restrict hle r.1, q.2.1.restrict hle r.2.1, r.2.2⟩
  | iter mp ck sn =>
    obtain ⟨_, mm, h3, _⟩ := h
    obtain ⟨b1, mm', b2, b3⟩ := h2
    have : mm = mm' := by have := hle _ _ h3; rw [b2] at this; exact (Option.some.inj this).symm
    subst this
    exact ⟨b1, mm, h3, b3⟩
  | tok _ => exact ⟨h2.1, h.2⟩
  | dead => trivial
def Tidy {γ : Type} (H : AHeap) (K : Value → AHeap → γ → Prop) : Value → AHeap → γ → Prop := fun v H' g' =>
  ∃ (ks : List Nat) (H0 L : AHeap) (v0 : Value) (os : List AObj), H' = H0 ++ L ∧ H0.length = H.length ∧ (∀ (i : Nat) (o : AObj), H0[i]? = some o → H[i]? = some o ∨ flatRow o = true) ∧ ks.Nodup ∧ (∀ k ∈ ks, H.length ≤ k) ∧
    ks.map (fun k => H'[k]?) = os.map some ∧ os.all flatRow = true ∧ Mv H.length ks v v0 ∧ K v0 (H0 ++ os) g'
section
variable {γ : Type} {P : Program} {E : Env γ} {H : AHeap} {g : γ} {K : Value → AHeap → γ → Prop}
theorem RetPost.tidy {ρ : Ren} {S : Nat → Prop} {w : World} {e : Ending} {w' : World} (hs0 : SRel ρ H w) (h : RetPost E (Tidy H K) ρ H S w e w') : RetPost E K ρ H S w e w' := by
  obtain ⟨ρ', v, v', H', g', S', h1, h2, hi, tr, ks, H0, L, v0, os, rfl, hl, hH, hn, hk, hos, hfl, hmv, hK⟩ := h
  have hosl : os.length = ks.length := by simpa using (congrArg List.length hos).symm
  have key : ∀ i k, idxA H.length ks i = some k → i < H.length + ks.length ∧ (H0 ++ os)[i]? = (H0 ++ L)[k]? ∧ (i < H.length ∧ k = i ∨ H.length ≤ i ∧ H.length ≤ k ∧ ks[i - H.length]? = some k) := by
    intro i k hik
    unfold idxA at hik
    split at hik
    · rename_i c
      simp only [Option.some.injEq] at hik
      subst hik
      exact ⟨by omega, by rw [List.getElem?_append_left (by omega), List.getElem?_append_left (by omega)], .inl ⟨c, rfl⟩⟩
    · rename_i c
      have hlt : i - H.length < ks.length := (List.getElem?_eq_some_iff.1 hik).1
      have hkm : k ∈ ks := List.mem_of_getElem? hik
      refine ⟨by omega, ?_, .inr ⟨by omega, hk k hkm, hik⟩⟩
      rw [List.getElem?_append_right (by omega), hl]
      have h3 : (ks.map (fun k => (H0 ++ L)[k]?))[i - H.length]? = (os.map some)[i - H.length]? := by rw [hos]
      rw [List.getElem?_map, List.getElem?_map, hik] at h3
      have hlt2 : i - H.length < os.length := by omega
      rw [List.getElem?_eq_getElem hlt2] at h3 ⊢
      simp only [Option.map_some, Option.some.injEq] at h3
      exact h3.symm
  let ρ2 : Ren := fun i => (idxA H.length ks i).bind ρ'
  have sp : ∀ i m, ρ2 i = some m → ∃ k, idxA H.length ks i = some k ∧ ρ' k = some m := by
    intro i m hm
    simp only [ρ2] at hm
    cases hik : idxA H.length ks i with
    | none => rw [hik] at hm; simp at hm
    | some k => rw [hik] at hm; exact ⟨k, rfl, by simpa using hm⟩
  have low : ∀ i, i < H.length → ρ2 i = ρ i := fun i h => by simp only [ρ2, idxA_lt h, Option.bind_some]; exact tr.ext i h
  have le2 : ρ.le ρ2 := fun i m hm => (low i (hs0.dom i m hm).1).trans hm
  have le' : ρ.le ρ' := fun i m hm => (tr.ext i (hs0.dom i m hm).1).trans hm
  have live : ∀ b, LiveOwn ρ2 (H0 ++ os) b → LiveOwn ρ' (H0 ++ L) b := by
    rintro b ⟨i, m, o, e1, e2, e3, e4, e5⟩
    obtain ⟨k, k1, k2⟩ := sp i m e1
    obtain ⟨_, k3, _⟩ := key i k k1
    exact ⟨k, m, o, k2, k3 ▸ e2, e3, e4, e5⟩
  have hs2 : SRel ρ2 (H0 ++ os) w' := by
    refine ⟨fun i m hm => ?_, fun i m o hm ho => ?_, fun i j m m' o o' hm hm' ho ho' hd hd' hown hb => ?_⟩
    · obtain ⟨k, k1, k2⟩ := sp i m hm
      exact ⟨by simp only [List.length_append, hl, hosl]; exact (key i k k1).1, (hi.srel.dom k m k2).2⟩
    · obtain ⟨k, k1, k2⟩ := sp i m hm
      obtain ⟨_, k3, k4⟩ := key i k k1
      have hor := hi.srel.obj k m o k2 (k3 ▸ ho)
      rcases k4 with ⟨c, rfl⟩ | ⟨c, _, _⟩
      · have ho' : H0[k]? = some o := by rw [List.getElem?_append_left (by omega)] at ho; exact ho
        rcases hH k o ho' with h4 | h4
        · have hm0 : ρ k = some m := (low k c) ▸ hm
          exact ((hs0.obj k m o hm0 h4).restrict le' hor).mono le2
        · exact flatRow_rel h4 hor
      · have ho' : os[i - H0.length]? = some o := by rw [List.getElem?_append_right (by omega)] at ho; exact ho
        exact flatRow_rel (List.all_eq_true.1 hfl o (List.mem_of_getElem? ho')) hor
    · obtain ⟨k, k1, k2⟩ := sp i m hm
      obtain ⟨k', k1', k2'⟩ := sp j m' hm'
      obtain ⟨_, k3, k4⟩ := key i k k1
      obtain ⟨_, k3', k4'⟩ := key j k' k1'
      have hkk := hi.srel.inj k k' m m' o o' k2 k2' (k3 ▸ ho) (k3' ▸ ho') hd hd' hown hb
      subst hkk
      rcases k4 with ⟨c, rfl⟩ | ⟨c, c2, c3⟩ <;> rcases k4' with ⟨d, d2⟩ | ⟨d, d2, d3⟩
      · exact d2
      · omega
      · omega
      · obtain ⟨q1, q2⟩ := List.getElem?_eq_some_iff.1 c3
        obtain ⟨r1, r2⟩ := List.getElem?_eq_some_iff.1 d3
        have := List.pairwise_iff_getElem.1 hn
        rcases Nat.lt_trichotomy (i - H.length) (j - H.length) with q | q | q
        · exact absurd (q2.trans r2.symm) (this _ _ q1 r1 q)
        · omega
        · exact absurd (r2.trans q2.symm) (this _ _ r1 q1 q)
  refine ⟨ρ2, v0, v', H0 ++ os, g', S', h1, hmv.rel h2, ⟨hs2, hi.j, hi.bnd, fun b hb hL => hi.disj b hb (live b hL)⟩, ⟨by simp [hl], low, tr.os, tr.tape, tr.out, tr.size, tr.keep, fun b hb => tr.fresh b (live b hb), tr.grow⟩, hK⟩
theorem CallJ.tidy {f : FuncId} {args : List Value} (h : CallJ P E f args (Tidy H K) H g) : CallJ P E f args K H g :=
  fun ρ w S args' hi ha => (h ρ w S args' hi ha).mono fun _ _ hp => hp.tidy hi.srel
theorem Tidy.none {v : Value} {L : AHeap} {g' : γ} (hv : Mv H.length [] v v) (hk : K v H g') : Tidy H K v (H ++ L) g' :=
  ⟨[], H, L, v, [], rfl, rfl, fun _ _ h => .inl h, List.nodup_nil, fun _ h => (List.not_mem_nil h).elim, rfl, rfl, hv, by simpa using hk⟩
theorem Tidy.none' {v : Value} {g' : γ} (hv : Mv H.length [] v v) (hk : K v H g') : Tidy H K v H g' := by
  have := Tidy.none (L := []) hv hk
  simpa using this
theorem Tidy.one {v v0 : Value} {L : AHeap} {g' : γ} (j : Nat) {cells : List Value} {es : Nat} (hj : L[j]? = some (.row cells es true)) (hc : cells.all flat1 = true) (hv : Mv H.length [H.length + j] v v0) (hk : K v0 (H ++ [.row cells es true]) g') :
    Tidy H K v (H ++ L) g' :=
  ⟨[H.length + j], H, L, v0, [.row cells es true], rfl, rfl, fun _ _ h => .inl h, by simp, fun k h => by simp at h; omega, by simp [List.getElem?_append_right, hj], by simp [flatRow]; simpa using hc, hv, hk⟩
end
section
variable {γ : Type} {P : Program} {E : Env γ} {T T' : List Value} {H H' : AHeap} {g : γ} {R : List Value → AHeap → γ → Prop} {ops : Array Oper} {dst : Option Tmp} {ty : TypeId} {ps : String} {af : Array Edge} {rest : List Oper}
theorem is_step {o : Oper} (h : OpsJ P E ops R (o :: rest) T H g) : OpsJ P E ops R (o :: rest) T H g := h
theorem is_code {c : Code} {Q : Exit → List Value → AHeap → γ → Prop} (h : WPJ P E c Q T H g) : WPJ P E c Q T H g := h
theorem st_quo0 {xt yt : TypeId} {x y : Operand} {a b : Int} (hx : evalT T x = .int .i64 a) (hy : evalT T y = .int .i64 b) (hb : 0 < b ∧ 0 ≤ a ∧ a ≤ 9223372036854775807) (k : OpsJ P E ops R rest (putT T dst (.int .i64 (a / b))) H g) :
    OpsJ P E ops R (⟨dst, .binOp .quo xt x y yt, ty, ps, af, none⟩ :: rest) T H g := by
  refine st_quo hx hy (by omega) ?_
  have e : a.tdiv b = a / b := Int.tdiv_eq_ediv_of_nonneg hb.2.1
  have h1 : 0 ≤ a / b := Int.ediv_nonneg hb.2.1 (by omega)
  have h2 : a / b ≤ a := Int.ediv_le_self _ hb.2.1
  rw [e, wrap64_eq ⟨by omega, by omega⟩]
  exact k
theorem st_rem0 {xt yt : TypeId} {x y : Operand} {a b : Int} (hx : evalT T x = .int .i64 a) (hy : evalT T y = .int .i64 b) (hb : 0 < b ∧ 0 ≤ a) (k : OpsJ P E ops R rest (putT T dst (.int .i64 (a % b))) H g) :
    OpsJ P E ops R (⟨dst, .binOp .rem xt x y yt, ty, ps, af, none⟩ :: rest) T H g := by
  refine st_rem hx hy (by omega) ?_
  rw [Int.tmod_eq_emod_of_nonneg hb.2]; exact k
end
end Go.Abs
