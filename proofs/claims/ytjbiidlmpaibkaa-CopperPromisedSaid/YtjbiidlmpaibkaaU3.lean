
import Derived.Test.YtjbiidlmpaibkaaU2
import Derived.Deep.Slices
import Derived.KernelRfl
import Derived.ProofKit
import Derived.Test.YtjbiidlmpaibkaaProg
namespace Go.Abs
open Go
def chgD (D : List (Value × AHeap)) (H : AHeap) (i : Nat) (o1 : AObj) : List (Value × AHeap) :=
  D.mapIdx fun j x => (x.1, if (HK D H j).length ≤ i then x.2.set (i - (HK D H j).length) o1 else x.2)
section
variable {γ : Type} {P : Program} {E : Env γ} {ops : Array Oper} {D : List (Value × AHeap)} {T : List Value} {H : AHeap} {m : Nat} {LV : Nat → Prop}
  {g : γ} {S : Nat → Prop} {ρ : Ren} {w0 : World} {ro : Option Nat} {Ds : List Nat} {ds : List Deferred} {listed : Array Bool} {a : Act} {w : World} {ρ' : Ren}
end
def looseB (ops : Array Oper) (b k : Nat) : Bool := !ancB ops ops.size b k && !ancB ops ops.size k b
def SpecM (P : Program) (i : Nat) (o1 : AObj) (o : Oper) (v : Value) (L : AHeap) (T : List Value) (H : AHeap) : Prop :=
  o.guard = none ∧ L.all ownRow = true ∧ OpJ P trivE o (fun v' H' _ => v' = v ∧ H' = H.set i o1 ++ L) T H ()
def SpecJ (P : Program) (ops : Array Oper) (b i : Nat) (o0 o1 : AObj) (R : List Value → AHeap → Prop) : Nat → Nat → List Oper → List Value → AHeap → Prop
  | 0, _, _, T, H => R T H
  | _ + 1, _, [], T, H => R T H
  | n + 1, k, o :: rest, T, H =>
    ∃ v L, (k ≠ b → StepM P ops o v L T H) ∧ (k = b → H[i]? = some o0 ∧ SpecM P i o1 o v L T H) ∧ (k ≠ b → looseB ops b k = true → ¬ (H.length ≤ i ∧ i < H.length + L.length) ∧ StepM P ops o v L T (if k < b then H.set i o1 else H.set i o0)) ∧
      SpecJ P ops b i o0 o1 R n (k + 1) rest (putT T o.dst v) (if k = b then H.set i o1 ++ L else H ++ L)
theorem SpecJ.spec {P : Program} {ops : Array Oper} {b i : Nat} {o0 o1 : AObj} {R : List Value → AHeap → Prop} {n : Nat} {dst : Option Tmp} {op : Op} {ty : TypeId} {ps : String} {af : Array Edge} {rest : List Oper} {T : List Value} {H : AHeap} (v : Value) (L : AHeap) (hi : H[i]? = some o0) (hd : isDefer op = false) (hL : L.all ownRow = true)
    (h1 : Runs P ⟨dst, op, ty, ps, af, none⟩ v (H.set i o1 ++ L) T H) (h : SpecJ P ops b i o0 o1 R n (b + 1) rest (putT T dst v) (H.set i o1 ++ L)) : SpecJ P ops b i o0 o1 R (n + 1) b (⟨dst, op, ty, ps, af, none⟩ :: rest) T H := by
  refine ⟨v, L, fun h => absurd rfl h, fun _ => ⟨hi, rfl, hL, OpJ.of_runs h1 (fun c e => by simp only at e; rw [e] at hd; cases hd) ⟨rfl, rfl⟩⟩, fun h => absurd rfl h, ?_⟩
  rw [if_pos rfl]
  exact h
theorem SpecJ.done {P : Program} {ops : Array Oper} {b i : Nat} {o0 o1 : AObj} {R : List Value → AHeap → Prop} {k : Nat} {l : List Oper} {T : List Value} {H : AHeap} (h : R T H) : SpecJ P ops b i o0 o1 R 0 k l T H := h
theorem SpecJ.data {P : Program} {ops : Array Oper} {b i : Nat} {o0 o1 : AObj} {R : List Value → AHeap → Prop} : ∀ (n k : Nat) (l : List Oper) (T : List Value) (H : AHeap), (∀ j, l[j]? = ops[k + j]?) → n ≤ l.length → SpecJ P ops b i o0 o1 R n k l T H →
    ∃ D : List (Value × AHeap), D.length = n ∧ ∀ (D0 : List (Value × AHeap)) (T0 : List Value) (Hx : AHeap), D0.length = k → TK ops (D0 ++ D) T0 k = T → (if k ≤ b then HK (D0 ++ D) Hx k else (HK (D0 ++ D) Hx k).set i o1) = H → (b < k → i < (HK (D0 ++ D) Hx k).length) →
      (∀ j o, k ≤ j → j < k + n → ops[j]? = some o →
        (j ≠ b → StepM P ops o (vD (D0 ++ D) j) (lD (D0 ++ D) j) (TK ops (D0 ++ D) T0 j) (if j ≤ b then HK (D0 ++ D) Hx j else (HK (D0 ++ D) Hx j).set i o1)) ∧
        (j = b → (HK (D0 ++ D) Hx j)[i]? = some o0 ∧ SpecM P i o1 o (vD (D0 ++ D) j) (lD (D0 ++ D) j) (TK ops (D0 ++ D) T0 j) (HK (D0 ++ D) Hx j)) ∧
        (j ≠ b → looseB ops b j = true → (j < b → ¬ ((HK (D0 ++ D) Hx j).length ≤ i ∧ i < (HK (D0 ++ D) Hx j).length + (lD (D0 ++ D) j).length)) ∧ StepM P ops o (vD (D0 ++ D) j) (lD (D0 ++ D) j) (TK ops (D0 ++ D) T0 j) (if j < b then (HK (D0 ++ D) Hx j).set i o1 else ((HK (D0 ++ D) Hx j).set i o1).set i o0))) ∧
      R (TK ops (D0 ++ D) T0 (k + n)) (if k + n ≤ b then HK (D0 ++ D) Hx (k + n) else (HK (D0 ++ D) Hx (k + n)).set i o1)
  | 0, k, l, T, H, _, _, h => ⟨[], rfl, fun D0 T0 Hx hD hT hH _ => ⟨fun j o h1 h2 => by omega, by
      have h2 : R T H := h
      simp only [Nat.add_zero]
      rw [hT, hH]; exact h2⟩⟩
  | n + 1, k, [], T, H, _, hn, h => by simp at hn
  | n + 1, k, o :: l, T, H, hl, hn, h => by
    obtain ⟨v, L, hs1, hs2, hs3, hrest⟩ := h
    have h0 : ops[k]? = some o := by simpa using (hl 0).symm
    obtain ⟨D, hDn, hD⟩ := SpecJ.data n (k + 1) l _ _ (fun j => by have := hl (j + 1); simpa [Nat.add_assoc, Nat.add_comm 1 j] using this) (by simpa using hn) hrest
    refine ⟨(v, L) :: D, by simp [hDn], fun D0 T0 Hx hk hT hH hil => ?_⟩
    have e : D0 ++ (v, L) :: D = (D0 ++ [(v, L)]) ++ D := by simp
    have hv : vD (D0 ++ (v, L) :: D) k = v := by simp [vD, ← hk]
    have hL : lD (D0 ++ (v, L) :: D) k = L := by simp [lD, ← hk]
    have hd : dstA ops k = o.dst := by simp [dstA, h0]
    have hT1 : TK ops (D0 ++ (v, L) :: D) T0 (k + 1) = putT T o.dst v := by rw [TK, hT, hv, hd]
    have hHk : HK (D0 ++ (v, L) :: D) Hx (k + 1) = HK (D0 ++ (v, L) :: D) Hx k ++ L := by rw [HK, hL]
    have hil1 : b < k + 1 → i < (HK (D0 ++ (v, L) :: D) Hx k).length := fun hb => by
      by_cases ek : k = b
      · have := (hs2 ek).1
        rw [← hH, if_pos (by omega)] at this
        exact (List.getElem?_eq_some_iff.1 this).1
      · exact hil (by omega)
    have hH1 : (if k + 1 ≤ b then HK (D0 ++ (v, L) :: D) Hx (k + 1) else (HK (D0 ++ (v, L) :: D) Hx (k + 1)).set i o1) = (if k = b then H.set i o1 ++ L else H ++ L) := by
      by_cases ek : k = b
      · rw [if_neg (by omega), if_pos ek, hHk, List.set_append_left _ _ (hil1 (by omega)), ← hH, if_pos (by omega)]
      · rw [if_neg ek]
        by_cases hkb : k + 1 ≤ b
        · rw [if_pos hkb, hHk, ← hH, if_pos (by omega)]
        · rw [if_neg hkb, hHk, List.set_append_left _ _ (hil1 (by omega)), ← hH, if_neg (by omega)]
    rw [e] at hT1 hH1
    obtain ⟨k1, k2⟩ := hD (D0 ++ [(v, L)]) T0 Hx (by simp [hk]) hT1 hH1 (fun hb => by
      rw [← e, hHk]; have := hil1 hb; simp; omega)
    refine ⟨fun j o' h1 h2 ho => ?_, ?_⟩
    · by_cases ej : j = k
      · subst ej
        rw [h0] at ho; cases ho
        refine ⟨fun hb => ?_, fun hb => ?_, fun hb hlo => ?_⟩
        · rw [hv, hL, hT, hH]; exact hs1 hb
        · obtain ⟨a1, a2⟩ := hs2 hb
          rw [← hH, if_pos (by omega)] at a1 a2
          rw [hv, hL, hT]; exact ⟨a1, a2⟩
        · have := hs3 hb hlo
          rw [hv, hL, hT]
          by_cases hjb : j < b
          · rw [if_pos hjb] at this ⊢
            rw [← hH, if_pos (by omega)] at this
            exact ⟨fun _ => this.1, this.2⟩
          · rw [if_neg hjb] at this ⊢
            rw [← hH, if_neg (by omega)] at this
            exact ⟨fun h => absurd h hjb, this.2⟩
      · rw [e]; exact k1 j o' (by omega) (by omega) ho
    · rw [e]; have := k2; rwa [show k + 1 + n = k + (n + 1) by omega] at this
section
variable {γ : Type} {P : Program} {E : Env γ} {ops : Array Oper} {D : List (Value × AHeap)} {T : List Value} {H : AHeap} {m : Nat} {LV : Nat → Prop}
  {g : γ} {S : Nat → Prop} {ρ : Ren} {w0 : World} {ro : Option Nat} {Ds : List Nat} {ds : List Deferred} {listed : Array Bool} {a : Act} {w : World} {ρ' : Ren}
theorem LiveOwn.sub {ρ : Ren} {H : AHeap} {i : Nat} {o0 o1 : AObj} {b : Nat} (hi : i < H.length → H[i]? = some o0 ∧ ownedO o0 = true) (h : LiveOwn ρ (H.set i o1) b) : LiveOwn ρ H b := by
  obtain ⟨j, x, o, e1, e2, e3, e4, e5⟩ := h
  by_cases ej : j = i
  · subst ej
    have hlt : j < H.length := by have := (List.getElem?_eq_some_iff.1 e2).1; simpa using this
    obtain ⟨q1, q2⟩ := hi hlt
    exact ⟨j, x, o0, e1, q1, by cases o0 <;> simp_all [ownedO, AObj.dead?], e4, e5⟩
  · rw [List.getElem?_set_ne (Ne.symm ej)] at e2
    exact ⟨j, x, o, e1, e2, e3, e4, e5⟩
end
section
variable {P : Program} {ops : Array Oper} {b i : Nat} {o0 o1 : AObj} {R : List Value → AHeap → Prop} {n k : Nat} {dst : Option Tmp} {ty : TypeId} {ps : String} {af : Array Edge} {rest : List Oper} {T T' : List Value} {H H' : AHeap}
theorem SpecJ.norm {l : List Oper} (hT : T = T') (hH : H = H') (h : SpecJ P ops b i o0 o1 R n k l T' H') : SpecJ P ops b i o0 o1 R n k l T H := by subst hT; subst hH; exact h
abbrev altH (H : AHeap) (k b i : Nat) (o0 o1 : AObj) : AHeap := if k < b then H.set i o1 else H.set i o0
end
end Go.Abs
namespace Go.Abs
open Go
theorem OpsJ.normA {γ : Type} {P : Program} {E : Env γ} {T T' : List Value} {H H' : AHeap} {g : γ} {R : List Value → AHeap → γ → Prop} {ops : Array Oper} {l : List Oper} (h : OpsJ P E ops R l T' H' g) (hT : T = T' := by first | exact NSr | rfl) (hH : H = H' := by first | exact NSr | rfl) : OpsJ P E ops R l T H g := OpsJ.norm hT hH h
theorem MonoJ.normA {P : Program} {T T' : List Value} {H H' : AHeap} {R : List Value → AHeap → Prop} {ops : Array Oper} {mm : Nat} {l : List Oper} (h : MonoJ P ops R mm l T' H') (hT : T = T' := by first | exact NSr | rfl) (hH : H = H' := by first | exact NSr | rfl) : MonoJ P ops R mm l T H := MonoJ.norm hT hH h
end Go.Abs
namespace Go.Abs
open Go
theorem SpecJ.normA {P : Program} {ops : Array Oper} {b i : Nat} {o0 o1 : AObj} {R : List Value → AHeap → Prop} {n k : Nat} {T T' : List Value} {H H' : AHeap} {l : List Oper} (h : SpecJ P ops b i o0 o1 R n k l T' H') (hT : T = T' := by first | exact NSr | rfl) (hH : H = H' := by first | exact NSr | rfl) : SpecJ P ops b i o0 o1 R n k l T H := SpecJ.norm hT hH h
end Go.Abs
namespace Go.Abs
open Go
def frz : AObj → AObj
  | .row c es _ => .row c es false
  | o => o
theorem VRel.froz {n : Nat} {ρa ρb : Ren} (h1 : ∀ i, i < n → ρb i = ρa i) (h2 : ∀ i m, n ≤ i → ρa i = some m → ρb i = some { m with own := false }) {v v' : Value} (h : VRel ρa v v') : VRel ρb v v' := by
  have key : ∀ {i m}, ρa i = some m → ∃ m2, ρb i = some m2 ∧ m2.blk = m.blk ∧ m2.es = m.es ∧ m2.cs = m.cs ∧ (m2.own = true → m.own = true) := fun {i m} hm => by
    by_cases hi : i < n
    · exact ⟨m, (h1 i hi).trans hm, rfl, rfl, rfl, id⟩
    · exact ⟨_, h2 i m (by omega) hm, rfl, rfl, rfl, fun e => Bool.noConfusion e⟩
  induction h with
  | wild v => exact .wild v
  | bool b => exact .bool b
  | int k n => exact .int k n
  | string s => exact .string s
  | nilPtr => exact .nilPtr
  | ptr h => obtain ⟨m2, e1, e2, _⟩ := key h; rw [← e2]; exact .ptr e1
  | nilSlice => exact .nilSlice
  | empty a c => exact .empty a c
  | slice h hl ho => obtain ⟨m2, e1, e2, e3, e4, e5⟩ := key h; rw [← e2]; exact .slice e1 hl (fun e => by rw [e3, e4]; exact ho (e5 e))
  | nilMap => exact .nilMap
  | map h => obtain ⟨m2, e1, e2, _⟩ := key h; rw [← e2]; exact .map e1
  | func hx _ hc _ ih1 ih2 => exact .func hx ih1 hc ih2
  | yield h => obtain ⟨m2, e1, e2, _⟩ := key h; rw [← e2]; exact .yield e1
  | nilFunc => exact .nilFunc
  | nilIface => exact .nilIface
  | iface _ ih => exact .iface ih
  | agg hs _ ih => exact .agg hs ih
  | tuple hs _ ih => exact .tuple hs ih
def FlatRows (L : AHeap) : Prop := ∀ o ∈ L, ∃ c es, o = .row c es true ∧ c.all flat1 = true
theorem CallJ.freezeN {γ : Type} {P : Program} {E : Env γ} {f : FuncId} {args : List Value} {K K' : Value → AHeap → γ → Prop} {H : AHeap} {g : γ} (h : CallJ P E f args K H g)
    (hK : ∀ v H' g', K v H' g' → ∃ L, H' = H ++ L ∧ FlatRows L ∧ K' v (H ++ L.map frz) g') : CallJ P E f args K' H g := by
  intro ρ w S args' hi ha
  refine (h ρ w S args' hi ha).mono ?_
  rintro e w' ⟨ρ', v, v', H', g', S', rfl, hv, hi2, tr, hk⟩
  obtain ⟨L, rfl, hL, hk'⟩ := hK _ _ _ hk
  have hlen : (H ++ L.map frz).length = (H ++ L).length := by simp
  let ρ2 : Ren := fun i => if i < H.length then ρ' i else (ρ' i).map fun m => { m with own := false }
  have low : ∀ i, i < H.length → ρ2 i = ρ' i := fun i h => if_pos h
  have high : ∀ i m, H.length ≤ i → ρ' i = some m → ρ2 i = some { m with own := false } := fun i m h hm => by
    show (if i < H.length then ρ' i else (ρ' i).map fun m => { m with own := false }) = _
    rw [if_neg (by omega), hm]; rfl
  have lowe : ∀ i, i < H.length → ρ2 i = ρ i := fun i h => (low i h).trans (tr.ext i h)
  have le1 : ρ.le ρ' := fun i m hm => (tr.ext i (hi.srel.dom i m hm).1).trans hm
  have le2 : ρ.le ρ2 := fun i m hm => (lowe i (hi.srel.dom i m hm).1).trans hm
  have inv : ∀ i m, ρ2 i = some m → (i < H.length ∧ ρ' i = some m ∧ ρ i = some m) ∨ (H.length ≤ i ∧ m.own = false ∧ ∃ m0, ρ' i = some m0 ∧ m = { m0 with own := false }) := by
    intro i m hm
    by_cases hn : i < H.length
    · exact .inl ⟨hn, by rw [← low i hn]; exact hm, by rw [← lowe i hn]; exact hm⟩
    · have hm2 : (ρ' i).map (fun m : Img => { m with own := false }) = some m := by
        have : ρ2 i = (ρ' i).map (fun m : Img => { m with own := false }) := if_neg hn
        rw [← this]; exact hm
      obtain ⟨m0, h0, rfl⟩ := Option.map_eq_some_iff.1 hm2
      exact .inr ⟨by omega, rfl, m0, h0, rfl⟩
  have getL : ∀ i, i < H.length → (H ++ L.map frz)[i]? = (H ++ L)[i]? := fun i h => by rw [List.getElem?_append_left h, List.getElem?_append_left h]
  have getR : ∀ i o, H.length ≤ i → (H ++ L.map frz)[i]? = some o → ∃ c es, (H ++ L)[i]? = some (.row c es true) ∧ o = .row c es false ∧ c.all flat1 = true := fun i o h ho => by
    rw [List.getElem?_append_right h, List.getElem?_map] at ho
    obtain ⟨o0, h0, rfl⟩ := Option.map_eq_some_iff.1 ho
    obtain ⟨c, es, rfl, hc⟩ := hL o0 (List.mem_of_getElem? h0)
    exact ⟨c, es, by rw [List.getElem?_append_right h]; exact h0, rfl, hc⟩
  have own2 : ∀ b, LiveOwn ρ2 (H ++ L.map frz) b → LiveOwn ρ' (H ++ L) b := by
    rintro b ⟨i, m, o, e1, e2, e3, e4, rfl⟩
    rcases inv i m e1 with ⟨hn, q1, _⟩ | ⟨_, q1, _⟩
    · exact ⟨i, m, o, q1, by rw [← getL i hn]; exact e2, e3, e4, rfl⟩
    · rw [q1] at e4; cases e4
  have hs3 : SRel ρ2 (H ++ L.map frz) w' := by
    refine ⟨fun i m hm => ?_, fun i m o hm ho => ?_, fun i j m m' o o' hm hm' ho ho' hd hd' hown hb => ?_⟩
    · rw [hlen]
      rcases inv i m hm with ⟨hn, q1, _⟩ | ⟨_, _, m0, q1, rfl⟩
      · exact hi2.srel.dom i m q1
      · exact hi2.srel.dom i m0 q1
    · rcases inv i m hm with ⟨hn, q1, q2⟩ | ⟨hn, _, m0, q1, rfl⟩
      · rw [getL i hn] at ho
        have ho' := ho
        rw [List.getElem?_append_left hn] at ho'
        exact (ORel.restrict le1 (hi.srel.obj i m o q2 ho') (hi2.srel.obj i m o q1 ho)).mono le2
      · obtain ⟨c, es, h1, rfl, hc⟩ := getR i o hn ho
        obtain ⟨b1, b2, c', e, fr, b3, b4, b5, b6, b7⟩ := hi2.srel.obj _ m0 _ q1 h1
        exact ⟨b1, rfl, c', e, fr, b3, b4, (fun e => Bool.noConfusion e), b6, fun j k1 k2 => flat1_rel (List.all_eq_true.1 hc _ (List.getElem_mem k1)) (b7 j k1 k2)⟩
    · rcases inv i m hm with ⟨hn, q1, _⟩ | ⟨_, q1, _⟩
      · rw [getL i hn] at ho
        rcases inv j m' hm' with ⟨hn', q1', _⟩ | ⟨hn', _, m0, q1', rfl⟩
        · rw [getL j hn'] at ho'
          exact hi2.srel.inj i j m m' o o' q1 q1' ho ho' hd hd' hown hb
        · obtain ⟨c, es, h1, rfl, hc⟩ := getR j o' hn' ho'
          exact hi2.srel.inj i j m m0 o _ q1 q1' ho h1 hd rfl hown hb
      · rw [q1] at hown; cases hown
  have hv2 : VRel ρ2 v v' := hv.froz low (fun i m h hm => high i m h hm)
  exact ⟨ρ2, v, v', H ++ L.map frz, g', S', rfl, hv2, ⟨hs3, hi2.j, hi2.bnd, fun b hb hl => hi2.disj b hb (own2 b hl)⟩, ⟨by simp, lowe, tr.os, tr.tape, tr.out, tr.size, tr.keep, fun b hb => tr.fresh b (own2 b hb), tr.grow⟩, hk'⟩
end Go.Abs
namespace Go.Abs
open Go
def AppG {α : Type} (enc : α → List Value) (w : Nat) (H : AHeap) (n : Nat) (v : Value) (l : List α) : Prop :=
  (v = .slice none 0 0 ∧ l = []) ∨ ∃ i, v = .slice (some ⟨i, 0, none⟩) l.length l.length ∧ H[i]? = some (.row (l.map enc).flatten w true) ∧ n ≤ i ∧ l ≠ []
theorem AppG.nil {α : Type} {enc : α → List Value} {w n : Nat} {H : AHeap} : AppG enc w H n (.slice none 0 0) [] := .inl ⟨rfl, rfl⟩
theorem AppG.keep {α : Type} {enc : α → List Value} {w n : Nat} {H H' : AHeap} {v : Value} {l : List α} (h : AppG enc w H n v l) (hk : ∀ i o, n ≤ i → H[i]? = some o → H'[i]? = some o) : AppG enc w H' n v l := by
  rcases h with h | ⟨i, h1, h2, h3, h4⟩
  · exact .inl h
  · exact .inr ⟨i, h1, hk i _ h3 h2, h3, h4⟩
theorem AppG.app {α : Type} {enc : α → List Value} {w n : Nat} {H : AHeap} {v : Value} {l : List α} (h : AppG enc w H n v l) (L : AHeap) : AppG enc w (H ++ L) n v l := h.keep fun _ _ _ h => get_old h
theorem AppG.set {α : Type} {enc : α → List Value} {w n : Nat} {H : AHeap} {v : Value} {l : List α} (h : AppG enc w H n v l) {i : Nat} {o : AObj} (hi : i < n) : AppG enc w (H.set i o) n v l := h.keep fun _ _ hn h => get_setne (by omega) h
theorem AppG.cell {α : Type} {enc : α → List Value} {w n : Nat} {H : AHeap} {v : Value} {l : List α} (h : AppG enc w H n v l) : cellOk v = true := by
  rcases h with ⟨rfl, _⟩ | ⟨i, rfl, _⟩ <;> rfl
theorem AppG.slice {α : Type} {enc : α → List Value} {w n : Nat} {H : AHeap} {v : Value} {l : List α} {a : α} (h : AppG enc w H n v (l ++ [a])) : ∃ i k, v = .slice (some ⟨i, 0, none⟩) k k := by
  rcases h with ⟨_, h⟩ | ⟨i, h, _⟩
  · simp at h
  · exact ⟨i, _, h⟩
theorem flatten_lenG {α : Type} {enc : α → List Value} {w : Nat} (hw : ∀ a, (enc a).length = w) : ∀ l : List α, (l.map enc).flatten.length = l.length * w
  | [] => by simp
  | a :: l => by
    have := flatten_lenG hw l
    rw [List.map_cons, List.flatten_cons, List.length_append, this, hw, List.length_cons, Nat.add_mul]; omega
theorem AppG.rd {α : Type} {enc : α → List Value} {w n : Nat} {H : AHeap} {v : Value} {l : List α} (h : AppG enc w H n v l) (hw : ∀ a, (enc a).length = w) : RdS H v w (l.map enc) := by
  refine ⟨fun x hx => by obtain ⟨a, _, rfl⟩ := List.mem_map.1 hx; exact hw a, ?_⟩
  rcases h with ⟨rfl, rfl⟩ | ⟨i, rfl, hi, _, _⟩
  · exact .inr ⟨rfl, .inl rfl⟩
  · refine .inl ⟨i, 0, l.length, _, w, true, by simp, hi, ?_, ?_⟩
    · rw [flatten_lenG hw]; simp
    · rw [List.drop_zero]; exact List.take_of_length_le (by rw [flatten_lenG hw]; simp)
section
variable {γ : Type} {P : Program} {E : Env γ} {T : List Value} {H : AHeap} {g : γ} {R : List Value → AHeap → γ → Prop} {ops : Array Oper} {dst : Option Tmp} {ty : TypeId} {ps : String} {af : Array Edge} {rest : List Oper}
theorem st_appG {α : Type} {enc : α → List Value} {w n : Nat} {v : Value} {l : List α} {s x : Operand} {t e : TypeId} {nn : Nat} {z : Value} {b : Nat} {d' : TypeDesc} {z' : Value} {b' : Nat} {i o cap : Nat} {cells : List Value} {es : Nat} {own : Bool} {a : α}
    [ht : TyC P t (.slice e) nn z b] [he : TyC P e d' w z' b'] (hA : AppG enc w H n v l) (hz' : (cellsL z').length = w) (hw : ∀ a, (enc a).length = w) (hs : evalT T s = v) (hx : evalT T x = .slice (some ⟨i, o, none⟩) 1 cap) (hi : H[i]? = some (.row cells es own))
    (hfit : o + w ≤ cells.length) (hc : (cells.drop o).take w = enc a) (hok : (enc a).all cellOk = true) (hnH : n ≤ H.length) (hn : l.length ≤ 1000000) (hb : b' ≤ 1000)
    (k : ∀ v2 H2, AppG enc w H2 n v2 (l ++ [a]) → (∀ H0, Ext H0 H → H0.length ≤ n → Ext H0 H2) → (∀ j o, j < n → H[j]? = some o → H2[j]? = some o) → H.length ≤ H2.length → OpsJ P E ops R rest (putT T dst v2) H2 g) :
    OpsJ P E ops R (⟨dst, .call { callee := .builtin .append, args := #[s, x], argTypes := #[t, t] }, ty, ps, af, none⟩ :: rest) T H g := by
  have hm : maxLen = 9223372036854775807 := by decide
  have hlb : (l.length + 1) * b' ≤ 140737488355328 := by
    have := Nat.mul_le_mul (show l.length + 1 ≤ 1000001 by omega) hb
    omega
  rcases hA with ⟨rfl, rfl⟩ | ⟨j, rfl, hj, hnj, hne⟩
  · refine st_appendNil hz' hs hx hi (news := enc a) (by omega) (by rw [Nat.one_mul]; exact hc) ⟨by decide, by rw [hm]; decide, by simpa using hlb⟩ (k _ _ ?_ ?_ ?_ (by simp))
    · exact .inr ⟨H.length, by simp, by simp, hnH, by simp⟩
    · exact fun H0 h0 _ => Ext.app h0 _
    · exact fun j o _ h => get_old h
  · have hlen := flatten_lenG hw l
    refine st_appendOwn hz' hs hx hj (by omega) hi (by omega) (by rw [Nat.one_mul]; exact hc) hok ⟨by rw [hm]; omega, hlb⟩ (k _ _ ?_ ?_ ?_ (by simp))
    · refine .inr ⟨H.length, by simp, ?_, hnH, by simp⟩
      rw [List.take_of_length_le (by omega)]
      have : (H.set j AObj.dead).length = H.length := by simp
      rw [List.getElem?_append_right (by omega)]
      simp
    · exact fun H0 h0 hl0 => Ext.app (Ext.set h0 (by omega) _) _
    · exact fun j2 o hj2 h => get_old (get_setne (by omega) h)
end
def slV (n : Nat) {α : Type} (l : List α) : Value := if l.isEmpty then .slice none 0 0 else .slice (some ⟨n, 0, none⟩) l.length l.length
def slH {α : Type} (enc : α → List Value) (w : Nat) (l : List α) : AHeap := if l.isEmpty then [] else [.row (l.map enc).flatten w true]
theorem sl_rd {α : Type} {enc : α → List Value} {w : Nat} (hw : ∀ a, (enc a).length = w) (H : AHeap) (l : List α) : RdS (H ++ slH enc w l) (slV H.length l) w (l.map enc) := by
  refine ⟨fun x hx => by obtain ⟨a, _, rfl⟩ := List.mem_map.1 hx; exact hw a, ?_⟩
  cases l with
  | nil => exact .inr ⟨rfl, .inl rfl⟩
  | cons a l => exact .inl ⟨H.length, 0, (a :: l).length, _, w, true, by simp [slV], by simp [slH]; rfl, by have := flatten_lenG hw (a :: l); simp only [List.map_cons, List.flatten_cons] at this ⊢; simp only [List.length_cons, List.length_map] at this ⊢; omega, by rw [List.drop_zero]; exact List.take_of_length_le (by have := flatten_lenG hw (a :: l); simp only [List.map_cons, List.flatten_cons] at this ⊢; simp only [List.length_cons, List.length_map] at this ⊢; omega)⟩
theorem slV_cell {n : Nat} {α : Type} {l : List α} : cellOk (slV n l) = true := by unfold slV; split <;> rfl
theorem AppG.tidy {γ : Type} {α : Type} {enc : α → List Value} {w n : Nat} {H H1 : AHeap} {v : Value} {l : List α} {K : Value → AHeap → γ → Prop} {g : γ} (hA : AppG enc w H1 n v l) (hn : H.length ≤ n) (he : Ext H H1) (hf : ∀ a, (enc a).all flat1 = true) (hk : K (slV H.length l) (H ++ slH enc w l) g) : Tidy H K v H1 g := by
  rcases hA with ⟨rfl, rfl⟩ | ⟨i, rfl, hi, hni, hne⟩
  · exact Tidy.ext he (.flat rfl) (by simpa [slV, slH] using hk)
  · obtain ⟨L, rfl⟩ := he
    have hne' : l.isEmpty = false := by cases l <;> simp_all
    have hfl : (l.map enc).flatten.all flat1 = true := by
      refine List.all_eq_true.2 fun x hx => ?_
      obtain ⟨y, hy, hx⟩ := List.mem_flatten.1 hx
      obtain ⟨a, _, rfl⟩ := List.mem_map.1 hy
      exact List.all_eq_true.1 (hf a) x hx
    simp only [slV, slH, hne', Bool.false_eq_true, if_false] at hk
    exact ⟨[i], H, L, _, [.row (l.map enc).flatten w true], rfl, rfl, fun _ _ h => .inl h, by simp, fun k h => by simp at h; omega, by simp [hi], by simp [flatRow]; simpa using hfl, .slice (j := 0) rfl, hk⟩
theorem slH_own {α : Type} {enc : α → List Value} {w : Nat} {l : List α} : (slH enc w l).all ownRow = true := by unfold slH; split <;> rfl
section
variable {γ : Type} {P : Program} {E : Env γ} {g : γ}
theorem st_callL {T : List Value} {H : AHeap} {R : List Value → AHeap → γ → Prop} {ops : Array Oper} {dst : Option Tmp} {ty : TypeId} {ps : String} {af : Array Edge} {rest : List Oper} {f : FuncId} {xs : Array Operand} {at_ : Array TypeId} {args : List Value} {X : Value} {L : AHeap} [he : EntC P f] (ha : evalL T xs.toList = args := by first | rfl | (simp only [evalL, evalT, getT, constT]; rfl))
    (h : CallJ P E f args (fun v H' g' => v = X ∧ H' = H ++ L ∧ g' = g) H g) (k : OpsJ P E ops R rest (putT T dst X) (H ++ L) g) : OpsJ P E ops R (⟨dst, .call { callee := .value (.func f), args := xs, argTypes := at_ }, ty, ps, af, none⟩ :: rest) T H g :=
  st_call ha h (by rintro _ _ _ ⟨rfl, rfl, rfl⟩; exact k)
theorem mj_callL {T : List Value} {H : AHeap} {R : List Value → AHeap → Prop} {mm : Nat} {ops : Array Oper} {dst : Option Tmp} {ty : TypeId} {ps : String} {af : Array Edge} {rest : List Oper} {f : FuncId} {xs : Array Operand} {at_ : Array TypeId} {args : List Value} {X : Value} {L : AHeap} [he : EntC P f] (ha : evalL T xs.toList = args := by first | rfl | (simp only [evalL, evalT, getT, constT]; rfl))
    (h : CallJ P trivE f args (fun v H' g' => v = X ∧ H' = H ++ L ∧ g' = ()) H ()) (k : MonoJ P ops R mm rest (putT T dst X) (H ++ L)) (hL : L.all ownRow = true := by first | rfl | exact slH_own) : MonoJ P ops R (mm + 1) (⟨dst, .call { callee := .value (.func f), args := xs, argTypes := at_ }, ty, ps, af, none⟩ :: rest) T H :=
  mj_call X L ha h (fun _ _ _ h => ⟨h.1, h.2.1⟩) hL k
end
section
variable {γ : Type} {P : Program} {E : Env γ} {g : γ}
end
def AppB {α : Type} (enc : α → List Value) (w : Nat) (H : AHeap) (lo hi : Nat) (v : Value) (l : List α) : Prop :=
  (v = .slice none 0 0 ∧ l = []) ∨ ∃ i, v = .slice (some ⟨i, 0, none⟩) l.length l.length ∧ H[i]? = some (.row (l.map enc).flatten w true) ∧ lo ≤ i ∧ i < hi ∧ l ≠ []
theorem AppG.bnd {α : Type} {enc : α → List Value} {w n : Nat} {H : AHeap} {v : Value} {l : List α} (h : AppG enc w H n v l) : AppB enc w H n H.length v l := by
  rcases h with h | ⟨i, h1, h2, h3, h4⟩
  · exact .inl h
  · exact .inr ⟨i, h1, h2, h3, (List.getElem?_eq_some_iff.1 h2).1, h4⟩
theorem AppB.keep {α : Type} {enc : α → List Value} {w lo hi : Nat} {H H' : AHeap} {v : Value} {l : List α} (h : AppB enc w H lo hi v l) (hk : ∀ i o, lo ≤ i → i < hi → H[i]? = some o → H'[i]? = some o) : AppB enc w H' lo hi v l := by
  rcases h with h | ⟨i, h1, h2, h3, h4, h5⟩
  · exact .inl h
  · exact .inr ⟨i, h1, hk i _ h3 h4 h2, h3, h4, h5⟩
theorem AppB.cell {α : Type} {enc : α → List Value} {w lo hi : Nat} {H : AHeap} {v : Value} {l : List α} (h : AppB enc w H lo hi v l) : cellOk v = true := by
  rcases h with ⟨rfl, _⟩ | ⟨i, rfl, _⟩ <;> rfl
theorem AppB.parts {α : Type} {enc : α → List Value} {w lo hi : Nat} {H : AHeap} {v : Value} {l : List α} (h : AppB enc w H lo hi v l) :
    ∃ k : List Nat, k.Nodup ∧ k.map (fun i => H[i]?) = (slH enc w l).map some ∧ (∀ i ∈ k, lo ≤ i ∧ i < hi) ∧ k.length = (slH enc w l).length ∧ ∀ (n : Nat) (pre post : List Nat), Mv n (pre ++ (k ++ post)) v (slV (n + pre.length) l) := by
  rcases h with ⟨rfl, rfl⟩ | ⟨i, rfl, h2, h3, h4, h5⟩
  · exact ⟨[], by simp, by simp [slH], fun _ h => by simp at h, by simp [slH], fun _ _ _ => .flat rfl⟩
  · have hne' : l.isEmpty = false := by cases l <;> simp_all
    refine ⟨[i], by simp, by simp [slH, hne', h2], fun j hj => by simp at hj; subst hj; exact ⟨h3, h4⟩, by simp [slH, hne'], fun n pre post => ?_⟩
    simp only [slV, hne', Bool.false_eq_true, if_false]
    exact .slice (by simp)
theorem slH_flat {α : Type} {enc : α → List Value} {w : Nat} {l : List α} (hf : ∀ a, (enc a).all flat1 = true) : FlatRows (slH enc w l) := by
  intro o ho
  unfold slH at ho
  split at ho
  · simp at ho
  · simp at ho
    subst ho
    refine ⟨_, _, rfl, List.all_eq_true.2 fun x hx => ?_⟩
    obtain ⟨y, hy, hx⟩ := List.mem_flatten.1 hx
    obtain ⟨a, _, rfl⟩ := List.mem_map.1 hy
    exact List.all_eq_true.1 (hf a) x hx
theorem FlatRows.append {a b : AHeap} (h : FlatRows a) (k : FlatRows b) : FlatRows (a ++ b) := fun o ho => (List.mem_append.1 ho).elim (h o) (k o)
theorem FlatRows.ok {a : AHeap} (h : FlatRows a) : a.all flatRow = true := List.all_eq_true.2 fun o ho => by
  obtain ⟨c, es, rfl, hc⟩ := h o ho
  exact hc
theorem runs_appendZero {P : Program} {T : List Value} {H : AHeap} {dst : Option Tmp} {ty : TypeId} {ps : String} {af : Array Edge} {gd : Option (Nat × Bool)} {s x : Operand} {t e : TypeId} {n : Nat} {z : Value} {b : Nat} {d' : TypeDesc} {n' : Nat} {z' : Value} {b' : Nat} {a : Option Addr} {c i o len cp : Nat}
    (ht : Ty P t (.slice e) n z b) (he : Ty P e d' n' z' b') (hs_ : evalT T s = .slice (some ⟨i, o, none⟩) len cp) (hx : evalT T x = .slice a 0 c) :
    Runs P ⟨dst, .call { callee := .builtin .append, args := #[s, x], argTypes := #[t, t] }, ty, ps, af, gd⟩ (.slice (some ⟨i, o, none⟩) len cp) H T H :=
  Runs.pure fun ρ w ac _ hT => by
    have hrel := hs_ ▸ hT.eval s
    obtain ⟨m, cap', h1, h2, h3, hsv⟩ := rel_slice hrel
    obtain ⟨a', c', hxv⟩ := rel_len (hx ▸ hT.eval x)
    obtain ⟨hu, ti, hti, hsz, hzero, hby⟩ := he
    refine ⟨ac.eval s, ?_, hrel⟩
    have hf : (Builtin.firstCells n' 0 (.slice a' 0 c')).run P w = .ok #[] w := by cases a' <;> simp [Builtin.firstCells, loadCells, loadCellsFrom]
    simp [execOp, resolve, invoke, builtin, hsv, hxv, Builtin.append_, run_underlying ht.1, sizeOf, typeInfo, hti, hsz, Builtin.lenOf, hf, h2, storeCells]
theorem st_appendZero {γ : Type} {P : Program} {E : Env γ} {g : γ} {T : List Value} {H : AHeap} {R : List Value → AHeap → γ → Prop} {ops : Array Oper} {dst : Option Tmp} {ty : TypeId} {ps : String} {af : Array Edge} {rest : List Oper} {s x : Operand} {t e : TypeId} {n : Nat} {z : Value} {b : Nat} {d' : TypeDesc} {n' : Nat} {z' : Value} {b' : Nat} {a : Option Addr} {c i o len cp : Nat} [ht : TyC P t (.slice e) n z b] [he : TyC P e d' n' z' b']
    (hs_ : evalT T s = .slice (some ⟨i, o, none⟩) len cp) (hx : evalT T x = .slice a 0 c) (k : OpsJ P E ops R rest (putT T dst (.slice (some ⟨i, o, none⟩) len cp)) H g) : OpsJ P E ops R (⟨dst, .call { callee := .builtin .append, args := #[s, x], argTypes := #[t, t] }, ty, ps, af, none⟩ :: rest) T H g :=
  OpsJ.step (runs_appendZero ht.ty he.ty hs_ hx) rfl k
end Go.Abs
namespace Go.Abs
open Go Go.Deep Go.RowKit Go.ChangeShapes
section
variable {H : Type} {enc : TypeId × Value → H} {P : Program}
theorem trodAll_stays (hl : laidOutB P = true) {W W' : World} {sp' : Nat → Bool} : ∀ {ts : List TypeId} {vs : List Value} {ds : List (DataW H)} {ps : List MemPlace}, (∀ t ∈ ts, P.readableRec t = true ∧ t < P.types.size) →
    DataW.TrodAll enc P W 0 (fun _ => true) true ts vs ds ps → (∀ p ∈ ps, W.sameAt W' p) → (∀ p ∈ ps, sp' p.block = true) → DataW.TrodAll enc P W' 0 sp' true ts vs ds ps
  | [], [], [], ps, _, h, _, _ => h
  | t :: ts, v :: vs, d :: ds, ps, hr, h, h1, h2 => by
    obtain ⟨p, q, h3, h4, rfl⟩ := h
    exact ⟨p, q, WideElems.Trod_stays hl (hr t (by simp)).1 (hr t (by simp)).2 h3 (fun x hx => h1 x (by simp [hx])) (fun x hx => h2 x (by simp [hx])),
      trodAll_stays hl (fun t ht => hr t (by simp [ht])) h4 (fun x hx => h1 x (by simp [hx])) (fun x hx => h2 x (by simp [hx])), rfl⟩
  | [], [], _ :: _, _, _, h, _, _ => h.elim
  | [], _ :: _, _, _, _, h, _, _ => by cases h
  | _ :: _, [], _, _, _, h, _, _ => by cases h
  | _ :: _, _ :: _, [], _, _, h, _, _ => by cases h
theorem law_post {fn : Func} {s : ChangeSpec} {apart fresh handsOn again : Bool} {W W' : World} {args : Array Value} {ds : List (DataW H)} {before : List MemPlace} {t : TypeId} (hl : laidOutB P = true) (hrd : ∀ t ∈ fn.params.toList, P.readableRec t = true ∧ t < P.types.size)
    (hW : DataW.Whole enc P fn.params.toList s.vars apart W args.toList ds [] before) (hv : s.vars = []) (hfn : s.fn H (ds ++ []) = { results := [.lit (.bool true)], args := ds }) (hres : fn.resultTypes = #[t]) (ht : P.underlying t = some .bool) (hB : Below W.heap.size W W') :
    s.post enc P fn apart fresh handsOn again W args (.bool true) W' := by
  have hlt : ∀ p ∈ before, p.block < W.heap.size := fun p hp => by simpa using hW.lt p hp
  have hsame : ∀ p ∈ before, W.sameAt W' p := fun p hp => hB.same (hlt p hp)
  have hrl : ((Value.bool true).resultList fn.resultTypes.size) = [.bool true] := by rw [hres]; rfl
  have hR : ∀ (b : Nat) (sp : Nat → Bool) (hd : Bool), DataW.TrodAll enc P W' b sp hd fn.resultTypes.toList ((Value.bool true).resultList fn.resultTypes.size) (s.fn H (ds ++ [])).results [] := fun b sp hd => by
    rw [hrl, hres, hfn]
    exact trodAll_mk1 (shut_bool ht true)
  have hA : ∀ sp : Nat → Bool, (∀ p ∈ before, sp p.block = true) → DataW.TrodAll enc P W' 0 sp true fn.params.toList args.toList (s.fn H (ds ++ [])).args before := fun sp hsp => by
    rw [hfn]
    obtain ⟨p, q, h1, h2, rfl, _⟩ := hW
    rw [hv] at h2
    obtain ⟨_, rfl⟩ := trodVars_none h2
    rw [List.append_nil] at hsame hsp ⊢
    exact trodAll_stays hl hrd h1 hsame hsp
  have hV : ∀ sp : Nat → Bool, DataW.TrodVars enc P W' sp s.vars (s.fn H (ds ++ [])).vars [] := fun sp => by rw [hv, hfn]; rfl
  have hk : W.keptBut W' (· ∈ before) := hB.frame _
  refine ⟨ds, [], before, [], before, [], hW, hR _ _ _, hA _ (fun p hp => by simpa using hlt p hp), hV _, World.keptBut_mono (fun p hp => ⟨hp, ?_⟩) hk, fun _ => ?_⟩
  · simpa using hp
  · obtain ⟨_, _, _, _, _, hz, hn⟩ := hW
    refine ⟨?_, _, _, ([] ++ before) ++ [], ⟨[] ++ before, [], trodAll_append (hA _ (fun _ _ => rfl)) (hR _ _ _), hV _, rfl, ?_, ?_⟩, ?_⟩
    · intro j t' r h1 h2
      rw [hrl] at h2
      rw [hres] at h1
      match j, h1, h2 with
      | 0, h1, h2 =>
        simp at h1 h2
        subst h1; subst h2
        exact okWide_bool_mk ht true
    · intro b off hp
      have hp' : MemPlace.cell b off ∈ before := by simpa using hp
      rw [hB.frozen (p := ⟨b, off, none⟩) (hlt _ hp')]
      exact hz b off hp'
    · intro ha
      simpa using hn ha
    · intro p hp _
      simpa using hp
end
end Go.Abs
namespace Go.Abs
open Go Go.Deep Go.RowKit Go.ChangeShapes
section
variable {X : Type} {enc : TypeId × Value → X} {P : Program} {W : World}
def IntsAt (P : Program) (e : TypeId) (n : Nat) : Prop := P.cellsOf e = n ∧ 0 < n ∧ ∀ (X : Type) (enc : TypeId × Value → X) (W : World) (fuel : Nat) (cs : List Value) (x : DataW X × List MemPlace), DataW.trod enc P W 0 (fun _ => true) true fuel e cs = some x → ∃ l : List Int, cs = l.map cellI
theorem intsAt_int {e : TypeId} (he : P.underlying e = some (.int .i64)) (hc : P.cellsOf e = 1) : IntsAt P e 1 := ⟨hc, by omega, fun X enc W fuel cs x h => by
  obtain ⟨n, rfl, _⟩ := DataW.trod_int he h
  exact ⟨[n], rfl⟩⟩
theorem intsAt_struct2 {e : TypeId} {f0 f1 : Field} (he : P.underlying e = some (.struct #[f0, f1])) (hc : P.cellsOf e = 2) (o0 : f0.offset = 0) (o1 : f1.offset = 1) (c0 : P.cellsOf f0.type = 1) (c1 : P.cellsOf f1.type = 1) (u0 : P.underlying f0.type = some (.int .i64)) (u1 : P.underlying f1.type = some (.int .i64)) : IntsAt P e 2 := ⟨hc, by omega, fun X enc W fuel cs x h => by
  obtain ⟨xs, n, _, _, hl, hx, hf⟩ := DataW.trod_struct he h
  rw [hc] at hl
  match cs, hl with
  | [v0, v1], _ =>
    match xs, hx with
    | [x0, x1], _ =>
      have h0 := hf 0 f0 rfl
      have h1 := hf 1 f1 rfl
      simp [o0, o1, c0, c1] at h0 h1
      obtain ⟨n0, e0, _⟩ := DataW.trod_int u0 h0
      obtain ⟨n1, e1, _⟩ := DataW.trod_int u1 h1
      simp at e0 e1
      subst e0; subst e1
      exact ⟨[n0, n1], rfl⟩⟩
theorem flat_idx {α : Type} {n : Nat} : ∀ (xs : List (List α)), (∀ x ∈ xs, x.length = n) → ∀ k < xs.flatten.length, ∃ i j, k = i * n + j ∧ j < n ∧ i < xs.length ∧ ∃ x, xs[i]? = some x ∧ xs.flatten[k]? = x[j]?
  | [], _, k, hk => by simp at hk
  | x :: xs, h, k, hk => by
    have hx := h x (by simp)
    by_cases hlt : k < n
    · exact ⟨0, k, by simp, hlt, by simp, x, rfl, by rw [List.flatten_cons, List.getElem?_append_left (by omega)]⟩
    · rw [List.flatten_cons, List.length_append] at hk
      obtain ⟨i, j, e, hj, hi, y, hy, hg⟩ := flat_idx xs (fun z hz => h z (by simp [hz])) (k - n) (by omega)
      exact ⟨i + 1, j, by rw [Nat.add_mul]; omega, hj, by simp; omega, y, by simpa using hy, by rw [List.flatten_cons, List.getElem?_append_right (by omega), hx]; exact hg⟩
theorem slice_abs {t e : TypeId} {n i fuel : Nat} {v : Value} {x : DataW X × List MemPlace} (ht : P.underlying t = some (.slice e)) (hI : IntsAt P e n) (h : DataW.trod enc P W 0 (fun _ => true) true fuel t [v] = some x) :
    ∃ (xs : List (List Int)) (ob : AObj) (im : Option Img) (s : Value), (∀ x ∈ xs, x.length = n) ∧ xs.length ≤ maxLen ∧ (∀ ρ : Ren, ρ i = im → VRel ρ s v) ∧ (∀ m, im = some m → m.blk < W.heap.size ∧ m.own = false ∧ ∀ ρ, ORel ρ ob m W.heap[m.blk]?) ∧
      (∀ A : AHeap, A[i]? = some ob → RdS A s n (xs.map (·.map cellI)) ∧ PlainS A s) ∧ cellOk s = true := by
  obtain ⟨hc, hn, hI⟩ := hI
  rcases open_slice ht h with ⟨e1, _⟩ | ⟨a, len, cap, m, fu, D, Pl, e1, _, hlc, hcm, hm, _, hx⟩
  · cases e1
    exact ⟨[], .dead, none, .slice none 0 0, by simp, by simp, fun _ _ => .nilSlice, (fun _ h => by cases h), fun A hA => ⟨⟨by simp, .inr ⟨rfl, .inl rfl⟩⟩, fun j hj => by simp [idOf] at hj⟩, rfl⟩
  · cases e1
    rcases Nat.eq_zero_or_pos len with rfl | hpos
    · exact ⟨[], .dead, none, .slice none 0 1, by simp, by simp, fun _ _ => .empty _ _, (fun _ h => by cases h), fun A hA => ⟨⟨by simp, .inr ⟨rfl, .inr rfl⟩⟩, fun j hj => by simp [idOf] at hj⟩, rfl⟩
    have hmlen : len ≤ m := by rw [hm]; simpa using hlc
    obtain ⟨L, hL⟩ := choose_lt (α := List Int) (n := len) (p := fun k l => W.cells? 0 (a.add (k * n)) n = some (l.map cellI)) (fun k hk => by
      obtain ⟨cs', h1, h2⟩ := hx k (by omega)
      obtain ⟨l, rfl⟩ := hI _ _ _ _ _ _ h2
      rw [hc] at h1
      exact ⟨l, h1⟩)
    have hlen : ∀ k, k < len → (L k).length = n := fun k hk => by
      have := (World.cells?_some (hL k hk)).2.1
      simpa using this
    have hcell : ∀ k j, k < len → j < n → W.cell? ((a.add (k * n)).add j) = ((L k).map cellI)[j]? := fun k j hk hj => (World.cells?_some (hL k hk)).2.2 j hj
    have h00 := hcell 0 0 hpos hn
    have hsome : ∃ c et fr, W.heap[a.block]? = some (.cells c et fr) ∧ a.spot = none := by
      have h1 : ((L 0).map cellI)[0]? = some (cellI ((L 0)[0]'(by rw [hlen 0 hpos]; exact hn))) := by simp [hlen 0 hpos, hn]
      rw [h1] at h00
      have e0 : (a.add (0 * n)).add 0 = a := by simp [Addr.add]
      rw [e0] at h00
      unfold World.cell? at h00
      cases hw : W.heap[a.block]? with
      | none => rw [hw] at h00; cases h00
      | some o =>
        rw [hw] at h00
        cases o with
        | cells c et fr =>
          cases hs : a.spot with
          | none => exact ⟨c, et, fr, rfl, rfl⟩
          | some q => simp [hs] at h00
        | _ => cases h00
    obtain ⟨c, et, fr, hb, hs⟩ := hsome
    obtain ⟨ab, ao, asp⟩ := a
    simp only at hs hb
    subst hs
    have hcell' : ∀ k j, k < len → j < n → c[ao + k * n + j]? = ((L k).map cellI)[j]? := fun k j hk hj => by
      have := hcell k j hk hj
      have e0 : ((⟨ab, ao, none⟩ : Addr).add (k * n)).add j = ⟨ab, ao + k * n + j, none⟩ := by
        unfold Addr.add
        split <;> split <;> simp_all
      rw [e0] at this
      unfold World.cell? at this
      simp only [hb] at this
      simpa using this
    let xs := (List.range len).map L
    have hxs : ∀ x ∈ xs, x.length = n := by
      intro x hx'
      obtain ⟨k, hk, rfl⟩ := List.mem_map.1 hx'
      exact hlen k (by simpa using hk)
    have hys : ∀ x ∈ xs.map (·.map cellI), x.length = n := by
      intro x hx'
      obtain ⟨y, hy, rfl⟩ := List.mem_map.1 hx'
      simpa using hxs y hy
    have hflen : (xs.map (·.map cellI)).flatten.length = len * n := by
      have key : ∀ l : List (List Value), (∀ x ∈ l, x.length = n) → l.flatten.length = l.length * n := by
        intro l
        induction l with
        | nil => simp
        | cons x l ih => intro h; have := h x (by simp); have := ih (fun y hy => h y (by simp [hy])); simp_all [Nat.add_mul]; omega
      rw [key _ hys]
      simp [xs]
    have hget : ∀ k (hk : k < (xs.map (·.map cellI)).flatten.length), c[ao + k]? = (xs.map (·.map cellI)).flatten[k]? := by
      intro k hk
      obtain ⟨i', j', rfl, hj, hi, y, hy, hg⟩ := flat_idx _ hys k hk
      have hi' : i' < len := by simpa [xs] using hi
      have hyL : y = (L i').map cellI := by
        have : (xs.map (·.map cellI))[i']? = some ((L i').map cellI) := by simp [xs, hi']
        rw [this] at hy; cases hy; rfl
      rw [hg, hyL, ← hcell' i' j' hi' hj, Nat.add_assoc]
    have hsz : ao + len * n ≤ c.size := by
      have h1 := hget (len * n - 1) (by rw [hflen]; have := Nat.mul_pos hpos hn; omega)
      have h2 : (xs.map (·.map cellI)).flatten[len * n - 1]? ≠ none := by
        intro h0
        rw [List.getElem?_eq_none_iff] at h0
        have := Nat.mul_pos hpos hn
        omega
      rw [← h1] at h2
      have h3 : ¬ c.size ≤ ao + (len * n - 1) := fun hle => h2 (Array.getElem?_eq_none hle)
      have := Nat.mul_pos hpos hn
      omega
    have hrow : (List.replicate ao wild ++ (xs.map (·.map cellI)).flatten).length = ao + len * n := by rw [List.length_append, List.length_replicate, hflen]
    refine ⟨xs, .row (List.replicate ao wild ++ (xs.map (·.map cellI)).flatten) n false, some ⟨ab, c.size, n, false⟩, .slice (some ⟨i, ao, none⟩) xs.length len, hxs, by simp [xs]; omega, fun ρ hρ => ?_, fun m hm' => ?_, fun A hA => ⟨⟨hys, .inl ⟨i, ao, len, _, n, false, by simp, hA, ?_, ?_⟩⟩, ?_⟩, rfl⟩
    · have hxl : xs.length = len := by simp [xs]
      rw [hxl]
      exact .slice hρ hlc (fun h => by cases h)
    · cases hm'
      refine ⟨(Array.getElem?_eq_some_iff.1 hb).1, rfl, fun ρ => ⟨rfl, rfl, c, et, fr, hb, rfl, (fun h => by cases h), by rw [hrow]; exact hsz, fun j h1 h2 => ?_⟩⟩
      by_cases hj : j < ao
      · rw [List.getElem_append_left (by simpa using hj), List.getElem_replicate]
        exact .wild _
      · have hk : j - ao < (xs.map (·.map cellI)).flatten.length := by rw [hflen]; rw [hrow] at h1; omega
        have h3 := hget (j - ao) hk
        rw [show ao + (j - ao) = j by omega, Array.getElem?_eq_getElem h2, List.getElem?_eq_getElem hk] at h3
        rw [List.getElem_append_right (by simpa using hj)]
        simp only [List.length_replicate]
        have h4 := Option.some.inj h3
        rw [h4]
        have hmem : (xs.map (·.map cellI)).flatten[j - ao] ∈ (xs.map (·.map cellI)).flatten := List.getElem_mem hk
        obtain ⟨y, hy, hz⟩ := List.mem_flatten.1 hmem
        obtain ⟨z, hz', rfl⟩ := List.mem_map.1 hy
        obtain ⟨q, _, hq⟩ := List.mem_map.1 hz
        rw [← hq]
        exact .int _ _
    · rw [hrow]; simp [xs]
    · have hxl : xs.length = len := by simp [xs]
      rw [List.drop_left' (by simp), List.length_map, hxl, ← hflen, List.take_length]
    · intro j hj
      simp [idOf] at hj
      subst hj
      refine ⟨_, _, hA, fun y hy => ?_⟩
      rcases List.mem_append.1 hy with hy | hy
      · rw [(List.mem_replicate.1 hy).2]; exact Plain.wild
      · obtain ⟨z, hz, hz2⟩ := List.mem_flatten.1 hy
        obtain ⟨q, _, rfl⟩ := List.mem_map.1 hz
        obtain ⟨r, _, rfl⟩ := List.mem_map.1 hz2
        exact .flat rfl
end
end Go.Abs
namespace Go.Abs
open Go
section
variable {P : Program} {T : List Value} {H : AHeap} {R : List Value → AHeap → Prop} {mm : Nat} {ops : Array Oper} {dst : Option Tmp} {ty : TypeId} {ps : String} {af : Array Edge} {rest : List Oper}
theorem mj_eqI {xt yt : TypeId} {x y : Operand} {n : Nat} {xs ys : List Int} [ht : IntsC P xt n] (hx : evalT T x = .agg ⟨xs.map cellI⟩) (hy : evalT T y = .agg ⟨ys.map cellI⟩) (hxl : xs.length = n) (hyl : ys.length = n) (k : MonoJ P ops R mm rest (putT T dst (.bool (decide (xs = ys)))) H) :
    MonoJ P ops R (mm + 1) (⟨dst, .binOp .eql xt x y yt, ty, ps, af, none⟩ :: rest) T H := mj_step (runs_eqI hx hy hxl hyl) rfl k
end
end Go.Abs
namespace Go.Abs
open Go Go.RowKit
def OneOf (W : World) (ob : AObj) (im : Option Img) : Prop := ∀ m, im = some m → m.blk < W.heap.size ∧ m.own = false ∧ ∀ ρ, ORel ρ ob m W.heap[m.blk]?
def renOf (ims : List (Option Img)) : Ren := fun i => (ims[i]?).join
def AllOf (W : World) : List AObj → List (Option Img) → Prop
  | [], [] => True
  | o :: os, m :: ms => OneOf W o m ∧ AllOf W os ms
  | _, _ => False
theorem AllOf.at_ {W : World} : ∀ {os : List AObj} {ms : List (Option Img)}, AllOf W os ms → ∀ {i : Nat} {m : Img}, renOf ms i = some m → ∃ o, os[i]? = some o ∧ m.blk < W.heap.size ∧ m.own = false ∧ ∀ ρ, ORel ρ o m W.heap[m.blk]?
  | [], [], _, i, m, h => by simp [renOf] at h
  | o :: os, x :: ms, h, 0, m, hi => by
    simp [renOf] at hi
    exact ⟨o, rfl, h.1 m hi⟩
  | o :: os, x :: ms, h, i + 1, m, hi => by
    have : renOf ms i = some m := by simpa [renOf] using hi
    obtain ⟨o', h1, h2⟩ := AllOf.at_ h.2 this
    exact ⟨o', by simpa using h1, h2⟩
  | [], _ :: _, h, _, _, _ => h.elim
  | _ :: _, [], h, _, _, _ => h.elim
theorem AllOf.inv {W : World} {os : List AObj} {ms : List (Option Img)} (h : AllOf W os ms) : Inv trivE (renOf ms) os () (fun _ => False) W := by
  refine ⟨⟨fun i m hi => ?_, fun i m o hi ho => ?_, fun i j m m' o o' hi _ _ _ _ _ hown _ => ?_⟩, trivial, fun _ hb => hb.elim, fun _ hb => hb.elim⟩
  · obtain ⟨o, h1, h2, _⟩ := h.at_ hi
    exact ⟨(List.getElem?_eq_some_iff.1 h1).1, h2⟩
  · obtain ⟨o1, h1, _, _, h2⟩ := h.at_ hi
    rw [ho] at h1
    cases h1
    exact h2 _
  · obtain ⟨_, _, _, h2, _⟩ := h.at_ hi
    rw [h2] at hown
    cases hown
theorem AllOf.calls {P : Program} {W : World} {os : List AObj} {ms : List (Option Img)} (h : AllOf W os ms) {f : FuncId} {args : List Value} {args' : Array Value} (ha : ARel (renOf ms) ⟨args⟩ args')
    (hc : CallJ P trivE f args (fun v H' g' => v = .bool true ∧ H' = os ∧ g' = ()) os ()) : Calls P f args' W fun e W' => e = .returned (.bool true) ∧ Below W.heap.size W W' := by
  refine (hc (renOf ms) W _ args' h.inv ha).mono fun e W' => ?_
  rintro ⟨ρ', v, v', H', g', S', rfl, hv, hi, ht, rfl, rfl, _⟩
  cases hv
  refine ⟨rfl, ht.os, ht.tape, ht.out, ht.size, fun b hb => ht.keep b hb (fun h => h) ?_⟩
  rintro ⟨i, m, o, h1, _, _, h2, _⟩
  obtain ⟨_, _, _, h3, _⟩ := h.at_ h1
  rw [h3] at h2
  cases h2
end Go.Abs
namespace Go.Abs
open Go
theorem SRel.giveOf {ρ : Ren} {H : AHeap} {w : World} (h : SRel ρ H w) (m : Img) (o : AObj) (hlt : m.blk < w.heap.size) (hor : ORel ρ o m w.heap[m.blk]?) (hno : ¬ LiveBlk ρ H m.blk) : SRel (ρ.add H.length m) (H ++ [o]) w := by
  have hle : ρ.le (ρ.add H.length m) := fun i m' hi => by
    have := (h.dom i m' hi).1
    unfold Ren.add
    rw [if_neg (by omega)]; exact hi
  have hold : ∀ {i m'}, (ρ.add H.length m) i = some m' → i = H.length ∧ m' = m ∨ i < H.length ∧ ρ i = some m' := fun {i m'} hi => by
    unfold Ren.add at hi
    split at hi
    · rename_i e; exact .inl ⟨e, by simpa using hi.symm⟩
    · exact .inr ⟨(h.dom i m' hi).1, hi⟩
  have hnew : (H ++ [o])[H.length]? = some o := by simp
  refine ⟨fun i m' hi => ?_, fun i m' o' hi ho => ?_, fun i j m1 m2 o1 o2 hi hj ho1 ho2 hd1 hd2 hown hbb => ?_⟩
  · rcases hold hi with ⟨rfl, rfl⟩ | ⟨h1, h2⟩
    · exact ⟨by simp, hlt⟩
    · exact ⟨by simp; omega, (h.dom i m' h2).2⟩
  · rcases hold hi with ⟨rfl, rfl⟩ | ⟨h1, h2⟩
    · rw [hnew] at ho; cases ho; exact hor.mono hle
    · rw [List.getElem?_append_left h1] at ho
      exact (h.obj i m' o' h2 ho).mono hle
  · rcases hold hi with ⟨rfl, rfl⟩ | ⟨h1, h2⟩
    · rcases hold hj with ⟨rfl, rfl⟩ | ⟨h3, h4⟩
      · rfl
      · rw [List.getElem?_append_left h3] at ho2
        exact absurd ⟨j, m2, o2, h4, ho2, hd2, hbb.symm⟩ hno
    · rw [List.getElem?_append_left h1] at ho1
      rcases hold hj with ⟨rfl, rfl⟩ | ⟨h3, h4⟩
      · exact absurd ⟨i, m1, o1, h2, ho1, hd1, hbb⟩ hno
      · rw [List.getElem?_append_left h3] at ho2
        exact h.inj i j m1 m2 o1 o2 h2 h4 ho1 ho2 hd1 hd2 hown hbb
theorem give_own {ρ : Ren} {H : AHeap} {w : World} (h : SRel ρ H w) (m : Img) (o : AObj) {b : Nat} (hb : LiveOwn (ρ.add H.length m) (H ++ [o]) b) : LiveOwn ρ H b ∨ b = m.blk := by
  obtain ⟨i, m', o', h1, h2, h3, h4, rfl⟩ := hb
  unfold Ren.add at h1
  split at h1
  · simp only [Option.some.injEq] at h1; exact .inr (by rw [h1])
  · have := (h.dom i m' h1).1
    rw [List.getElem?_append_left this] at h2
    exact .inl ⟨i, m', o', h1, h2, h3, h4, rfl⟩
theorem LoopJ.give {γ : Type} {E : Env γ} {ρ : Ren} {H : AHeap} {S : Nat → Prop} {w1 : World} {rec : Option Code → Loop} {l : Nat} {Dm : Option Nat} {Hc : AHeap} {gc : γ} {st : Option Code} {S' : Nat → Prop} {w : World} {ρc : Ren} {Sc : Nat → Prop}
    (h : LoopJ E ρ H S w1 rec l Dm (Hc, gc, st) S' w ρc Sc) (m : Img) (o : AObj) (hlt : m.blk < w.heap.size) (hor : ORel ρc o m w.heap[m.blk]?) (hno : ¬ LiveBlk ρc Hc m.blk) (hns : ¬ Sc m.blk) (hge : w1.heap.size ≤ m.blk) :
    LoopJ E ρ H S w1 rec l Dm (Hc ++ [o], gc, st) (fun b => Sc b ∨ LiveBlk (ρc.add Hc.length m) (Hc ++ [o]) b ∨ LiveBlk ρ H b ∨ b = l ∨ Dm = some b) w (ρc.add Hc.length m) Sc where
  inv := ⟨h.inv.srel.giveOf m o hlt hor hno, h.inv.j, h.inv.bnd, fun b hb hL => by
    rcases give_own h.inv.srel m o hL with h1 | rfl
    · exact h.inv.disj b hb h1
    · exact hns hb⟩
  next := by have := h.next; simp at this ⊢; omega
  ext := fun i hi => by
    have := h.next
    have h2 := h.ext i hi
    unfold Ren.add
    rw [if_neg (by simp at this; omega)]; exact h2
  os := h.os
  tape := h.tape
  out := h.out
  size := h.size
  fresh := fun b hb => by
    rcases give_own h.inv.srel m o hb with h1 | rfl
    · exact h.fresh b h1
    · exact .inl hge
  grow := h.grow
  keep := h.keep
  rec_ := h.rec_
  mark := h.mark
  nol := h.nol
  leans := fun b => Iff.rfl
def loopE2 {γ : Type} (E : Env γ) (ρ : Ren) (H : AHeap) (S : Nat → Prop) (w1 : World) (rec : Option Code → Loop) (l : Nat) (Dm : Option Nat) (n0 : Nat) (hn : n0 ≤ w1.heap.size) : Env (AHeap × γ × Option Code) where
  J := fun x S2 w => ∃ ρc Sc S', LoopJ E ρ H S w1 rec l Dm x S' w ρc Sc ∧ (∀ b, S2 b ↔ S' b ∨ b < w1.heap.size) ∧ ∀ b, b < n0 → ¬ S b → ¬ LiveOwn ρ H b → w.heap[b]? = w1.heap[b]?
  stable := by
    rintro x S2 w w' ⟨ρc, Sc, S', h, hS, hk0⟩ hk hz hos htp hout
    obtain ⟨ρc', Sc', h'⟩ := (loopE E ρ H S w1 rec l Dm).stable x S' w w' ⟨ρc, Sc, h⟩ (fun b hb => hk b ((hS b).2 (.inl hb))) hz hos htp hout
    exact ⟨ρc', Sc', S', h', hS, fun b hb h1 h2 => (hk b ((hS b).2 (.inr (Nat.lt_of_lt_of_le hb hn)))).trans (hk0 b hb h1 h2)⟩
theorem LoopJ.keepAll {γ : Type} {E : Env γ} {ρ : Ren} {H : AHeap} {S : Nat → Prop} {w1 : World} {rec : Option Code → Loop} {l : Nat} {Dm : Option Nat} {x : AHeap × γ × Option Code} {S' : Nat → Prop} {w : World} {ρc : Ren} {Sc : Nat → Prop}
    (h : LoopJ E ρ H S w1 rec l Dm x S' w ρc Sc) {n0 : Nat} (hn : n0 ≤ w1.heap.size) (h0l : n0 ≤ l) (hk0 : ∀ b, b < n0 → ¬ S b → ¬ LiveOwn ρ H b → w.heap[b]? = w1.heap[b]?) {w2 : World}
    (tk : ∀ b, b < w.heap.size → ¬ (Sc b ∨ b = l) → ¬ LiveOwn ρc x.1 b → b < w1.heap.size → w2.heap[b]? = w.heap[b]?) : ∀ b, b < n0 → ¬ S b → ¬ LiveOwn ρ H b → w2.heap[b]? = w1.heap[b]? := fun b hb h1 h2 => by
  have hlt : b < w1.heap.size := Nat.lt_of_lt_of_le hb hn
  refine (tk b (Nat.lt_of_lt_of_le hlt h.size) (fun h3 => ?_) (fun h3 => ?_) hlt).trans (hk0 b hb h1 h2)
  · rcases h3 with h3 | rfl
    · rcases h.grow b h3 with h4 | h4 | h4
      · exact h1 h4
      · omega
      · exact h2 h4
    · omega
  · rcases h.fresh b h3 with h4 | h4
    · omega
    · exact h2 h4
section
variable {γ : Type} {P : Program} {E : Env γ} {ρ : Ren} {H : AHeap} {S : Nat → Prop} {w0 w1 : World} {sh : List Nat} {fn : FuncId} {T : List Value} {tmps0 : Array Value} {ps : Array Tmp} {assign body : Code} {D0 l : Nat} {Dm : Option Nat}
theorem CallV.yieldO (hs0 : SRel ρ H w0) (h0l : w0.heap.size ≤ l) (h01 : w0.heap.size ≤ w1.heap.size) (hT : TRel ρ T tmps0) {Hc H1 : AHeap} {gc : γ} {i0 len cap : Nat} {cs : List Value} {I' : AHeap → γ → Prop} {Ix : Code → AHeap → γ → Prop}
    (htok : H1[H.length]? = some (.tok (pinsOf sh ρ H.length l))) (hview : ViewOk sh ρ H l H1) (hw : ∀ i ∈ sh, ∀ c es own, H[i]? = some (.row c es own) → ∀ v ∈ c, Within sh v)
    (hsh : ∀ i ∈ sh, ∃ m, ρ i = some m) (hlen : 1 = ps.size) (hrow : H1[i0]? = some (.row cs 1 true)) (hflat : cs.all flat1 = true)
    (hI : ∀ H2 g2, (I' H2 g2 ∨ ∃ c, Ix c H2 g2) → ∀ i ∈ sh, ∀ c es own, H[i]? = some (.row c es own) → H2[i]? = some (.row c es own))
    (hold : ∀ H2 g2, (I' H2 g2 ∨ ∃ c, Ix c H2 g2) → ∀ (i : Nat) (o : AObj), H2[i]? = some o → o.dead? = false → ownedO o = false → ∃ o' : AObj, H[i]? = some o' ∧ o'.dead? = false)
    (hround : WPJ P E assign (thenQ (WPJ P E body (roundQ I' Ix)) (fun _ _ _ _ => False)) (putPs T ps.toList [.slice (some ⟨Hc.length, 0, none⟩) len cap]) (Hc ++ [.row cs 1 true]) gc) :
    CallV P (loopE2 E ρ H S w1 (recOf fn tmps0 ps assign body D0) l Dm w0.heap.size h01) (.func (.yield H.length) #[] #[]) [.slice (some ⟨i0, 0, none⟩) len cap]
      (fun v H2 x2 => H2 = H1.set i0 .dead ∧ (v = .bool true ∧ x2.2.2 = none ∧ I' x2.1 x2.2.1 ∨ v = .bool false ∧ ∃ c, x2.2.2 = some c ∧ Ix c x2.1 x2.2.1)) H1 (Hc, gc, none) := by
  intro ρ2 w S2' fv' args' hi hf ha
  obtain ⟨ρc, Sc, S2, hJ, hS, hk0⟩ := hi.j
  have hS1 : ∀ b, S2 b → S2' b := fun b hb => (hS b).2 (.inl hb)
  cases hf with
  | yield h =>
    rename_i m
    have hor := hi.srel.obj _ m _ h htok
    have hpins : ∀ p ∈ pinsOf sh ρ H.length l, ρ2 p.1 = some p.2 := hor.2
    have hm : m = ⟨l, 0, 0, false⟩ := by
      have := hpins (H.length, ⟨l, 0, 0, false⟩) (by simp [pinsOf])
      rw [h] at this; cases this; rfl
    subst hm
    have hsz : args'.size = ps.size := by have := ha.1; simp at this; omega
    have ha0 : VRel ρ2 (.slice (some ⟨i0, 0, none⟩) len cap) (args'[0]'(by omega)) := by simpa using ha.2 0 (by simp) (by omega)
    obtain ⟨mi, cap', hmi, hargs, hle0, hcap⟩ : ∃ mi cap', ρ2 i0 = some mi ∧ args'[0]'(by omega) = .slice (some ⟨mi.blk, 0, none⟩) len cap' ∧ len ≤ cap' ∧ (mi.own = true → 0 + cap' * mi.es = mi.cs) := by
      generalize args'[0]'(by omega) = u at ha0
      cases ha0 with
      | slice h1 h2 h3 => exact ⟨_, _, h1, rfl, h2, h3⟩
    have hori := hi.srel.obj i0 mi _ hmi hrow
    have hmlt := (hi.srel.dom i0 mi hmi).2
    have hmown : mi.own = true := hori.2.1
    have hLi : LiveOwn ρ2 H1 mi.blk := ⟨i0, mi, _, hmi, hrow, rfl, hmown, rfl⟩
    have hnS' : ¬ S2' mi.blk := fun hS => hi.disj _ hS hLi
    have hnS : ¬ S2 mi.blk := fun h => hnS' (hS1 _ h)
    have hge : w1.heap.size ≤ mi.blk := Nat.le_of_not_lt fun h => hnS' ((hS _).2 (.inr h))
    have hnsc : ¬ Sc mi.blk := fun hb => hnS ((hJ.leans _).2 (.inl hb))
    have hnc : ¬ LiveBlk ρc Hc mi.blk := fun hb => hnS ((hJ.leans _).2 (.inr (.inl hb)))
    have horc : ORel ρc (.row cs 1 true) mi w.heap[mi.blk]? := by
      obtain ⟨b1, b2, c, e, fr, b3, b4, b5, b6, b7⟩ := hori
      exact ⟨b1, b2, c, e, fr, b3, b4, b5, b6, fun j k1 k2 => flat1_rel (List.all_eq_true.1 hflat _ (List.getElem_mem k1)) (b7 j k1 k2)⟩
    have hJ1 := hJ.give mi (.row cs 1 true) hmlt horc hnc hnsc hge
    have hxc : ARel (ρc.add Hc.length mi) ⟨[.slice (some ⟨Hc.length, 0, none⟩) len cap]⟩ args' := by
      refine ⟨by simp; omega, fun j a b => ?_⟩
      have : j = 0 := by simp at a; omega
      subst this
      rw [hargs]
      exact .slice (m := mi) (Ren.add_same _ _ _) hle0 hcap
    have hy := run_yield (P := P) (args := args') hJ.rec_ hsz
    refine ⟨{ target := .fn (.yield l) #[], args := #[] ++ args' }, by simp [Deferred.ofValue], .inr ⟨l, fn, _, assign, body, by have h9 := hy; simp only [recOf] at h9; simpa [invoke] using h9, round_caller hs0 h0l h01 hT hJ1 hxc hround ?_⟩⟩
    intro v w2 ρb H2 g2 Sb st hv hst tr hJ2
    have hII : I' H2 g2 ∨ ∃ c, Ix c H2 g2 := by
      rcases hst with ⟨_, h1⟩ | ⟨c, _, h1⟩
      · exact .inl h1
      · exact .inr ⟨c, h1⟩
    have hnc1 : ∀ b, LiveOwn (ρc.add Hc.length mi) (Hc ++ [.row cs 1 true]) b → S2 b ∨ b = mi.blk := fun b hb => (give_own hJ.inv.srel _ _ hb).imp (fun h => (hJ.leans b).2 (.inr (.inl h.blk))) id
    have hscl : ∀ b, (Sc b ∨ b = l) → S2 b := fun b h1 => by
      rcases h1 with h1 | rfl
      · exact (hJ.leans b).2 (.inl h1)
      · exact (hJ.leans b).2 (by simp)
    have own : ∀ b, LiveOwn ρ2 H1 b → b ≠ mi.blk → ¬ S2 b ∧ b < w.heap.size ∧ w2.heap[b]? = w.heap[b]? := by
      intro b hb hne
      have hS : ¬ S2 b := fun h1 => hi.disj b (hS1 b h1) hb
      have hlt : b < w.heap.size := by
        obtain ⟨i, m, o, e1, _, _, _, rfl⟩ := hb
        exact (hi.srel.dom i m e1).2
      exact ⟨hS, hlt, tr.keep b hlt (fun h1 => hS (hscl b h1)) (fun h1 => (hnc1 b h1).elim hS hne)⟩
    have hle2 : (shareR sh ρb).le ρ2 := fun i m1 h1 => by
      obtain ⟨hi', m0, h2, rfl⟩ := shareR_some h1
      obtain ⟨m00, h3⟩ := hsh i hi'
      have h4 : ρb i = ρ i := hJ2.ext i (hs0.dom i m00 h3).1
      rw [h4] at h2
      exact hpins (i, { m0 with own := false }) (by simp only [pinsOf, List.mem_cons, List.mem_filterMap]; exact .inr ⟨i, hi', by rw [h2]; rfl⟩)
    have getset : ∀ i o, (H1.set i0 .dead)[i]? = some o → o.dead? = false → i ≠ i0 ∧ H1[i]? = some o := fun i o ho hd => by
      rw [List.getElem?_set] at ho
      split at ho
      · split at ho
        · cases ho; cases hd
        · cases ho
      · rename_i e; exact ⟨fun e2 => e e2.symm, ho⟩
    have hsr : SRel ρ2 (H1.set i0 .dead) w2 := by
      refine ⟨fun i m1 h1 => ⟨by simpa using (hi.srel.dom i m1 h1).1, Nat.lt_of_lt_of_le (hi.srel.dom i m1 h1).2 tr.size⟩, fun i m1 o h1 ho => ?_, fun i j m1 m2 o1 o2 q1 q2 q3 q4 q5 q6 => hi.srel.inj i j m1 m2 o1 o2 q1 q2 (getset i o1 q3 q5).2 (getset j o2 q4 q6).2 q5 q6⟩
      cases hd : o.dead? with
      | true => cases o <;> first | trivial | cases hd
      | false =>
        obtain ⟨hii, ho⟩ := getset i o ho hd
        have hor1 := hi.srel.obj i m1 o h1 ho
        have hown : ownedO o = true → ORel ρ2 o m1 w2.heap[m1.blk]? := fun ho2 => by
          have hmo : m1.own = true := by
            cases o with
            | row c es own' => cases own' with
              | true => exact hor1.2.1
              | false => cases ho2
            | map es ck => exact hor1.1
            | iter _ _ _ => exact hor1.1
            | tok _ => cases ho2
            | dead => cases ho2
          rw [(own m1.blk ⟨i, m1, o, h1, ho, hd, hmo, rfl⟩ (fun e => hii (hi.srel.inj i i0 m1 mi o _ h1 hmi ho hrow hd rfl hmo e))).2.2]
          exact hor1
        rcases hview i o ho hd with ⟨_, rfl⟩ | ⟨hi', hil, c, es, own', hH, rfl⟩ | ho2 | ⟨es, ck, rfl⟩
        · exact hor1
        · obtain ⟨m0, h3⟩ := hsh i hi'
          have h4 : ρb i = some m0 := (hJ2.ext i hil).trans h3
          have h5 : ρ2 i = some { m0 with own := false } := hle2 i _ (by simp only [shareR, if_pos hi', h4, Option.map_some])
          rw [h1] at h5
          cases h5
          obtain ⟨b1, b2, c', e, fr, b3, b4, b5, b6, b7⟩ := hJ2.inv.srel.obj i m0 _ h4 (hI _ _ hII i hi' c es own' hH)
          exact ⟨b1, rfl, c', e, fr, b3, b4, (fun e => Bool.noConfusion e), b6, fun j k1 k2 => (hw i hi' c es own' hH _ (List.getElem_mem k1) ρb _ (b7 j k1 k2)).mono hle2⟩
        · exact hown (by cases o <;> simp_all [ownRow, ownedO])
        · exact hown rfl
    have s2 : ∀ b, (Sb b ∨ LiveBlk ρb H2 b ∨ LiveBlk ρ H b ∨ b = l ∨ Dm = some b) → S2 b ∨ w.heap.size ≤ b ∨ b = mi.blk := by
      intro b hb
      have viaOwn : LiveOwn ρb H2 b → S2 b ∨ w.heap.size ≤ b ∨ b = mi.blk := fun h1 => by
        rcases tr.fresh b h1 with h2 | h2
        · exact .inr (.inl h2)
        · exact (hnc1 b h2).elim .inl fun h => .inr (.inr h)
      rcases hb with h1 | ⟨i, m1, o, h1, ho, hd, rfl⟩ | h1 | rfl | h1
      · rcases tr.grow b (.inl h1) with h2 | h2 | h2
        · exact .inl (hscl b h2)
        · exact .inr (.inl h2)
        · exact (hnc1 b h2).elim .inl fun h => .inr (.inr h)
      · cases hoo : ownedO o with
        | true =>
          refine viaOwn ⟨i, m1, o, h1, ho, hd, ?_, rfl⟩
          have hor1 := hJ2.inv.srel.obj i m1 o h1 ho
          cases o with
          | row c es own' => cases own' with
            | true => exact hor1.2.1
            | false => cases hoo
          | map es ck => exact hor1.1
          | iter _ _ _ => exact hor1.1
          | tok _ => cases hoo
          | dead => cases hoo
        | false =>
          obtain ⟨o', ho', hd'⟩ := hold _ _ hII i o ho hd hoo
          have hil : i < H.length := (List.getElem?_eq_some_iff.1 ho').1
          exact .inl ((hJ.leans m1.blk).2 (.inr (.inr (.inl ⟨i, m1, o', (hJ2.ext i hil) ▸ h1, ho', hd', rfl⟩))))
      · exact .inl ((hJ.leans b).2 (.inr (.inr (.inl h1))))
      · exact .inl ((hJ.leans b).2 (by simp))
      · exact .inl ((hJ.leans b).2 (by simp [h1]))
    have liveset : ∀ b, LiveOwn ρ2 (H1.set i0 .dead) b → LiveOwn ρ2 H1 b ∧ b ≠ mi.blk := by
      rintro b ⟨i, m1, o, e1, e2, e3, e4, rfl⟩
      obtain ⟨q1, q2⟩ := getset i o e2 e3
      exact ⟨⟨i, m1, o, e1, q2, e3, e4, rfl⟩, fun e => q1 (hi.srel.inj i i0 m1 mi o _ e1 hmi q2 hrow e3 rfl e4 e)⟩
    have hka := hJ.keepAll (w2 := w2) h01 h0l hk0 (fun b hb h3 h4 hb1 => tr.keep b hb h3 fun h5 => (give_own hJ.inv.srel _ _ h5).elim h4 fun e => by omega)
    refine ⟨ρ2, v, v, H1.set i0 .dead, (H2, g2, st), fun b => (Sb b ∨ LiveBlk ρb H2 b ∨ LiveBlk ρ H b ∨ b = l ∨ Dm = some b) ∨ b < w1.heap.size, rfl, ?_, ⟨hsr, ⟨ρb, Sb, _, hJ2, fun b => Iff.rfl, hka⟩, fun b hb => ?_, fun b hb hl => ?_⟩, ⟨by simp, fun _ _ => rfl, tr.os, tr.tape, tr.out, tr.size, fun b hb h1 h2 => ?_, fun b hb => .inr (liveset b hb).1, fun b hb => ?_⟩, rfl, ?_⟩
    · rw [hv]; exact .bool _
    · rcases hb with (h1 | ⟨i, m1, o, h1, _, _, rfl⟩ | ⟨i, m1, o, h1, _, _, rfl⟩ | rfl | h1) | h1
      · exact hJ2.inv.bnd b h1
      · exact (hJ2.inv.srel.dom i m1 h1).2
      · have := (hs0.dom i m1 h1).2; have := hJ2.size; omega
      · exact (Array.getElem?_eq_some_iff.1 hJ2.rec_).1
      · exact (Array.getElem?_eq_some_iff.1 (hJ2.mark b h1).1).1
      · exact Nat.lt_of_lt_of_le h1 hJ2.size
    · obtain ⟨hl1, hl2⟩ := liveset b hl
      obtain ⟨o1, o2, _⟩ := own b hl1 hl2
      rcases hb with hb | hb
      · rcases s2 b hb with h1 | h1 | h1
        · exact o1 h1
        · omega
        · exact hl2 h1
      · exact hi.disj b ((hS b).2 (.inr hb)) hl1
    · exact tr.keep b hb (fun h3 => h1 (hS1 _ (hscl b h3))) (fun h3 => (hnc1 b h3).elim (fun h => h1 (hS1 _ h)) (fun e => h2 (by rw [e]; exact hLi)))
    · rcases hb with hb | hb
      · rcases s2 b hb with h1 | h1 | rfl
        · exact .inl (hS1 _ h1)
        · exact .inr (.inl h1)
        · exact .inr (.inr hLi)
      · exact .inl ((hS b).2 (.inr hb))
    · rcases hst with ⟨rfl, h1⟩ | ⟨c, rfl, h1⟩
      · exact .inl ⟨by rw [hv]; rfl, rfl, h1⟩
      · exact .inr ⟨by rw [hv]; rfl, c, rfl, h1⟩
theorem CallV.yieldN (hs0 : SRel ρ H w0) (h0l : w0.heap.size ≤ l) (h01 : w0.heap.size ≤ w1.heap.size) (hT : TRel ρ T tmps0) {Hc H1 : AHeap} {gc : γ} {x : List Value} {I' : AHeap → γ → Prop} {Ix : Code → AHeap → γ → Prop}
    (htok : H1[H.length]? = some (.tok (pinsOf sh ρ H.length l))) (hview : ViewOk sh ρ H l H1) (hw : ∀ i ∈ sh, ∀ c es own, H[i]? = some (.row c es own) → ∀ v ∈ c, Within sh v)
    (hsh : ∀ i ∈ sh, ∃ m, ρ i = some m) (hlen : x.length = ps.size) (hx : ∀ v ∈ x, Across sh ρ H.length l v)
    (hI : ∀ H2 g2, (I' H2 g2 ∨ ∃ c, Ix c H2 g2) → ∀ i ∈ sh, ∀ c es own, H[i]? = some (.row c es own) → H2[i]? = some (.row c es own))
    (hold : ∀ H2 g2, (I' H2 g2 ∨ ∃ c, Ix c H2 g2) → ∀ (i : Nat) (o : AObj), H2[i]? = some o → o.dead? = false → ownedO o = false → ∃ o' : AObj, H[i]? = some o' ∧ o'.dead? = false)
    (hround : WPJ P E assign (thenQ (WPJ P E body (roundQ I' Ix)) (fun _ _ _ _ => False)) (putPs T ps.toList x) Hc gc) :
    CallV P (loopE2 E ρ H S w1 (recOf fn tmps0 ps assign body D0) l Dm w0.heap.size h01) (.func (.yield H.length) #[] #[]) x
      (fun v H2 x2 => H2 = H1 ∧ (v = .bool true ∧ x2.2.2 = none ∧ I' x2.1 x2.2.1 ∨ v = .bool false ∧ ∃ c, x2.2.2 = some c ∧ Ix c x2.1 x2.2.1)) H1 (Hc, gc, none) := by
  intro ρ2 w S2' fv' args' hi hf ha
  obtain ⟨ρc, Sc, S2, hJ, hS0, hk0⟩ := hi.j
  have hS1 : ∀ b, S2 b → S2' b := fun b hb => (hS0 b).2 (.inl hb)
  cases hf with
  | yield h =>
    rename_i m
    have hor := hi.srel.obj _ m _ h htok
    have hpins : ∀ p ∈ pinsOf sh ρ H.length l, ρ2 p.1 = some p.2 := hor.2
    have hm : m = ⟨l, 0, 0, false⟩ := by
      have := hpins (H.length, ⟨l, 0, 0, false⟩) (by simp [pinsOf])
      rw [h] at this; cases this; rfl
    subst hm
    have hxc : ARel ρc ⟨x⟩ args' := ⟨ha.1, fun j a b => hx _ (List.getElem_mem (by simpa using a)) ρ2 ρc _ hpins hJ.ext (ha.2 j a b)⟩
    have hsz : args'.size = ps.size := by have := ha.1; simp at this; omega
    have hy := run_yield (P := P) (args := args') hJ.rec_ hsz
    refine ⟨{ target := .fn (.yield l) #[], args := #[] ++ args' }, by simp [Deferred.ofValue], .inr ⟨l, fn, _, assign, body, by have h9 := hy; simp only [recOf] at h9; simpa [invoke] using h9, round_caller hs0 h0l h01 hT hJ hxc hround ?_⟩⟩
    intro v w2 ρb H2 g2 Sb st hv hst tr hJ2
    have hII : I' H2 g2 ∨ ∃ c, Ix c H2 g2 := by
      rcases hst with ⟨_, h1⟩ | ⟨c, _, h1⟩
      · exact .inl h1
      · exact .inr ⟨c, h1⟩
    have own : ∀ b, LiveOwn ρ2 H1 b → ¬ S2 b ∧ b < w.heap.size ∧ w2.heap[b]? = w.heap[b]? := by
      intro b hb
      have hS : ¬ S2 b := fun h1 => hi.disj b (hS1 b h1) hb
      have hlt : b < w.heap.size := by
        obtain ⟨i, m, o, e1, _, _, _, rfl⟩ := hb
        exact (hi.srel.dom i m e1).2
      refine ⟨hS, hlt, tr.keep b hlt (fun h1 => ?_) (fun h1 => hS ((hJ.leans b).2 (.inr (.inl h1.blk))))⟩
      rcases h1 with h1 | rfl
      · exact hS ((hJ.leans b).2 (.inl h1))
      · exact hS ((hJ.leans b).2 (by simp))
    have hle2 : (shareR sh ρb).le ρ2 := fun i m1 h1 => by
      obtain ⟨hi', m0, h2, rfl⟩ := shareR_some h1
      obtain ⟨m00, h3⟩ := hsh i hi'
      have h4 : ρb i = ρ i := hJ2.ext i (hs0.dom i m00 h3).1
      rw [h4] at h2
      exact hpins (i, { m0 with own := false }) (by simp only [pinsOf, List.mem_cons, List.mem_filterMap]; exact .inr ⟨i, hi', by rw [h2]; rfl⟩)
    have hsr : SRel ρ2 H1 w2 := by
      refine ⟨fun i m1 h1 => ⟨(hi.srel.dom i m1 h1).1, Nat.lt_of_lt_of_le (hi.srel.dom i m1 h1).2 tr.size⟩, fun i m1 o h1 ho => ?_, hi.srel.inj⟩
      have hor1 := hi.srel.obj i m1 o h1 ho
      cases hd : o.dead? with
      | true => cases o <;> first | trivial | cases hd
      | false =>
        have hown : ownedO o = true → ORel ρ2 o m1 w2.heap[m1.blk]? := fun ho2 => by
          have hmo : m1.own = true := by
            cases o with
            | row c es own' => cases own' with
              | true => exact hor1.2.1
              | false => cases ho2
            | map es ck => exact hor1.1
            | iter _ _ _ => exact hor1.1
            | tok _ => cases ho2
            | dead => cases ho2
          rw [(own m1.blk ⟨i, m1, o, h1, ho, hd, hmo, rfl⟩).2.2]
          exact hor1
        rcases hview i o ho hd with ⟨_, rfl⟩ | ⟨hi', hil, c, es, own', hH, rfl⟩ | ho2 | ⟨es, ck, rfl⟩
        · exact hor1
        · obtain ⟨m0, h3⟩ := hsh i hi'
          have h4 : ρb i = some m0 := (hJ2.ext i hil).trans h3
          have h5 : ρ2 i = some { m0 with own := false } := hle2 i _ (by simp only [shareR, if_pos hi', h4, Option.map_some])
          rw [h1] at h5
          cases h5
          obtain ⟨b1, b2, c', e, fr, b3, b4, b5, b6, b7⟩ := hJ2.inv.srel.obj i m0 _ h4 (hI _ _ hII i hi' c es own' hH)
          exact ⟨b1, rfl, c', e, fr, b3, b4, (fun e => Bool.noConfusion e), b6, fun j k1 k2 => (hw i hi' c es own' hH _ (List.getElem_mem k1) ρb _ (b7 j k1 k2)).mono hle2⟩
        · exact hown (by cases o <;> simp_all [ownRow, ownedO])
        · exact hown rfl
    have s2 : ∀ b, (Sb b ∨ LiveBlk ρb H2 b ∨ LiveBlk ρ H b ∨ b = l ∨ Dm = some b) → S2 b ∨ w.heap.size ≤ b := by
      intro b hb
      have viaOwn : LiveOwn ρb H2 b → S2 b ∨ w.heap.size ≤ b := fun h1 => by
        rcases tr.fresh b h1 with h2 | h2
        · exact .inr h2
        · exact .inl ((hJ.leans b).2 (.inr (.inl h2.blk)))
      rcases hb with h1 | ⟨i, m1, o, h1, ho, hd, rfl⟩ | h1 | rfl | h1
      · rcases tr.grow b (.inl h1) with (h2 | rfl) | h2 | h2
        · exact .inl ((hJ.leans b).2 (.inl h2))
        · exact .inl ((hJ.leans b).2 (by simp))
        · exact .inr h2
        · exact .inl ((hJ.leans b).2 (.inr (.inl h2.blk)))
      · cases hoo : ownedO o with
        | true =>
          refine viaOwn ⟨i, m1, o, h1, ho, hd, ?_, rfl⟩
          have hor1 := hJ2.inv.srel.obj i m1 o h1 ho
          cases o with
          | row c es own' => cases own' with
            | true => exact hor1.2.1
            | false => cases hoo
          | map es ck => exact hor1.1
          | iter _ _ _ => exact hor1.1
          | tok _ => cases hoo
          | dead => cases hoo
        | false =>
          obtain ⟨o', ho', hd'⟩ := hold _ _ hII i o ho hd hoo
          have hil : i < H.length := (List.getElem?_eq_some_iff.1 ho').1
          exact .inl ((hJ.leans m1.blk).2 (.inr (.inr (.inl ⟨i, m1, o', (hJ2.ext i hil) ▸ h1, ho', hd', rfl⟩))))
      · exact .inl ((hJ.leans b).2 (.inr (.inr (.inl h1))))
      · exact .inl ((hJ.leans b).2 (by simp))
      · exact .inl ((hJ.leans b).2 (by simp [h1]))
    have hka := hJ.keepAll (w2 := w2) h01 h0l hk0 (fun b hb h3 h4 _ => tr.keep b hb h3 h4)
    refine ⟨ρ2, v, v, H1, (H2, g2, st), fun b => (Sb b ∨ LiveBlk ρb H2 b ∨ LiveBlk ρ H b ∨ b = l ∨ Dm = some b) ∨ b < w1.heap.size, rfl, ?_, ⟨hsr, ⟨ρb, Sb, _, hJ2, fun b => Iff.rfl, hka⟩, fun b hb => ?_, fun b hb hl => ?_⟩, ⟨Nat.le_refl _, fun _ _ => rfl, tr.os, tr.tape, tr.out, tr.size, fun b hb h1 h2 => ?_, fun b hb => .inr hb, fun b hb => ?_⟩, rfl, ?_⟩
    · rw [hv]; exact .bool _
    · rcases hb with (h1 | ⟨i, m1, o, h1, _, _, rfl⟩ | ⟨i, m1, o, h1, _, _, rfl⟩ | rfl | h1) | h1
      · exact hJ2.inv.bnd b h1
      · exact (hJ2.inv.srel.dom i m1 h1).2
      · have := (hs0.dom i m1 h1).2; have := hJ2.size; omega
      · exact (Array.getElem?_eq_some_iff.1 hJ2.rec_).1
      · exact (Array.getElem?_eq_some_iff.1 (hJ2.mark b h1).1).1
      · exact Nat.lt_of_lt_of_le h1 hJ2.size
    · obtain ⟨o1, o2, _⟩ := own b hl
      rcases hb with hb | hb
      · rcases s2 b hb with h1 | h1
        · exact o1 h1
        · omega
      · exact hi.disj b ((hS0 b).2 (.inr hb)) hl
    · refine tr.keep b hb (fun h3 => ?_) (fun h3 => h1 (hS1 _ ((hJ.leans b).2 (.inr (.inl h3.blk)))))
      rcases h3 with h3 | rfl
      · exact h1 (hS1 _ ((hJ.leans b).2 (.inl h3)))
      · exact h1 (hS1 _ ((hJ.leans b).2 (by simp)))
    · rcases hb with hb | hb
      · rcases s2 b hb with h1 | h1
        · exact .inl (hS1 _ h1)
        · exact .inr (.inl h1)
      · exact .inl ((hS0 b).2 (.inr hb))
    · rcases hst with ⟨rfl, h1⟩ | ⟨c, rfl, h1⟩
      · exact .inl ⟨by rw [hv]; rfl, rfl, h1⟩
      · exact .inr ⟨by rw [hv]; rfl, c, rfl, h1⟩
end
inductive HandedO (x : List Value) (Hc : AHeap) : Value → AHeap → Prop
  | row {cs : List Value} {cap : Nat} (h : cs.take x.length = x) (hf : cs.all flat1 = true) : HandedO x Hc (.slice (some ⟨Hc.length, 0, none⟩) x.length cap) (Hc ++ [.row cs 1 true])
  | nil (h : x = [] := by rfl) : HandedO x Hc (.slice none 0 0) Hc
section
variable {γ : Type} {P : Program} {E : Env γ}
theorem WPJ.rangeFuncO {gop : Operand} {ps : Array Tmp} {assign body : Code} {Q : Exit → List Value → AHeap → γ → Prop} {T : List Value} {H : AHeap} {g : γ} {gf : FuncId} {fx cx : List Value} (hg : evalT T gop = .func (.func gf) ⟨fx⟩ ⟨cx⟩) (he : Enters P gf)
    (sh : List Nat) (xs : List (List Value)) {ok : AHeap → Prop} (hit : HitsS P gf fx cx ok xs) (hok : ∀ Hi, Viewed sh H Hi → ok Hi) (hsh : ∀ (ρ : Ren) (w : World), SRel ρ H w → (∀ v', VRel ρ (.func (.func gf) ⟨fx⟩ ⟨cx⟩) v' → ∀ i ∈ sh, ∃ m, ρ i = some m))
    (hfx : ∀ v ∈ fx, Within sh v) (hcx : ∀ v ∈ cx, Within sh v) (hw : ∀ i ∈ sh, ∀ c es own, H[i]? = some (.row c es own) → ∀ v ∈ c, Within sh v)
    (hps : ps.size = 1)
    (I : Nat → AHeap → γ → Prop) (Ix : Code → AHeap → γ → Prop) (h0 : I 0 H g)
    (hI : ∀ H2 g2, ((∃ k, I k H2 g2) ∨ ∃ c, Ix c H2 g2) → (∀ i ∈ sh, ∀ c es own, H[i]? = some (.row c es own) → H2[i]? = some (.row c es own)) ∧ (∀ (i : Nat) (o : AObj), H2[i]? = some o → o.dead? = false → ownedO o = false → ∃ o' : AObj, H[i]? = some o' ∧ o'.dead? = false))
    (round : ∀ k x Hc gc v Hc1, xs[k]? = some x → I k Hc gc → HandedO x Hc v Hc1 → WPJ P E assign (thenQ (WPJ P E body (roundQ (I (k + 1)) Ix)) (fun _ _ _ _ => False)) (putPs T ps.toList [v]) Hc1 gc)
    (done : ∀ Hc gc, I xs.length Hc gc → Q .normal T Hc gc) (stop : ∀ c Hc gc, Ix c Hc gc → WPJ P E c Q T Hc gc) : WPJ P E (.rangeFunc gop ps assign body) Q T H g := by
  intro ρ w S ro Ds ac hi ht hr hm
  refine wpIn_rangeFunc fun fn _ => ?_
  obtain ⟨l, Dm, w1, D0, e1, e2, e3, e4, e5, e6, e7, e8, e9⟩ := enter_loop (P := P) (w := w) (ro := ro) (fun k hk => (hr k hk).2) fn ac.tmps ps assign body
  have hgv := hg ▸ ht.eval gop
  obtain ⟨x', c', hev, hx1, hx2, hc1, hc2⟩ : ∃ x' c', ac.eval gop = .func (.func gf) x' c' ∧ fx.length = x'.size ∧ (∀ (j : Nat) (h : j < fx.length) (h' : j < x'.size), VRel ρ fx[j] x'[j]) ∧ cx.length = c'.size ∧ (∀ (j : Nat) (h : j < cx.length) (h' : j < c'.size), VRel ρ cx[j] c'[j]) := by
    generalize ac.eval gop = fv at hgv
    cases hgv with
    | func a b c d => exact ⟨_, _, rfl, by simpa using a, fun j h h' => b j (by simpa using h) h', by simpa using c, fun j h h' => d j (by simpa using h) h'⟩
  have hshd : ∀ i ∈ sh, ∃ m, ρ i = some m := hsh ρ w hi.srel _ hgv
  have hs1 : SRel ρ H w1 := hi.srel.still (fun b hb => e5 b (by obtain ⟨i, m, o, q1, _, _, rfl⟩ := hb; exact (hi.srel.dom i m q1).2)) e4
  have hll : l < w1.heap.size := (Array.getElem?_eq_some_iff.1 e2).1
  have hJ : LoopJ E ρ H S w1 (recOf fn ac.tmps ps assign body D0) l Dm (H, g, none) (fun b => S b ∨ LiveBlk ρ H b ∨ LiveBlk ρ H b ∨ b = l ∨ Dm = some b) w1 ρ S := {
    inv := ⟨hs1, E.stable _ _ _ _ hi.j (fun b hb => e5 b (hi.bnd b hb)) e4 e6 e7 e8, fun b hb => Nat.lt_of_lt_of_le (hi.bnd b hb) e4, hi.disj⟩
    next := Nat.le_refl _
    ext := fun _ _ => rfl
    os := rfl
    tape := rfl
    out := rfl
    size := Nat.le_refl _
    fresh := fun _ h => .inr h
    grow := fun _ h => .inl h
    keep := fun _ _ _ _ => rfl
    rec_ := e2
    mark := fun D hD => ⟨(e9 D hD).2.2, fun h => by have := hi.bnd D h; have := (e9 D hD).1; omega⟩
    nol := fun h => by have := hi.bnd l h; omega
    leans := fun _ => Iff.rfl }
  have hsv := share_srel hs1 hw hll
  have hle : (shareR sh ρ).le (shareV sh ρ H.length l) := fun i m h => by
    obtain ⟨_, m0, h2, _⟩ := shareR_some h
    have := (hi.srel.dom i m0 h2).1
    unfold shareV Ren.add
    rw [if_neg (by omega)]; exact h
  have hcall := hit _ (loopE2 E ρ H S w1 (recOf fn ac.tmps ps assign body D0) l Dm w.heap.size e4) (fun k x => x.2.2 = none ∧ I k x.1 x.2.1) (fun x => ∃ c, x.2.2 = some c ∧ Ix c x.1 x.2.1) H.length
    (shareH sh H ++ [.tok (pinsOf sh ρ H.length l)]) (H, g, none)
    (hok _ fun i hi' c es own hH => by rw [List.getElem?_append_left (by rw [shareH_len]; exact (List.getElem?_eq_some_iff.1 hH).1)]; exact shareH_row hi' hH)
    (by
      rintro k x hx H1 ⟨Hc, gc, st⟩ i0 cap cs hext hrow hfl htk ⟨hst, hIk⟩
      simp only at hst hIk
      subst hst
      obtain ⟨htok, hview⟩ := view_of_ext hext
      exact CallV.yieldO (len := x.length) (cap := cap) (I' := I (k + 1)) (Ix := Ix) hi.srel e3 e4 ht htok hview hw hshd hps.symm hrow hfl (fun H2 g2 h => (hI H2 g2 (h.imp (fun h => ⟨k + 1, h⟩) id)).1) (fun H2 g2 h => (hI H2 g2 (h.imp (fun h => ⟨k + 1, h⟩) id)).2) (round k x Hc gc _ _ hx hIk (.row htk hfl)))
    (by
      rintro k hx H1 ⟨Hc, gc, st⟩ hext ⟨hst, hIk⟩
      simp only at hst hIk
      subst hst
      obtain ⟨htok, hview⟩ := view_of_ext hext
      exact CallV.yieldN (I' := I (k + 1)) (Ix := Ix) hi.srel e3 e4 ht htok hview hw hshd (by rw [hps]; rfl) (fun v hv => by simp at hv; subst hv; exact .flat rfl) (fun H2 g2 h => (hI H2 g2 (h.imp (fun h => ⟨k + 1, h⟩) id)).1) (fun H2 g2 h => (hI H2 g2 (h.imp (fun h => ⟨k + 1, h⟩) id)).2) (round k [] Hc gc _ _ hx hIk .nil))
    ⟨rfl, h0⟩
  have hinv : Inv (loopE2 E ρ H S w1 (recOf fn ac.tmps ps assign body D0) l Dm w.heap.size e4) (shareV sh ρ H.length l) (shareH sh H ++ [.tok (pinsOf sh ρ H.length l)]) (H, g, none) (fun b => (S b ∨ LiveBlk ρ H b ∨ LiveBlk ρ H b ∨ b = l ∨ Dm = some b) ∨ b < w1.heap.size) w1 := by
    refine ⟨hsv, ⟨ρ, S, _, hJ, fun _ => Iff.rfl, fun _ _ _ _ => rfl⟩, fun b hb => ?_, fun b _ => share_noOwn⟩
    rcases hb with (h1 | ⟨i, m1, o, h1, _, _, rfl⟩ | ⟨i, m1, o, h1, _, _, rfl⟩ | rfl | h1) | h1
    · have := hi.bnd b h1; omega
    · exact (hs1.dom i m1 h1).2
    · exact (hs1.dom i m1 h1).2
    · exact hll
    · exact (Array.getElem?_eq_some_iff.1 (e9 b h1).2.2).1
    · exact h1
  have hargs : ARel (shareV sh ρ H.length l) ⟨fx ++ ([.func (.yield H.length) #[] #[]] ++ cx)⟩ (x' ++ #[.func (.yield l) #[] #[]] ++ c') := by
    have a1 : ARel (shareV sh ρ H.length l) ⟨fx⟩ x' := ⟨by simpa using hx1, fun j a b => (hfx _ (List.getElem_mem (by simpa using a)) ρ _ (hx2 j (by simpa using a) b)).mono hle⟩
    have a2 : ARel (shareV sh ρ H.length l) ⟨cx⟩ c' := ⟨by simpa using hc1, fun j a b => (hcx _ (List.getElem_mem (by simpa using a)) ρ _ (hc2 j (by simpa using a) b)).mono hle⟩
    have a3 : ARel (shareV sh ρ H.length l) ⟨[.func (.yield H.length) #[] #[]]⟩ #[.func (.yield l) #[] #[]] := ⟨rfl, fun j a b => by
      have : j = 0 := by simp at a; omega
      subst this
      exact .yield (m := ⟨l, 0, 0, false⟩) (Ren.add_same _ _ _)⟩
    have := (a1.append a3).append a2
    simpa [List.append_assoc] using this
  have hcr := hcall _ w1 _ _ hinv hargs
  refine ⟨l, _, w1, { target := .fn (.func gf) c', args := x' ++ #[.func (.yield l) #[] #[]] }, w1, gf, x' ++ #[.func (.yield l) #[] #[]] ++ c', w1, e1, ?_, fun _ _ => trivial, by simp [invoke, he _ _], fun h => by simp [Wr, Fence.wide] at h, ?_⟩
  · simp only [resolve, hev]
    simp [go_sem]
  · refine callsIn_Wr.2 (hcr.mono ?_)
    rintro e w3 ⟨ρ', v, v', H', ⟨Hc, gc, st⟩, S', rfl, _, hi3, _, rfl, hend⟩
    obtain ⟨ρc, Sc, _, hJ3, _, hk3⟩ := hi3.j
    have hend' := run_endLoop (P := P) hJ3.rec_ (by cases st <;> simp [recOf])
    refine ⟨_, _, hend', ?_⟩
    have hno : ∀ b, b < w.heap.size → b ≠ l := fun b hb e => by omega
    have hput : ∀ o b, b ≠ l → (w3.putObj l o).heap[b]? = w3.heap[b]? := fun o b hb => World.putObj_heap_other hb
    have hic := hJ3.inv.putObj (o' := .loop { recOf fn ac.tmps ps assign body D0 st with state := .exhausted }) hJ3.nol hJ3.rec_ (fun _ _ _ e => by cases e) (fun _ _ e => by cases e)
    have trc : Trans ρ H S w ρc Hc Sc (w3.putObj l (.loop { recOf fn ac.tmps ps assign body D0 st with state := .exhausted })) := {
      next := hJ3.next
      ext := hJ3.ext
      os := hJ3.os.trans e6
      tape := hJ3.tape.trans e7
      out := hJ3.out.trans e8
      size := by have := hJ3.size; simp; omega
      keep := fun b hb h1 h2 => by
        rw [hput _ b (hno b hb)]
        exact (hk3 b hb h1 h2).trans (e5 b hb)
      fresh := fun b hb => by
        rcases hJ3.fresh b hb with h1 | h1
        · exact .inl (by omega)
        · exact .inr h1
      grow := fun b hb => by
        rcases hJ3.grow b hb with h1 | h1 | h1
        · exact .inl h1
        · exact .inr (.inl (by omega))
        · exact .inr (.inr h1) }
    have hmk := hm.trans hi.srel trc
    have hDs : ∀ D ∈ Ds, D < w.heap.size := fun D hD => (Array.getElem?_eq_some_iff.1 (hm.at_ D hD).2).1
    have hmk2 : Marks (Dm.toList.map (fun D => ({ target := .collected D, args := #[] } : Deferred)) ++ ac.defers) (Dm.toList ++ Ds) Sc (w3.putObj l (.loop { recOf fn ac.tmps ps assign body D0 st with state := .exhausted })) := by
      refine ⟨by rw [List.map_append, hm.eq], ?_, fun D hD => ?_⟩
      · cases Dm with
        | none => exact hm.nodup
        | some D => exact List.nodup_cons.2 ⟨fun h => by have := hDs D h; have := (e9 D rfl).1; omega, hm.nodup⟩
      · rcases List.mem_append.1 hD with h1 | h1
        · have hDm : Dm = some D := by simpa using h1
          exact ⟨(hJ3.mark D hDm).2, (hput _ D (e9 D hDm).2.1).trans (hJ3.mark D hDm).1⟩
        · exact hmk.at_ D h1
    have hnew : ∀ D ∈ Dm.toList ++ Ds, D ∈ Ds ∨ w.heap.size ≤ D := fun D hD => by
      rcases List.mem_append.1 hD with h1 | h1
      · exact .inr (e9 D (by simpa using h1)).1
      · exact .inl h1
    have htc : TRel ρc T ac.tmps := ht.mono (trc.le hi.srel)
    rcases hend with ⟨hst, hIn⟩ | ⟨c, hst, hIx⟩
    · simp only at hst hIn
      subst hst
      exact ⟨ρc, T, Hc, gc, Sc, _, hic, htc, trc, ⟨hmk2, hnew⟩, done Hc gc hIn⟩
    · simp only at hst hIx
      subst hst
      exact wpIn_mono (stop c Hc gc hIx ρc _ Sc ro _ { ac with defers := Dm.toList.map (fun D => ({ target := .collected D, args := #[] } : Deferred)) ++ ac.defers } hic htc (hr.trans hi.srel trc) hmk2) fun e a w' hp => hp.from trc hnew
end
end Go.Abs
namespace Go.Abs
open Go
section
variable {P : Program} {dst : Option Tmp} {ty : TypeId} {ps : String} {af : Array Edge} {gd : Option (Nat × Bool)} {T : List Value} {H : AHeap}
theorem runs_sliceArr {t : TypeId} {x hi : Operand} {e : TypeId} {len n : Nat} {z : Value} {b : Nat} {d' : TypeDesc} {n' : Nat} {z' : Value} {b' : Nat} {i o : Nat} {k : IntKind} {j : Int} {cells : List Value} {es : Nat} {own : Bool}
    (ht : Ty P t (.array len e) n z b) (he : Ty P e d' n' z' b') (hx : evalT T x = .pointer (some ⟨i, o, none⟩)) (hh : evalT T hi = .int k j) (h0 : 0 ≤ j) (h1 : j ≤ len) (hr : H[i]? = some (.row cells es own)) :
    Runs P ⟨dst, .slice t x none (some hi) none, ty, ps, af, gd⟩ (.slice (some ⟨H.length, o, none⟩) j.toNat j.toNat) (H.set i .dead ++ [.row cells es false]) T H := by
  intro ρ w ac hs hT
  obtain ⟨m, hm, hv⟩ := rel_ptr (hx ▸ hT.eval x)
  have hj := rel_int (hh ▸ hT.eval hi)
  have hb : 0 ≤ j ∧ j ≤ (len : Int) := ⟨h0, h1⟩
  have hor := hs.obj i m _ hm hr
  have hlt := (hs.dom i m hm).2
  have hlen : (H.set i .dead).length = H.length := List.length_set
  have hs' := hs.kill i
  have hor' : ORel ρ (.row cells es false) { m with own := false } w.heap[({ m with own := false } : Img).blk]? := by
    obtain ⟨b1, b2, c, e, fr, b3, b4, b5, b6, b7⟩ := hor
    exact ⟨b1, rfl, c, e, fr, b3, b4, (fun e => Bool.noConfusion e), b6, b7⟩
  have hno : ¬ LiveOwn ρ (H.set i .dead) ({ m with own := false } : Img).blk := by
    rintro ⟨i', m', o', q1, q2, q3, q4, q5⟩
    rw [List.getElem?_set] at q2
    split at q2
    · split at q2
      · cases q2; cases q3
      · cases q2
    · rename_i hne
      exact hne (hs.inj i' i m' m o' _ q1 hm q2 hr q3 rfl q4 q5).symm
  have ha := hs'.aliasOf { m with own := false } (.row cells es false) rfl hlt hor' hno
  rw [hlen] at ha
  refine ⟨.slice (some ⟨m.blk, o, none⟩) j.toNat len, w, ρ.add H.length { m with own := false }, .inl ?_, .slice (m := { m with own := false }) (Ren.add_same _ _ _) (by omega) (fun e => Bool.noConfusion e), ha, ?_⟩
  · simp only [execOp, Instr.sliceAt, Instr.sureAddr, hv, ht.und w, Sem.run_bind, Sem.run_pure, Result.andThen_ok, Option.map_some, Option.map_none, Instr.sliceBounds, Instr.sliceBound, hj, asIntOf, if_pos hb, he.sizeOf w,
      Nat.zero_mul, addr_add, Nat.add_zero, ite_self, Nat.sub_zero]
  · refine ⟨by simp, fun k hk => by unfold Ren.add; rw [if_neg (by omega)], rfl, rfl, rfl, Nat.le_refl _, fun _ _ _ => rfl, fun c hc => ?_⟩
    have h9 := alias_own hs' { m with own := false } (.row cells es false) rfl (b := c) (by rw [hlen]; exact hc)
    exact .inr h9.unkill
end
section
variable {γ : Type} {P : Program} {E : Env γ} {T : List Value} {H : AHeap} {g : γ} {R : List Value → AHeap → γ → Prop} {ops : Array Oper} {dst : Option Tmp} {ty : TypeId} {ps : String} {af : Array Edge} {rest : List Oper}
theorem st_sliceArr {t : TypeId} {x hi : Operand} {e : TypeId} {len n : Nat} {z : Value} {b : Nat} {d' : TypeDesc} {n' : Nat} {z' : Value} {b' : Nat} {i o : Nat} {kd : IntKind} {j : Int} {cells : List Value} {es : Nat} {own : Bool} [ht : TyC P t (.array len e) n z b] [he : TyC P e d' n' z' b']
    (hx : evalT T x = .pointer (some ⟨i, o, none⟩)) (hh : evalT T hi = .int kd j) (h0 : 0 ≤ j ∧ j ≤ len) (hr : H[i]? = some (.row cells es own)) (k : OpsJ P E ops R rest (putT T dst (.slice (some ⟨H.length, o, none⟩) j.toNat j.toNat)) (H.set i .dead ++ [.row cells es false]) g) :
    OpsJ P E ops R (⟨dst, .slice t x none (some hi) none, ty, ps, af, none⟩ :: rest) T H g := OpsJ.step (runs_sliceArr ht.ty he.ty hx hh h0.1 h0.2 hr) rfl k
theorem mj_callVP {mm : Nat} {R : List Value → AHeap → Prop} {x : Operand} {xs : Array Operand} {at_ : Array TypeId} {fv : Value} {args : List Value} {X : Value} (hx : evalT T x = fv := by first | rfl | (simp only [evalL, evalT, getT, constT]; rfl)) (ha : evalL T xs.toList = args := by first | rfl | (simp only [evalL, evalT, getT, constT]; rfl))
    (h : CallV P trivE fv args (fun v H' g' => v = X ∧ H' = H ∧ g' = ()) H ()) (k : MonoJ P ops R mm rest (putT T dst X) H) : MonoJ P ops R (mm + 1) (⟨dst, .call { callee := .value x, args := xs, argTypes := at_ }, ty, ps, af, none⟩ :: rest) T H :=
  ⟨X, [], ⟨rfl, (OpJ.callV hx ha h).mono fun _ _ _ h => ⟨h.1, by rw [h.2.1, List.append_nil]⟩⟩, by rw [List.append_nil]; exact k⟩
end
end Go.Abs
namespace Go.Abs
open Go
section
variable {γ : Type} {P : Program} {E : Env γ} {c : Code} {Q : Exit → List Value → AHeap → γ → Prop} {T : List Value} {H : AHeap} {g : γ}
def killQ {γ : Type} (i : Nat) (Q : Exit → List Value → AHeap → γ → Prop) : Exit → List Value → AHeap → γ → Prop := fun e T H g => Q e T (H.set i .dead) g
theorem WPJ.killPost (i : Nat) (h : WPJ P E c (killQ i Q) T H g) : WPJ P E c Q T H g := by
  intro ρ w S ro Ds ac hi ht hr hm
  refine wpIn_mono (h ρ w S ro Ds ac hi ht hr hm) fun e ac' w' hp => ?_
  obtain ⟨ρ', T', H', g', S', Ds', h1, h2, tr, h4, h5⟩ := hp
  have hl : (H'.set i .dead).length = H'.length := List.length_set
  exact ⟨ρ', T', H'.set i .dead, g', S', Ds', ⟨h1.srel.kill i, h1.j, h1.bnd, fun b hb hl => h1.disj b hb hl.unkill⟩, h2, ⟨by rw [hl]; exact tr.next, fun j hj => tr.ext j hj, tr.os, tr.tape, tr.out, tr.size, tr.keep, fun b hb => tr.fresh b hb.unkill, tr.grow⟩, h4, h5⟩
theorem WPJ.realias {p i o : Nat} {cells : List Value} {es : Nat} {own : Bool} (hp : T[p]? = some (.pointer (some ⟨i, o, none⟩))) (hr : H[i]? = some (.row cells es own))
    (h : WPJ P E c Q (putT T (some p) (.pointer (some ⟨H.length, o, none⟩))) (H.set i .dead ++ [.row cells es false]) g) : WPJ P E c Q T H g := by
  intro ρ w S ro Ds ac hi ht hro hm
  have hs := hi.srel
  obtain ⟨hpl, hpe⟩ := List.getElem?_eq_some_iff.1 hp
  have hsz : T.length = ac.tmps.size := ht.1
  have hv0 : VRel ρ (.pointer (some ⟨i, o, none⟩)) ac.tmps[p] := by
    have := ht.2 p hpl (by omega)
    rw [← hpe]; exact this
  obtain ⟨m, hmi, hv⟩ := rel_ptr hv0
  have hor := hs.obj i m _ hmi hr
  have hlt := (hs.dom i m hmi).2
  have hlen : (H.set i .dead).length = H.length := List.length_set
  have hs' := hs.kill i
  have hor' : ORel ρ (.row cells es false) { m with own := false } w.heap[({ m with own := false } : Img).blk]? := by
    obtain ⟨b1, b2, c, e, fr, b3, b4, b5, b6, b7⟩ := hor
    exact ⟨b1, rfl, c, e, fr, b3, b4, (fun e => Bool.noConfusion e), b6, b7⟩
  have hno : ¬ LiveOwn ρ (H.set i .dead) ({ m with own := false } : Img).blk := by
    rintro ⟨i', m', o', q1, q2, q3, q4, q5⟩
    rw [List.getElem?_set] at q2
    split at q2
    · split at q2
      · cases q2; cases q3
      · cases q2
    · rename_i hne
      exact hne (hs.inj i' i m' m o' _ q1 hmi q2 hr q3 rfl q4 q5).symm
  have ha := hs'.aliasOf { m with own := false } (.row cells es false) rfl hlt hor' hno
  rw [hlen] at ha
  have hown : ∀ b, LiveOwn (ρ.add H.length { m with own := false }) (H.set i .dead ++ [.row cells es false]) b → LiveOwn ρ H b := fun b hb => by
    have h9 := alias_own hs' { m with own := false } (.row cells es false) rfl (b := b) (by rw [hlen]; exact hb)
    exact h9.unkill
  have tr : Trans ρ H S w (ρ.add H.length { m with own := false }) (H.set i .dead ++ [.row cells es false]) S w :=
    ⟨by simp, fun k hk => by unfold Ren.add; rw [if_neg (by omega)], rfl, rfl, rfl, Nat.le_refl _, fun _ _ _ _ => rfl, fun b hb => .inr (hown b hb), fun b hb => .inl hb⟩
  have hle := tr.le hs
  have htr : TRel (ρ.add H.length { m with own := false }) (putT T (some p) (.pointer (some ⟨H.length, o, none⟩))) ac.tmps := by
    refine ⟨by simp only [putT]; simpa using hsz, fun j h1 h2 => ?_⟩
    simp only [putT] at h1 ⊢
    simp only [List.getElem_toArray] at *
    rw [List.getElem_set]
    split
    · rename_i hj; subst hj
      rw [hv]
      exact .ptr (m := { m with own := false }) (Ren.add_same _ _ _)
    · exact (ht.2 j (by simpa using h1) h2).mono hle
  refine wpIn_mono (h _ w S ro Ds ac ⟨ha, hi.j, hi.bnd, fun b hb hl => hi.disj b hb (hown b hl)⟩ htr hro hm) fun e ac' w' hp => hp.from tr fun D hD => .inl hD
end
section
variable {P : Program} {dst : Option Tmp} {ty : TypeId} {ps : String} {af : Array Edge} {gd : Option (Nat × Bool)} {T : List Value} {H : AHeap}
theorem runs_sliceAll {t : TypeId} {x : Operand} {e : TypeId} {len n : Nat} {z : Value} {b : Nat} {d' : TypeDesc} {n' : Nat} {z' : Value} {b' : Nat} {i o : Nat} {cells : List Value} {es : Nat}
    (ht : Ty P t (.array len e) n z b) (he : Ty P e d' n' z' b') (hx : evalT T x = .pointer (some ⟨i, o, none⟩)) (hr : H[i]? = some (.row cells es false)) :
    Runs P ⟨dst, .slice t x none none none, ty, ps, af, gd⟩ (.slice (some ⟨i, o, none⟩) len len) H T H :=
  Runs.pure fun ρ w ac hs hT => by
    obtain ⟨m, hm, hv⟩ := rel_ptr (hx ▸ hT.eval x)
    have hown := (hs.row hm hr).2.1
    refine ⟨.slice (some ⟨m.blk, o, none⟩) len len, ?_, .slice hm (Nat.le_refl _) fun e => by rw [hown] at e; cases e⟩
    simp only [execOp, Instr.sliceAt, Instr.sureAddr, hv, ht.und w, Sem.run_bind, Sem.run_pure, Result.andThen_ok, Option.map_none, Instr.sliceBounds, he.sizeOf w,
      Nat.zero_mul, addr_add, Nat.add_zero, ite_self, Nat.sub_zero]
end
section
variable {P : Program} {T : List Value} {H : AHeap} {R : List Value → AHeap → Prop} {ops : Array Oper} {dst : Option Tmp} {ty : TypeId} {ps : String} {af : Array Edge} {rest : List Oper} {mm : Nat}
theorem mj_sliceAll {t : TypeId} {x : Operand} {e : TypeId} {len n : Nat} {z : Value} {b : Nat} {d' : TypeDesc} {n' : Nat} {z' : Value} {b' : Nat} {i o : Nat} {cells : List Value} {es : Nat} [ht : TyC P t (.array len e) n z b] [he : TyC P e d' n' z' b']
    (hx : evalT T x = .pointer (some ⟨i, o, none⟩)) (hr : H[i]? = some (.row cells es false)) (k : MonoJ P ops R mm rest (putT T dst (.slice (some ⟨i, o, none⟩) len len)) H) :
    MonoJ P ops R (mm + 1) (⟨dst, .slice t x none none none, ty, ps, af, none⟩ :: rest) T H := mj_step (runs_sliceAll ht.ty he.ty hx hr) rfl k
theorem mj_lookup {t kt et : TypeId} {x y : Operand} {n nn : Nat} {z : Value} {b : Nat} {d : TypeDesc} {n2 : Nat} {z2 : Value} {b2 : Nat} {i : Nat} {ky : List Int} {l : List (List Int × Value)} [ht : TyC P t (.map kt et) nn z b] [hk : IntsC P kt n] [he : TyC P et d n2 z2 b2]
    (hx : evalT T x = .map (some i)) (hy : evalT T y = .agg ⟨ky.map cellI⟩) (hkl : ky.length = n) (hl : ∀ x ∈ l, x.1.length = n) (ho : H[i]? = some (mapI l)) (k : MonoJ P ops R mm rest (putT T dst (atK l ky (constT z2))) H) :
    MonoJ P ops R (mm + 1) (⟨dst, .lookup t x y false, ty, ps, af, none⟩ :: rest) T H := mj_step (runs_lookup ht.ty hk he.ty hx hy hkl hl ho) rfl k
theorem mj_storeSame {t : TypeId} {x y : Operand} {i o : Nat} {d : TypeDesc} {n : Nat} {z : Value} {b : Nat} {cells : List Value} {es : Nat} {v : Value} [ht : TyC P t d n z b] (hx : evalT T x = .pointer (some ⟨i, o, none⟩)) (hy : evalT T y = v)
    (hok : (cellsL v).all cellOk = true) (hn : (cellsL v).length = n) (hi : H[i]? = some (.row cells es true)) (ho : o + n ≤ cells.length) (hs : splice cells o (cellsL v) = cells) (k : MonoJ P ops R mm rest (putT T dst undef) H) :
    MonoJ P ops R (mm + 1) (⟨dst, .store t x y, ty, ps, af, none⟩ :: rest) T H := by
  have h := runs_store (dst := dst) (ty := ty) (ps := ps) (af := af) (gd := none) ht.ty hx hy rfl hok hn hi ho hs
  rw [set_same_obj hi] at h
  exact mj_step h rfl k
end
end Go.Abs
namespace Go.Abs
open Go
theorem run_equal_intsD {P : Program} {t e : TypeId} {n n1 : Nat} {z z' : Value} {b b' : Nat} (ht : Ty P t (.array n e) n1 z b) (he : Ty P e (.int .i64) 1 z' b') (d : Nat) (xs ys : List Int) (hx : xs.length = n) (hy : ys.length = n) (w : World) :
    (Op.equalIn (d + 1 + 1) t (.agg (xs.map cellI).toArray) (.agg (ys.map cellI).toArray)).run P w = .ok (decide (xs = ys)) w := by
  rw [← all_range_ints xs ys (by omega), hx, List.range_eq_range', Op.equalIn]
  simp only [Sem.run_bind, ht.und w, Result.andThen_ok, he.sizeOf w, Std.Legacy.Range.forIn_eq_forIn_range', Std.Legacy.Range.size, Nat.sub_zero, Nat.add_sub_cancel, Nat.div_one]
  have hl : ∀ i ∈ List.range' 0 n 1, i < n := fun i hi => by simpa using (List.mem_range'_1.1 hi).2
  generalize List.range' 0 n 1 = l at hl ⊢
  induction l with
  | nil => simp
  | cons i l ih =>
    have hi : i < n := hl i (by simp)
    have px : (part e (xs.map cellI).toArray (i * 1)).run P w = .ok (cellI (xs.getD i 0)) w := by rw [Nat.mul_one]; exact part_int he xs i (by omega) w
    have py : (part e (ys.map cellI).toArray (i * 1)).run P w = .ok (cellI (ys.getD i 0)) w := by rw [Nat.mul_one]; exact part_int he ys i (by omega) w
    have pe : (Op.equalIn (d + 1) e (cellI (xs.getD i 0)) (cellI (ys.getD i 0))).run P w = .ok (xs.getD i 0 == ys.getD i 0) w := by
      rw [Op.equalIn, Sem.run_bind, he.und w]
      rfl
    simp only [List.forIn_cons, Sem.run_bind, px, py, pe, Result.andThen_ok, List.all_cons]
    cases hb : (xs.getD i 0 == ys.getD i 0)
    · simp
    · simp only [Bool.not_true, Bool.false_eq_true, if_false, Sem.run_pure, Result.andThen_ok, Bool.true_and]
      exact ih fun j hj => hl j (by simp [hj])
theorem arel_ints (l : List Int) : ARel (fun _ => none) (l.map cellI).toArray (l.map cellI).toArray := ⟨rfl, fun j h1 h2 => by simp; exact .int _ _⟩
theorem part_ints {P : Program} {t e : TypeId} {n : Nat} {z : Value} {b : Nat} (ht : Ty P t (.array n e) n z b) (x : Int) (xs : List Int) (hx : xs.length = n) (w : World) :
    (part t ((x :: xs).map cellI).toArray 1).run P w = .ok (.agg (xs.map cellI).toArray) w := by
  obtain ⟨v, h1, h2⟩ := run_part_rel (ρ := fun _ => none) (w := w) (cs := ((x :: xs).map cellI).toArray) (cs' := ((x :: xs).map cellI).toArray) (off := 1) (v := .agg ⟨xs.map cellI⟩) ht (arel_ints (x :: xs)) (by simp [aggD, List.take_of_length_le, hx])
  rw [h1, rel_ints h2]
class EqC (P : Program) (t : TypeId) (n : outParam Nat) : Prop where
  eq : ∀ (xs ys : List Int), xs.length = n → ys.length = n → ∀ w, (Op.equalIn 10000 t (.agg (xs.map cellI).toArray) (.agg (ys.map cellI).toArray)).run P w = .ok (decide (xs = ys)) w
  guard : P.eqGuardType P.depth t = false
theorem EqC.intArr {P : Program} {t t1 e1 : TypeId} {f0 f1 : Field} {n n1 : Nat} {z z1 : Value} {b b1 : Nat} (ht : Ty P t (.struct ⟨[f0, f1]⟩) n1 z b) (ht1 : Ty P t1 (.array n e1) n z1 b1)
    (hc : (f0.name != "_" && f1.name != "_" && isI64 P f0.type && f1.type == t1 && isI64 P e1 && f0.offset == 0 && f1.offset == 1 && !P.stoodInHeld t && !P.eqGuardType P.depth t) = true) : EqC P t (n + 1) := by
  simp only [Bool.and_eq_true, Bool.not_eq_true', beq_iff_eq, bne_iff_ne, ne_eq] at hc
  obtain ⟨⟨⟨⟨⟨⟨⟨⟨h0, h1⟩, h2⟩, h3⟩, h4⟩, h5⟩, h6⟩, h7⟩, h8⟩ := hc
  obtain ⟨z2, b2, he0⟩ := isI64_ty h2
  obtain ⟨z3, b3, he1⟩ := isI64_ty h4
  have hu : P.underlying t = some (.struct ⟨[f0, f1]⟩) := ht.1
  have hf : P.fieldsOf t = ⟨[f0, f1]⟩ := by simp only [Program.fieldsOf, hu]
  refine ⟨fun xs ys hx hy w => ?_, h8⟩
  obtain ⟨x, xs, rfl⟩ : ∃ x l, xs = x :: l := by cases xs with | nil => cases hx | cons x l => exact ⟨x, l, rfl⟩
  obtain ⟨y, ys, rfl⟩ : ∃ x l, ys = x :: l := by cases ys with | nil => cases hy | cons x l => exact ⟨x, l, rfl⟩
  have hx' : xs.length = n := by simpa using hx
  have hy' : ys.length = n := by simpa using hy
  have pe : (Op.equalIn 9999 f0.type (cellI x) (cellI y)).run P w = .ok (x == y) w := by
    show (Op.equalIn (9998 + 1) f0.type _ _).run P w = _
    rw [Op.equalIn, Sem.run_bind, he0.und w]
    rfl
  have px := part_int he0 (x :: xs) 0 (by simp) w
  have py := part_int he0 (y :: ys) 0 (by simp) w
  rw [show (x :: xs).getD 0 0 = x from rfl] at px
  rw [show (y :: ys).getD 0 0 = y from rfl] at py
  have qx := part_ints (e := e1) ht1 x xs hx' w
  have qy := part_ints (e := e1) ht1 y ys hy' w
  have qe : (Op.equalIn 9999 t1 (.agg (xs.map cellI).toArray) (.agg (ys.map cellI).toArray)).run P w = .ok (decide (xs = ys)) w := run_equal_intsD ht1 he1 9997 xs ys hx' hy' w
  rw [run_equalIn_struct w 9999 t _ _ (by rw [hf]; exact hu) h7, hf]
  simp only [Op.eqFields, if_pos h0, if_pos h1, Sem.run_bind, h3, h5, h6, px, py, pe, Result.andThen_ok]
  cases hb : x == y
  · simp; exact fun e => by simp [e] at hb
  · simp only [Bool.not_true, Bool.false_eq_true, if_false, Sem.run_bind, qx, qy, qe, Result.andThen_ok]
    have : x = y := by simpa using hb
    subst this
    cases hd : decide (xs = ys) <;> simp at hd ⊢ <;> exact hd
section
variable {γ : Type} {P : Program} {E : Env γ} {T : List Value} {H : AHeap} {g : γ} {R : List Value → AHeap → γ → Prop} {ops : Array Oper} {dst : Option Tmp} {ty : TypeId} {ps : String} {af : Array Edge} {rest : List Oper}
theorem runs_eqC {gd : Option (Nat × Bool)} {xt yt : TypeId} {x y : Operand} {n : Nat} {xs ys : List Int} [ht : EqC P xt n] (hx : evalT T x = .agg ⟨xs.map cellI⟩) (hy : evalT T y = .agg ⟨ys.map cellI⟩) (hxl : xs.length = n) (hyl : ys.length = n) :
    Runs P ⟨dst, .binOp .eql xt x y yt, ty, ps, af, gd⟩ (.bool (decide (xs = ys))) H T H :=
  runs_bin hx hy fun ρ w x' y' h1 h2 _ => by
    rw [rel_ints h1, rel_ints h2]
    exact ⟨.bool (decide (xs = ys)), by rw [Sem.run_bind, run_eqGuard_agg w .eql xt x y _ _ ht.guard, Result.andThen_ok, run_eql_struct, ht.eq xs ys hxl hyl]; rfl, .bool _⟩
theorem st_eqC {xt yt : TypeId} {x y : Operand} {n : Nat} {xs ys : List Int} [ht : EqC P xt n] (hx : evalT T x = .agg ⟨xs.map cellI⟩) (hy : evalT T y = .agg ⟨ys.map cellI⟩) (hxl : xs.length = n) (hyl : ys.length = n) (k : OpsJ P E ops R rest (putT T dst (.bool (decide (xs = ys)))) H g) :
    OpsJ P E ops R (⟨dst, .binOp .eql xt x y yt, ty, ps, af, none⟩ :: rest) T H g := OpsJ.step (runs_eqC hx hy hxl hyl) rfl k
end
end Go.Abs
namespace Go.Abs
open Go
section
variable {γ : Type} {P : Program} {E : Env γ} {T : List Value} {H : AHeap} {g : γ} {R : List Value → AHeap → γ → Prop} {ops : Array Oper} {dst : Option Tmp} {ty : TypeId} {ps : String} {af : Array Edge} {rest : List Oper}
theorem st_appendCopyE {α : Type} {enc : α → List Value} {w : Nat} {l : List α} {Hx : AHeap} {s x : Operand} {t e : TypeId} {n : Nat} {z : Value} {b : Nat} {d' : TypeDesc} {z' : Value} {b' : Nat} {v : Value} {i0 cp : Nat} {cells0 : List Value} [ht : TyC P t (.slice e) n z b] [he : TyC P e d' w z' b']
    (hr : RdS Hx v w (l.map enc)) (hne : l ≠ []) (hext : Ext Hx H) (hz' : (cellsL z').length = w) (hok : ∀ a, (enc a).all cellOk = true) (hs_ : evalT T s = .slice (some ⟨i0, 0, none⟩) 0 cp) (hi0 : H[i0]? = some (.row cells0 w true)) (hx : evalT T x = v) (hn : l.length ≤ 1000000) (hb : b' ≤ 1000)
    (k : OpsJ P E ops R rest (putT T dst (.slice (some ⟨H.length, 0, none⟩) l.length l.length)) (H.set i0 .dead ++ [.row (l.map enc).flatten w true]) g) : OpsJ P E ops R (⟨dst, .call { callee := .builtin .append, args := #[s, x], argTypes := #[t, t] }, ty, ps, af, none⟩ :: rest) T H g := by
  obtain ⟨_, h⟩ := hr
  have hm : maxLen = 9223372036854775807 := by decide
  rcases h with ⟨i, o, c, row, es', own, a, b1, b2, b3⟩ | ⟨h, _⟩
  · rw [List.length_map] at a b2 b3
    have hlb : (0 + l.length) * b' ≤ 140737488355328 := by
      have := Nat.mul_le_mul hn hb
      rw [Nat.zero_add]
      omega
    refine st_appendOwn hz' hs_ (hx.trans a) hi0 (by omega) (hext.get b1) b2 b3 ?_ ⟨by rw [hm]; omega, hlb⟩ ?_
    · rw [List.all_eq_true]
      intro y hy
      obtain ⟨q, hq, hyq⟩ := List.mem_flatten.1 hy
      obtain ⟨p, _, rfl⟩ := List.mem_map.1 hq
      exact List.all_eq_true.1 (hok p) y hyq
    · simpa using k
  · exact absurd (List.map_eq_nil_iff.1 h) hne
end
end Go.Abs
namespace Go.Proofs.Ytjbiidlmpaibkaa
open Go Go.Abs Go.Proofs
abbrev encE (es : List Int) : List Value := es.map (.int .i64)
abbrev encI (l : List Int) : List (List Value) := l.map fun x => [.int .i64 x]
theorem encE_ok (es : List Int) : (encE es).all cellOk = true := by simp [encE, cellOk]
theorem min_if (a b : Int) : (if b < a then b else a) = min a b := by omega
theorem max_if (a b : Int) : (if b > a then b else a) = max a b := by omega
theorem encE_flat (es : List Int) : (encE es).all flat1 = true := List.all_eq_true.2 fun x hx => by obtain ⟨n, _, rfl⟩ := List.mem_map.1 hx; rfl
def rng (r : Int × Int) : List Int := (List.range (r.2 - r.1 + 1).toNat).map fun (k : Nat) => r.1 + k
def gen : List (Int × Int) → List (List Int)
  | [] => [[]]
  | r :: rs => (rng r).flatMap fun n => (gen rs).map (n :: ·)
theorem rng_len (r : Int × Int) : (rng r).length = (r.2 - r.1 + 1).toNat := by simp [rng]
theorem rng_get (r : Int × Int) {j : Nat} (h : j < (r.2 - r.1 + 1).toNat) : (rng r)[j]? = some (r.1 + j) := by simp [rng, h]
theorem flatMap_len {α β : Type} (f : α → List β) (L : Nat) : ∀ (l : List α), (∀ a ∈ l, (f a).length = L) → (l.flatMap f).length = l.length * L
  | [], _ => by simp
  | a :: l, h => by
    rw [List.flatMap_cons, List.length_append, h a (by simp), flatMap_len f L l fun x hx => h x (by simp [hx]), List.length_cons, Nat.add_mul]
    omega
theorem flatMap_get {α β : Type} (f : α → List β) (L : Nat) : ∀ (l : List α), (∀ a ∈ l, (f a).length = L) → ∀ (j i : Nat) (a : α) (b : β), l[j]? = some a → (f a)[i]? = some b → (l.flatMap f)[j * L + i]? = some b
  | [], _, j, i, a, b, h1, _ => by simp at h1
  | x :: l, h, 0, i, a, b, h1, h2 => by
    simp only [List.getElem?_cons_zero, Option.some.injEq] at h1
    subst h1
    rw [List.flatMap_cons, Nat.zero_mul, Nat.zero_add, List.getElem?_append_left (List.getElem?_eq_some_iff.1 h2).1]
    exact h2
  | x :: l, h, j + 1, i, a, b, h1, h2 => by
    have hx := h x (by simp)
    rw [List.flatMap_cons, List.getElem?_append_right (by rw [hx, Nat.add_mul]; omega), hx]
    have := flatMap_get f L l (fun y hy => h y (by simp [hy])) j i a b (by simpa using h1) h2
    rw [← this]
    congr 1
    rw [Nat.add_mul]; omega
theorem gen_len_cons (r : Int × Int) (rs : List (Int × Int)) : (gen (r :: rs)).length = (r.2 - r.1 + 1).toNat * (gen rs).length := by
  rw [gen, flatMap_len _ (gen rs).length _ (fun a _ => by simp), rng_len]
theorem gen_get_cons {r : Int × Int} {rs : List (Int × Int)} {j i : Nat} {s : List Int} (hj : j < (r.2 - r.1 + 1).toNat) (hi : (gen rs)[i]? = some s) : (gen (r :: rs))[j * (gen rs).length + i]? = some ((r.1 + j) :: s) := by
  rw [gen]
  exact flatMap_get _ (gen rs).length _ (fun a _ => by simp) j i _ _ (rng_get r hj) (by simp [hi])
theorem gen_elem_len : ∀ (rs : List (Int × Int)) (s : List Int), s ∈ gen rs → s.length = rs.length
  | [], s, h => by simp [gen] at h; simp [h]
  | r :: rs, s, h => by
    simp only [gen, List.mem_flatMap, List.mem_map] at h
    obtain ⟨n, _, t, ht, rfl⟩ := h
    simp [gen_elem_len rs t ht]
theorem row_encE {es : List Int} {c : Nat} {n : Int} : (encE es).set ((c : Int).toNat * 1) (.int .i64 n) = encE (es.set c n) := by
  simp [encE, List.map_set]
theorem row_encE1 {es : List Int} {c : Nat} {n : Int} : (encE es).set (c * 1) (.int .i64 n) = encE (es.set c n) := by
  simp [encE, List.map_set]
theorem take_set {es : List Int} {c : Nat} {n : Int} (h : c < es.length) : (es.set c n).take (c + 1) = es.take c ++ [n] := by
  rw [List.take_succ_eq_append_getElem (by simpa using h)]
  simp [List.take_set_of_le]
theorem filter_get {α : Type} (p : α → Bool) : ∀ (l : List α) (k : Nat) (x : α), l[k]? = some x → p x = true → (l.filter p)[((l.take k).filter p).length]? = some x
  | [], k, x, h, _ => by simp at h
  | a :: l, 0, x, h, hp => by
    simp at h; subst h
    simp [hp]
  | a :: l, k + 1, x, h, hp => by
    have := filter_get p l k x (by simpa using h) hp
    rw [List.take_succ_cons, List.filter_cons, List.filter_cons]
    split
    · simpa using this
    · exact this
theorem filter_step {α : Type} (p : α → Bool) {l : List α} {k : Nat} {x : α} (h : l[k]? = some x) : ((l.take (k + 1)).filter p).length = ((l.take k).filter p).length + (if p x then 1 else 0) := by
  obtain ⟨hlt, rfl⟩ := List.getElem?_eq_some_iff.1 h
  rw [List.take_succ_eq_append_getElem hlt, List.filter_append, List.length_append]
  simp only [List.filter_cons, List.filter_nil]
  split <;> simp
theorem all_step {α : Type} (p : α → Bool) {l : List α} {k : Nat} {x : α} (h : l[k]? = some x) : (l.take (k + 1)).all p = ((l.take k).all p && p x) := by
  obtain ⟨hlt, rfl⟩ := List.getElem?_eq_some_iff.1 h
  rw [List.take_succ_eq_append_getElem hlt, List.all_append]; simp
theorem any_step {α : Type} (p : α → Bool) {l : List α} {k : Nat} {x : α} (h : l[k]? = some x) : (l.take (k + 1)).any p = ((l.take k).any p || p x) := by
  obtain ⟨hlt, rfl⟩ := List.getElem?_eq_some_iff.1 h
  rw [List.take_succ_eq_append_getElem hlt, List.any_append]; simp
theorem RdS.low {H : AHeap} {v : Value} {es : Nat} {xs : List (List Value)} (h : RdS H v es xs) : Low H.length v := by
  obtain ⟨_, h2⟩ := h
  rcases h2 with ⟨i, o, c, row, es', own, rfl, hi, _⟩ | ⟨_, rfl | rfl⟩
  · exact .slice (List.getElem?_eq_some_iff.1 hi).1
  · exact .flat rfl
  · exact .flat rfl
def OwnL (L : AHeap) : Prop := ∀ o ∈ L, o.dead? = true ∨ ownedO o = true
theorem OwnL.nil : OwnL [] := fun _ h => by cases h
theorem OwnL.cons {o : AObj} {L : AHeap} (h : o.dead? = true ∨ ownedO o = true) (hL : OwnL L) : OwnL (o :: L) := fun x hx => by
  rcases List.mem_cons.1 hx with rfl | hx
  · exact h
  · exact hL x hx
theorem OwnL.append {L L' : AHeap} (h : OwnL L) (h' : OwnL L') : OwnL (L ++ L') := fun x hx => (List.mem_append.1 hx).elim (h x) (h' x)
theorem kept_of {Hb L0 L2 : AHeap} {sh : List Nat} (hsh : ∀ i ∈ sh, i < Hb.length) (hL : OwnL L2) :
    (∀ i ∈ sh, ∀ c es own, (Hb ++ L0)[i]? = some (.row c es own) → (Hb ++ L2)[i]? = some (.row c es own)) ∧
    (∀ (i : Nat) (o : AObj), (Hb ++ L2)[i]? = some o → o.dead? = false → ownedO o = false → ∃ o' : AObj, (Hb ++ L0)[i]? = some o' ∧ o'.dead? = false) := by
  refine ⟨fun i hi c es own h => ?_, fun i o h hd ho => ?_⟩
  · rw [List.getElem?_append_left (hsh i hi)] at h ⊢; exact h
  · by_cases hlt : i < Hb.length
    · rw [List.getElem?_append_left hlt] at h
      exact ⟨o, by rw [List.getElem?_append_left hlt]; exact h, hd⟩
    · rw [List.getElem?_append_right (by omega)] at h
      rcases hL o (List.mem_of_getElem? h) with h1 | h1
      · rw [h1] at hd; cases hd
      · rw [h1] at ho; cases ho
theorem idOf_rd {H : AHeap} {v : Value} {es : Nat} {xs : List (List Value)} (h : RdS H v es xs) {i : Nat} (hi : i ∈ idOf v) : i < H.length ∧ ∃ o l c, v = .slice (some ⟨i, o, none⟩) l c := by
  obtain ⟨_, h2⟩ := h
  rcases h2 with ⟨k, o, c, row, es', own, rfl, hk, _⟩ | ⟨_, rfl | rfl⟩
  · simp [idOf] at hi
    subst hi
    exact ⟨(List.getElem?_eq_some_iff.1 hk).1, o, _, c, rfl⟩
  · simp [idOf] at hi
  · simp [idOf] at hi
theorem rel_id {ρ : Ren} {H : AHeap} {v u : Value} {es : Nat} {xs : List (List Value)} (h : RdS H v es xs) (hv : VRel ρ v u) : ∀ i ∈ idOf v, ∃ m, ρ i = some m := by
  intro i hi
  obtain ⟨_, o, l, c, rfl⟩ := idOf_rd h hi
  cases hv with
  | slice h1 _ _ => exact ⟨_, h1⟩
def Kept (sh : List Nat) (H0 H2 : AHeap) : Prop := (∀ i ∈ sh, ∀ c es own, H0[i]? = some (.row c es own) → H2[i]? = some (.row c es own)) ∧ (∀ (i : Nat) (o : AObj), H2[i]? = some o → o.dead? = false → ownedO o = false → ∃ o' : AObj, H0[i]? = some o' ∧ o'.dead? = false)
theorem Kept.refl (sh : List Nat) (H : AHeap) : Kept sh H H := ⟨fun _ _ _ _ _ h => h, fun _ o h hd _ => ⟨o, h, hd⟩⟩
theorem Kept.set {sh : List Nat} {H0 H2 : AHeap} {j : Nat} {o : AObj} (h : Kept sh H0 H2) (hj : j ∉ sh) (ho : ownedO o = true) : Kept sh H0 (H2.set j o) := by
  refine ⟨fun i hi c es own hc => ?_, fun i x hx hd hn => ?_⟩
  · rw [List.getElem?_set_ne (fun (e : j = i) => hj (by rw [e]; exact hi))]; exact h.1 i hi c es own hc
  · rw [List.getElem?_set] at hx
    split at hx
    · split at hx
      · cases hx; rw [ho] at hn; cases hn
      · cases hx
    · exact h.2 i x hx hd hn
theorem Kept.app {sh : List Nat} {H0 H2 L : AHeap} (h : Kept sh H0 H2) (hL : OwnL L) : Kept sh H0 (H2 ++ L) := by
  refine ⟨fun i hi c es own hc => get_old (h.1 i hi c es own hc), fun i x hx hd hn => ?_⟩
  by_cases hlt : i < H2.length
  · rw [List.getElem?_append_left hlt] at hx; exact h.2 i x hx hd hn
  · rw [List.getElem?_append_right (by omega)] at hx
    rcases hL x (List.mem_of_getElem? hx) with h1 | h1
    · rw [h1] at hd; cases hd
    · rw [h1] at hn; cases hn
theorem _root_.Go.Abs.ExtOwn.app {H H' : AHeap} (h : ExtOwn H H') {L : AHeap} (hL : ∀ o ∈ L, o.dead? = true ∨ ownedO o = true) : ExtOwn H (H' ++ L) := by
  obtain ⟨M, rfl, hM⟩ := h
  exact ⟨M ++ L, by simp, fun o ho => (List.mem_append.1 ho).elim (hM o) (hL o)⟩
theorem _root_.Go.Abs.ExtOwn.set {H H' : AHeap} (h : ExtOwn H H') {i : Nat} (hi : H.length ≤ i) {o : AObj} (ho : o.dead? = true ∨ ownedO o = true) : ExtOwn H (H'.set i o) := by
  obtain ⟨M, rfl, hM⟩ := h
  refine ⟨M.set (i - H.length) o, by rw [List.set_append_right _ _ hi], fun x hx => ?_⟩
  rcases List.mem_or_eq_of_mem_set hx with h | rfl
  · exact hM x h
  · exact ho
theorem _root_.Go.Abs.ExtOwn.ext {H H' : AHeap} (h : ExtOwn H H') : Ext H H' := by obtain ⟨M, rfl, _⟩ := h; exact ⟨M, rfl⟩
theorem Tidy.two {γ : Type} {H H' : AHeap} {K : Value → AHeap → γ → Prop} {v v0 : Value} {g' : γ} {i : Nat} {cells : List Value} {es : Nat} (he : Ext H H') (hi : H'[i]? = some (.row cells es true)) (hl : H.length ≤ i) (hc : cells.all flat1 = true) (hv : Mv H.length [i] v v0) (hk : K v0 (H ++ [.row cells es true]) g') : Tidy H K v H' g' := by
  obtain ⟨L, rfl⟩ := he
  exact ⟨[i], H, L, v0, [.row cells es true], rfl, rfl, fun _ _ h => .inl h, by simp, fun k h => by simp at h; omega, by simp [hi], by simp [flatRow]; simpa using hc, hv, hk⟩
theorem Tidy.one {γ : Type} {H H' : AHeap} {K : Value → AHeap → γ → Prop} {v v0 : Value} {g' : γ} {i : Nat} {cells : List Value} {es : Nat} (he : Ext H H') (hi : H'[i]? = some (.row cells es true)) (hl : H.length ≤ i) (hc : cells.all flat1 = true) (hv : Mv H.length [i] v v0) (hk : K v0 (H ++ [.row cells es true]) g') : Tidy H K v H' g' := Tidy.two he hi hl hc hv hk
theorem Tidy.row {γ : Type} {H H' : AHeap} {K : Value → AHeap → γ → Prop} {v v0 : Value} {g' : γ} {i : Nat} {cells : List Value} {es : Nat} {own : Bool} (he : Ext H H') (hi : H'[i]? = some (.row cells es own)) (hl : H.length ≤ i) (hc : cells.all flat1 = true) (hv : Mv H.length [i] v v0) (hk : K v0 (H ++ [.row cells es own]) g') : Tidy H K v H' g' := by
  obtain ⟨L, rfl⟩ := he
  exact ⟨[i], H, L, v0, [.row cells es own], rfl, rfl, fun _ _ h => .inl h, by simp, fun k h => by simp at h; omega, by simp [hi], by simp [flatRow]; simpa using hc, hv, hk⟩
theorem rd_encE {H : AHeap} {i cap : Nat} {cs : List Value} {own : Bool} {s : List Int} (hi : H[i]? = some (.row cs 1 own)) (ht : cs.take s.length = encE s) : RdS H (.slice (some ⟨i, 0, none⟩) s.length cap) 1 (encI s) := by
  have hl : s.length ≤ cs.length := by
    have := congrArg List.length ht
    simp [encE] at this; omega
  refine ⟨by simp, .inl ⟨i, 0, cap, cs, 1, own, by simp, hi, by simpa using hl, ?_⟩⟩
  have e : ∀ s : List Int, (encI s).flatten = encE s := fun s => by
    induction s with
    | nil => rfl
    | cons x s ih => simp_all [encE]
  rw [e, ← ht]; simp
end Go.Proofs.Ytjbiidlmpaibkaa
namespace Go.Proofs.Ytjbiidlmpaibkaa
open Go Go.Abs Go.Proofs
def arr5 (k : Nat) (f : Nat → Int) : List Int := (List.range 5).map fun i => if i < k then f i else 0
theorem arr5_len (k : Nat) (f : Nat → Int) : (arr5 k f).length = 5 := by simp [arr5]
theorem arr5_set {k : Nat} {f : Nat → Int} : (encE (arr5 k f)).set k (.int .i64 (f k)) = encE (arr5 (k + 1) f) := by
  apply List.ext_getElem?
  intro i
  simp only [encE, arr5, List.map_map, List.getElem?_set, List.length_map, List.length_range, List.getElem?_map]
  by_cases h5 : i < 5
  · rw [List.getElem?_range h5]
    by_cases e : k = i
    · subst e; simp [h5]
    · simp [e]; omega
  · rw [List.getElem?_eq_none (by simpa using Nat.le_of_not_lt h5)]
    by_cases e : k = i
    · subst e; simp [h5]
    · simp [e]
theorem arr5_get {k i : Nat} {f : Nat → Int} (h : i < k) (h5 : i < 5) : (arr5 k f)[i]? = some (f i) := by
  simp [arr5, List.getElem?_range h5, h]
theorem arr5_take {k : Nat} {f : Nat → Int} (h : k ≤ 5) : (arr5 k f).take k = (List.range k).map f := by
  apply List.ext_getElem?
  intro i
  by_cases hi : i < k
  · rw [List.getElem?_take_of_lt hi, arr5_get hi (by omega)]
    simp [List.getElem?_range hi]
  · rw [List.getElem?_eq_none (by simp; omega), List.getElem?_eq_none (by simp; omega)]
def pad5 (l : List Int) : List Int := arr5 l.length fun i => l.getD i 0
end Go.Proofs.Ytjbiidlmpaibkaa
namespace Go.Proofs.Ytjbiidlmpaibkaa
open Go Go.Abs Go.Proofs
set_option maxRecDepth 100000
instance ty0 : TyC Try.prog 0 (Go.TypeDesc.tuple (Array.mk [])) 1 (Go.Value.tuple (Array.mk [])) 0 := ⟨Ty.of (by kernel_rfl)⟩
instance ty1 : TyC Try.prog 1 (Go.TypeDesc.func (Array.mk []) (Array.mk []) Bool.false) 1 (Go.Value.nilFunc) 8 := ⟨Ty.of (by kernel_rfl)⟩
instance ty2 : TyC Try.prog 2 (Go.TypeDesc.int Go.IntKind.i64) 1 (Go.Value.int Go.IntKind.i64 (Int.ofNat 0)) 8 := ⟨Ty.of (by kernel_rfl)⟩
instance ty3 : TyC Try.prog 3 (Go.TypeDesc.int Go.IntKind.i64) 1 (Go.Value.int Go.IntKind.i64 (Int.ofNat 0)) 8 := ⟨Ty.of (by kernel_rfl)⟩
instance ty4 : TyC Try.prog 4 (Go.TypeDesc.bool) 1 (Go.Value.bool Bool.false) 1 := ⟨Ty.of (by kernel_rfl)⟩
instance ty5 : TyC Try.prog 5 (Go.TypeDesc.int Go.IntKind.u8) 1 (Go.Value.int Go.IntKind.u8 (Int.ofNat 0)) 1 := ⟨Ty.of (by kernel_rfl)⟩
instance ty6 : TyC Try.prog 6 (Go.TypeDesc.int Go.IntKind.u8) 1 (Go.Value.int Go.IntKind.u8 (Int.ofNat 0)) 1 := ⟨Ty.of (by kernel_rfl)⟩
instance ty7 : TyC Try.prog 7 (Go.TypeDesc.struct (Array.mk [Go.Field.mk "x" 2 0 Bool.false "" "runtime" 0, Go.Field.mk "y" 3 1 Bool.false "" "runtime" 8, Go.Field.mk "signed" 4 2 Bool.false "" "runtime" 16, Go.Field.mk "code" 6 3 Bool.false "" "runtime" 17])) 4 (Go.Value.agg (Array.mk [Go.Value.int Go.IntKind.i64 (Int.ofNat 0), Go.Value.int Go.IntKind.i64 (Int.ofNat 0), Go.Value.bool Bool.false, Go.Value.int Go.IntKind.u8 (Int.ofNat 0)])) 24 := ⟨Ty.of (by kernel_rfl)⟩
instance pl7 : PlC Try.prog 7 [(0, 1), (1, 1), (2, 1), (3, 1)] (Go.Value.agg (Array.mk [Go.Value.int Go.IntKind.i64 (Int.ofNat 0), Go.Value.int Go.IntKind.i64 (Int.ofNat 0), Go.Value.bool Bool.false, Go.Value.int Go.IntKind.u8 (Int.ofNat 0)])) := PlC.of ty7.ty (by kernel_rfl)
instance ty8 : TyC Try.prog 8 (Go.TypeDesc.struct (Array.mk [Go.Field.mk "x" 2 0 Bool.false "" "runtime" 0, Go.Field.mk "y" 3 1 Bool.false "" "runtime" 8, Go.Field.mk "signed" 4 2 Bool.false "" "runtime" 16, Go.Field.mk "code" 6 3 Bool.false "" "runtime" 17])) 4 (Go.Value.agg (Array.mk [Go.Value.int Go.IntKind.i64 (Int.ofNat 0), Go.Value.int Go.IntKind.i64 (Int.ofNat 0), Go.Value.bool Bool.false, Go.Value.int Go.IntKind.u8 (Int.ofNat 0)])) 24 := ⟨Ty.of (by kernel_rfl)⟩
instance pl8 : PlC Try.prog 8 [(0, 1), (1, 1), (2, 1), (3, 1)] (Go.Value.agg (Array.mk [Go.Value.int Go.IntKind.i64 (Int.ofNat 0), Go.Value.int Go.IntKind.i64 (Int.ofNat 0), Go.Value.bool Bool.false, Go.Value.int Go.IntKind.u8 (Int.ofNat 0)])) := PlC.of ty8.ty (by kernel_rfl)
instance ty9 : TyC Try.prog 9 (Go.TypeDesc.string) 1 (Go.Value.string (ByteArray.mk (Array.mk []))) 16 := ⟨Ty.of (by kernel_rfl)⟩
instance ty10 : TyC Try.prog 10 (Go.TypeDesc.string) 1 (Go.Value.string (ByteArray.mk (Array.mk []))) 16 := ⟨Ty.of (by kernel_rfl)⟩
instance ty11 : TyC Try.prog 11 (Go.TypeDesc.string) 1 (Go.Value.string (ByteArray.mk (Array.mk []))) 16 := ⟨Ty.of (by kernel_rfl)⟩
instance ty12 : TyC Try.prog 12 (Go.TypeDesc.int Go.IntKind.u64) 1 (Go.Value.int Go.IntKind.u64 (Int.ofNat 0)) 8 := ⟨Ty.of (by kernel_rfl)⟩
instance ty13 : TyC Try.prog 13 (Go.TypeDesc.struct (Array.mk [Go.Field.mk "msg" 9 0 Bool.false "" "runtime" 0, Go.Field.mk "addr" 12 1 Bool.false "" "runtime" 16])) 2 (Go.Value.agg (Array.mk [Go.Value.string (ByteArray.mk (Array.mk [])), Go.Value.int Go.IntKind.u64 (Int.ofNat 0)])) 24 := ⟨Ty.of (by kernel_rfl)⟩
instance pl13 : PlC Try.prog 13 [(0, 1), (1, 1)] (Go.Value.agg (Array.mk [Go.Value.string (ByteArray.mk (Array.mk [])), Go.Value.int Go.IntKind.u64 (Int.ofNat 0)])) := PlC.of ty13.ty (by kernel_rfl)
instance ty14 : TyC Try.prog 14 (Go.TypeDesc.struct (Array.mk [Go.Field.mk "msg" 9 0 Bool.false "" "runtime" 0, Go.Field.mk "addr" 12 1 Bool.false "" "runtime" 16])) 2 (Go.Value.agg (Array.mk [Go.Value.string (ByteArray.mk (Array.mk [])), Go.Value.int Go.IntKind.u64 (Int.ofNat 0)])) 24 := ⟨Ty.of (by kernel_rfl)⟩
instance pl14 : PlC Try.prog 14 [(0, 1), (1, 1)] (Go.Value.agg (Array.mk [Go.Value.string (ByteArray.mk (Array.mk [])), Go.Value.int Go.IntKind.u64 (Int.ofNat 0)])) := PlC.of ty14.ty (by kernel_rfl)
instance ty15 : TyC Try.prog 15 (Go.TypeDesc.pointer 171) 1 (Go.Value.pointer Option.none) 8 := ⟨Ty.of (by kernel_rfl)⟩
instance ty16 : TyC Try.prog 16 (Go.TypeDesc.pointer 174) 1 (Go.Value.pointer Option.none) 8 := ⟨Ty.of (by kernel_rfl)⟩
instance ty17 : TyC Try.prog 17 (Go.TypeDesc.pointer 183) 1 (Go.Value.pointer Option.none) 8 := ⟨Ty.of (by kernel_rfl)⟩
instance ty18 : TyC Try.prog 18 (Go.TypeDesc.struct (Array.mk [Go.Field.mk "typ" 17 0 Bool.false "" "internal/runtime/maps" 0])) 1 (Go.Value.agg (Array.mk [Go.Value.pointer Option.none])) 8 := ⟨Ty.of (by kernel_rfl)⟩
instance pl18 : PlC Try.prog 18 [(0, 1)] (Go.Value.agg (Array.mk [Go.Value.pointer Option.none])) := PlC.of ty18.ty (by kernel_rfl)
instance ty19 : TyC Try.prog 19 (Go.TypeDesc.struct (Array.mk [Go.Field.mk "typ" 17 0 Bool.false "" "internal/runtime/maps" 0])) 1 (Go.Value.agg (Array.mk [Go.Value.pointer Option.none])) 8 := ⟨Ty.of (by kernel_rfl)⟩
instance pl19 : PlC Try.prog 19 [(0, 1)] (Go.Value.agg (Array.mk [Go.Value.pointer Option.none])) := PlC.of ty19.ty (by kernel_rfl)
instance ty20 : TyC Try.prog 20 (Go.TypeDesc.interface (Array.mk [])) 1 (Go.Value.nilIface) 16 := ⟨Ty.of (by kernel_rfl)⟩
instance ty21 : TyC Try.prog 21 (Go.TypeDesc.int Go.IntKind.i32) 1 (Go.Value.int Go.IntKind.i32 (Int.ofNat 0)) 4 := ⟨Ty.of (by kernel_rfl)⟩
instance ty22 : TyC Try.prog 22 (Go.TypeDesc.slice 3) 1 (Go.Value.slice Option.none 0 0) 24 := ⟨Ty.of (by kernel_rfl)⟩
instance ty23 : TyC Try.prog 23 (Go.TypeDesc.struct (Array.mk [Go.Field.mk "Lo" 3 0 Bool.false "" "" 0, Go.Field.mk "Hi" 3 1 Bool.false "" "" 8])) 2 (Go.Value.agg (Array.mk [Go.Value.int Go.IntKind.i64 (Int.ofNat 0), Go.Value.int Go.IntKind.i64 (Int.ofNat 0)])) 16 := ⟨Ty.of (by kernel_rfl)⟩
instance pl23 : PlC Try.prog 23 [(0, 1), (1, 1)] (Go.Value.agg (Array.mk [Go.Value.int Go.IntKind.i64 (Int.ofNat 0), Go.Value.int Go.IntKind.i64 (Int.ofNat 0)])) := PlC.of ty23.ty (by kernel_rfl)
instance ty24 : TyC Try.prog 24 (Go.TypeDesc.struct (Array.mk [Go.Field.mk "Lo" 3 0 Bool.false "" "" 0, Go.Field.mk "Hi" 3 1 Bool.false "" "" 8])) 2 (Go.Value.agg (Array.mk [Go.Value.int Go.IntKind.i64 (Int.ofNat 0), Go.Value.int Go.IntKind.i64 (Int.ofNat 0)])) 16 := ⟨Ty.of (by kernel_rfl)⟩
instance pl24 : PlC Try.prog 24 [(0, 1), (1, 1)] (Go.Value.agg (Array.mk [Go.Value.int Go.IntKind.i64 (Int.ofNat 0), Go.Value.int Go.IntKind.i64 (Int.ofNat 0)])) := PlC.of ty24.ty (by kernel_rfl)
instance ty25 : TyC Try.prog 25 (Go.TypeDesc.slice 24) 1 (Go.Value.slice Option.none 0 0) 24 := ⟨Ty.of (by kernel_rfl)⟩
instance ty26 : TyC Try.prog 26 (Go.TypeDesc.slice 100) 1 (Go.Value.slice Option.none 0 0) 24 := ⟨Ty.of (by kernel_rfl)⟩
instance ty27 : TyC Try.prog 27 (Go.TypeDesc.struct (Array.mk [Go.Field.mk "Last" 3 0 Bool.false "" "" 0, Go.Field.mk "Start" 3 1 Bool.false "" "" 8, Go.Field.mk "Most" 3 2 Bool.false "" "" 16, Go.Field.mk "Per" 3 3 Bool.false "" "" 24, Go.Field.mk "Shovels" 3 4 Bool.false "" "" 32, Go.Field.mk "Coal" 22 5 Bool.false "" "" 40, Go.Field.mk "Want" 22 6 Bool.false "" "" 64, Go.Field.mk "Heat" 24 7 Bool.false "" "" 88, Go.Field.mk "Loss" 25 9 Bool.false "" "" 104, Go.Field.mk "Readings" 26 10 Bool.false "" "" 128])) 11 (Go.Value.agg (Array.mk [Go.Value.int Go.IntKind.i64 (Int.ofNat 0), Go.Value.int Go.IntKind.i64 (Int.ofNat 0), Go.Value.int Go.IntKind.i64 (Int.ofNat 0), Go.Value.int Go.IntKind.i64 (Int.ofNat 0), Go.Value.int Go.IntKind.i64 (Int.ofNat 0), Go.Value.slice Option.none 0 0, Go.Value.slice Option.none 0 0, Go.Value.int Go.IntKind.i64 (Int.ofNat 0), Go.Value.int Go.IntKind.i64 (Int.ofNat 0), Go.Value.slice Option.none 0 0, Go.Value.slice Option.none 0 0])) 152 := ⟨Ty.of (by kernel_rfl)⟩
instance pl27 : PlC Try.prog 27 [(0, 1), (1, 1), (2, 1), (3, 1), (4, 1), (5, 1), (6, 1), (7, 2), (9, 1), (10, 1)] (Go.Value.agg (Array.mk [Go.Value.int Go.IntKind.i64 (Int.ofNat 0), Go.Value.int Go.IntKind.i64 (Int.ofNat 0), Go.Value.int Go.IntKind.i64 (Int.ofNat 0), Go.Value.int Go.IntKind.i64 (Int.ofNat 0), Go.Value.int Go.IntKind.i64 (Int.ofNat 0), Go.Value.slice Option.none 0 0, Go.Value.slice Option.none 0 0, Go.Value.int Go.IntKind.i64 (Int.ofNat 0), Go.Value.int Go.IntKind.i64 (Int.ofNat 0), Go.Value.slice Option.none 0 0, Go.Value.slice Option.none 0 0])) := PlC.of ty27.ty (by kernel_rfl)
instance ty28 : TyC Try.prog 28 (Go.TypeDesc.struct (Array.mk [Go.Field.mk "Last" 3 0 Bool.false "" "" 0, Go.Field.mk "Start" 3 1 Bool.false "" "" 8, Go.Field.mk "Most" 3 2 Bool.false "" "" 16, Go.Field.mk "Per" 3 3 Bool.false "" "" 24, Go.Field.mk "Shovels" 3 4 Bool.false "" "" 32, Go.Field.mk "Coal" 22 5 Bool.false "" "" 40, Go.Field.mk "Want" 22 6 Bool.false "" "" 64, Go.Field.mk "Heat" 24 7 Bool.false "" "" 88, Go.Field.mk "Loss" 25 9 Bool.false "" "" 104, Go.Field.mk "Readings" 26 10 Bool.false "" "" 128])) 11 (Go.Value.agg (Array.mk [Go.Value.int Go.IntKind.i64 (Int.ofNat 0), Go.Value.int Go.IntKind.i64 (Int.ofNat 0), Go.Value.int Go.IntKind.i64 (Int.ofNat 0), Go.Value.int Go.IntKind.i64 (Int.ofNat 0), Go.Value.int Go.IntKind.i64 (Int.ofNat 0), Go.Value.slice Option.none 0 0, Go.Value.slice Option.none 0 0, Go.Value.int Go.IntKind.i64 (Int.ofNat 0), Go.Value.int Go.IntKind.i64 (Int.ofNat 0), Go.Value.slice Option.none 0 0, Go.Value.slice Option.none 0 0])) 152 := ⟨Ty.of (by kernel_rfl)⟩
instance pl28 : PlC Try.prog 28 [(0, 1), (1, 1), (2, 1), (3, 1), (4, 1), (5, 1), (6, 1), (7, 2), (9, 1), (10, 1)] (Go.Value.agg (Array.mk [Go.Value.int Go.IntKind.i64 (Int.ofNat 0), Go.Value.int Go.IntKind.i64 (Int.ofNat 0), Go.Value.int Go.IntKind.i64 (Int.ofNat 0), Go.Value.int Go.IntKind.i64 (Int.ofNat 0), Go.Value.int Go.IntKind.i64 (Int.ofNat 0), Go.Value.slice Option.none 0 0, Go.Value.slice Option.none 0 0, Go.Value.int Go.IntKind.i64 (Int.ofNat 0), Go.Value.int Go.IntKind.i64 (Int.ofNat 0), Go.Value.slice Option.none 0 0, Go.Value.slice Option.none 0 0])) := PlC.of ty28.ty (by kernel_rfl)
instance ty29 : TyC Try.prog 29 (Go.TypeDesc.struct (Array.mk [Go.Field.mk "Heat" 3 0 Bool.false "" "" 0, Go.Field.mk "Loss" 22 1 Bool.false "" "" 8])) 2 (Go.Value.agg (Array.mk [Go.Value.int Go.IntKind.i64 (Int.ofNat 0), Go.Value.slice Option.none 0 0])) 32 := ⟨Ty.of (by kernel_rfl)⟩
instance pl29 : PlC Try.prog 29 [(0, 1), (1, 1)] (Go.Value.agg (Array.mk [Go.Value.int Go.IntKind.i64 (Int.ofNat 0), Go.Value.slice Option.none 0 0])) := PlC.of ty29.ty (by kernel_rfl)
instance ty30 : TyC Try.prog 30 (Go.TypeDesc.struct (Array.mk [Go.Field.mk "Heat" 3 0 Bool.false "" "" 0, Go.Field.mk "Loss" 22 1 Bool.false "" "" 8])) 2 (Go.Value.agg (Array.mk [Go.Value.int Go.IntKind.i64 (Int.ofNat 0), Go.Value.slice Option.none 0 0])) 32 := ⟨Ty.of (by kernel_rfl)⟩
instance pl30 : PlC Try.prog 30 [(0, 1), (1, 1)] (Go.Value.agg (Array.mk [Go.Value.int Go.IntKind.i64 (Int.ofNat 0), Go.Value.slice Option.none 0 0])) := PlC.of ty30.ty (by kernel_rfl)
instance ty31 : TyC Try.prog 31 (Go.TypeDesc.func (Array.mk [28]) (Array.mk [4]) Bool.false) 1 (Go.Value.nilFunc) 8 := ⟨Ty.of (by kernel_rfl)⟩
instance ty32 : TyC Try.prog 32 (Go.TypeDesc.func (Array.mk []) (Array.mk [4]) Bool.false) 1 (Go.Value.nilFunc) 8 := ⟨Ty.of (by kernel_rfl)⟩
instance ty33 : TyC Try.prog 33 (Go.TypeDesc.int Go.IntKind.i64) 1 (Go.Value.int Go.IntKind.i64 (Int.ofNat 0)) 8 := ⟨Ty.of (by kernel_rfl)⟩
instance ty34 : TyC Try.prog 34 (Go.TypeDesc.tuple (Array.mk [22, 22, 33])) 1 (Go.Value.tuple (Array.mk [Go.Value.slice Option.none 0 0, Go.Value.slice Option.none 0 0, Go.Value.int Go.IntKind.i64 (Int.ofNat 0)])) 0 := ⟨Ty.of (by kernel_rfl)⟩
instance ty35 : TyC Try.prog 35 (Go.TypeDesc.func (Array.mk [40, 42]) (Array.mk [22, 22, 33]) Bool.false) 1 (Go.Value.nilFunc) 8 := ⟨Ty.of (by kernel_rfl)⟩
instance ty36 : TyC Try.prog 36 (Go.TypeDesc.struct (Array.mk [Go.Field.mk "Lo" 3 0 Bool.false "" "" 0, Go.Field.mk "Hi" 3 1 Bool.false "" "" 8])) 2 (Go.Value.agg (Array.mk [Go.Value.int Go.IntKind.i64 (Int.ofNat 0), Go.Value.int Go.IntKind.i64 (Int.ofNat 0)])) 16 := ⟨Ty.of (by kernel_rfl)⟩
instance pl36 : PlC Try.prog 36 [(0, 1), (1, 1)] (Go.Value.agg (Array.mk [Go.Value.int Go.IntKind.i64 (Int.ofNat 0), Go.Value.int Go.IntKind.i64 (Int.ofNat 0)])) := PlC.of ty36.ty (by kernel_rfl)
instance ty37 : TyC Try.prog 37 (Go.TypeDesc.slice 36) 1 (Go.Value.slice Option.none 0 0) 24 := ⟨Ty.of (by kernel_rfl)⟩
instance ty38 : TyC Try.prog 38 (Go.TypeDesc.slice 78) 1 (Go.Value.slice Option.none 0 0) 24 := ⟨Ty.of (by kernel_rfl)⟩
instance ty39 : TyC Try.prog 39 (Go.TypeDesc.struct (Array.mk [Go.Field.mk "Last" 3 0 Bool.false "" "" 0, Go.Field.mk "Start" 3 1 Bool.false "" "" 8, Go.Field.mk "Most" 3 2 Bool.false "" "" 16, Go.Field.mk "Per" 3 3 Bool.false "" "" 24, Go.Field.mk "Shovels" 3 4 Bool.false "" "" 32, Go.Field.mk "Coal" 22 5 Bool.false "" "" 40, Go.Field.mk "Want" 22 6 Bool.false "" "" 64, Go.Field.mk "Heat" 36 7 Bool.false "" "" 88, Go.Field.mk "Loss" 37 9 Bool.false "" "" 104, Go.Field.mk "Readings" 38 10 Bool.false "" "" 128])) 11 (Go.Value.agg (Array.mk [Go.Value.int Go.IntKind.i64 (Int.ofNat 0), Go.Value.int Go.IntKind.i64 (Int.ofNat 0), Go.Value.int Go.IntKind.i64 (Int.ofNat 0), Go.Value.int Go.IntKind.i64 (Int.ofNat 0), Go.Value.int Go.IntKind.i64 (Int.ofNat 0), Go.Value.slice Option.none 0 0, Go.Value.slice Option.none 0 0, Go.Value.int Go.IntKind.i64 (Int.ofNat 0), Go.Value.int Go.IntKind.i64 (Int.ofNat 0), Go.Value.slice Option.none 0 0, Go.Value.slice Option.none 0 0])) 152 := ⟨Ty.of (by kernel_rfl)⟩
instance pl39 : PlC Try.prog 39 [(0, 1), (1, 1), (2, 1), (3, 1), (4, 1), (5, 1), (6, 1), (7, 2), (9, 1), (10, 1)] (Go.Value.agg (Array.mk [Go.Value.int Go.IntKind.i64 (Int.ofNat 0), Go.Value.int Go.IntKind.i64 (Int.ofNat 0), Go.Value.int Go.IntKind.i64 (Int.ofNat 0), Go.Value.int Go.IntKind.i64 (Int.ofNat 0), Go.Value.int Go.IntKind.i64 (Int.ofNat 0), Go.Value.slice Option.none 0 0, Go.Value.slice Option.none 0 0, Go.Value.int Go.IntKind.i64 (Int.ofNat 0), Go.Value.int Go.IntKind.i64 (Int.ofNat 0), Go.Value.slice Option.none 0 0, Go.Value.slice Option.none 0 0])) := PlC.of ty39.ty (by kernel_rfl)
instance ty40 : TyC Try.prog 40 (Go.TypeDesc.struct (Array.mk [Go.Field.mk "Last" 3 0 Bool.false "" "" 0, Go.Field.mk "Start" 3 1 Bool.false "" "" 8, Go.Field.mk "Most" 3 2 Bool.false "" "" 16, Go.Field.mk "Per" 3 3 Bool.false "" "" 24, Go.Field.mk "Shovels" 3 4 Bool.false "" "" 32, Go.Field.mk "Coal" 22 5 Bool.false "" "" 40, Go.Field.mk "Want" 22 6 Bool.false "" "" 64, Go.Field.mk "Heat" 36 7 Bool.false "" "" 88, Go.Field.mk "Loss" 37 9 Bool.false "" "" 104, Go.Field.mk "Readings" 38 10 Bool.false "" "" 128])) 11 (Go.Value.agg (Array.mk [Go.Value.int Go.IntKind.i64 (Int.ofNat 0), Go.Value.int Go.IntKind.i64 (Int.ofNat 0), Go.Value.int Go.IntKind.i64 (Int.ofNat 0), Go.Value.int Go.IntKind.i64 (Int.ofNat 0), Go.Value.int Go.IntKind.i64 (Int.ofNat 0), Go.Value.slice Option.none 0 0, Go.Value.slice Option.none 0 0, Go.Value.int Go.IntKind.i64 (Int.ofNat 0), Go.Value.int Go.IntKind.i64 (Int.ofNat 0), Go.Value.slice Option.none 0 0, Go.Value.slice Option.none 0 0])) 152 := ⟨Ty.of (by kernel_rfl)⟩
instance pl40 : PlC Try.prog 40 [(0, 1), (1, 1), (2, 1), (3, 1), (4, 1), (5, 1), (6, 1), (7, 2), (9, 1), (10, 1)] (Go.Value.agg (Array.mk [Go.Value.int Go.IntKind.i64 (Int.ofNat 0), Go.Value.int Go.IntKind.i64 (Int.ofNat 0), Go.Value.int Go.IntKind.i64 (Int.ofNat 0), Go.Value.int Go.IntKind.i64 (Int.ofNat 0), Go.Value.int Go.IntKind.i64 (Int.ofNat 0), Go.Value.slice Option.none 0 0, Go.Value.slice Option.none 0 0, Go.Value.int Go.IntKind.i64 (Int.ofNat 0), Go.Value.int Go.IntKind.i64 (Int.ofNat 0), Go.Value.slice Option.none 0 0, Go.Value.slice Option.none 0 0])) := PlC.of ty40.ty (by kernel_rfl)
instance ty41 : TyC Try.prog 41 (Go.TypeDesc.func (Array.mk [28]) (Array.mk [40]) Bool.false) 1 (Go.Value.nilFunc) 8 := ⟨Ty.of (by kernel_rfl)⟩
instance ty42 : TyC Try.prog 42 (Go.TypeDesc.struct (Array.mk [Go.Field.mk "Heat" 3 0 Bool.false "" "" 0, Go.Field.mk "Loss" 22 1 Bool.false "" "" 8])) 2 (Go.Value.agg (Array.mk [Go.Value.int Go.IntKind.i64 (Int.ofNat 0), Go.Value.slice Option.none 0 0])) 32 := ⟨Ty.of (by kernel_rfl)⟩
instance pl42 : PlC Try.prog 42 [(0, 1), (1, 1)] (Go.Value.agg (Array.mk [Go.Value.int Go.IntKind.i64 (Int.ofNat 0), Go.Value.slice Option.none 0 0])) := PlC.of ty42.ty (by kernel_rfl)
instance ty43 : TyC Try.prog 43 (Go.TypeDesc.func (Array.mk [30]) (Array.mk [42]) Bool.false) 1 (Go.Value.nilFunc) 8 := ⟨Ty.of (by kernel_rfl)⟩
instance ty44 : TyC Try.prog 44 (Go.TypeDesc.func (Array.mk [40, 42]) (Array.mk [4]) Bool.false) 1 (Go.Value.nilFunc) 8 := ⟨Ty.of (by kernel_rfl)⟩
instance ty45 : TyC Try.prog 45 (Go.TypeDesc.func (Array.mk [28]) (Array.mk [33]) Bool.false) 1 (Go.Value.nilFunc) 8 := ⟨Ty.of (by kernel_rfl)⟩
instance ty46 : TyC Try.prog 46 (Go.TypeDesc.func (Array.mk [40]) (Array.mk [33]) Bool.false) 1 (Go.Value.nilFunc) 8 := ⟨Ty.of (by kernel_rfl)⟩
instance ty47 : TyC Try.prog 47 (Go.TypeDesc.func (Array.mk [28, 30]) (Array.mk [4]) Bool.false) 1 (Go.Value.nilFunc) 8 := ⟨Ty.of (by kernel_rfl)⟩
instance ty48 : TyC Try.prog 48 (Go.TypeDesc.func (Array.mk [28, 30, 22, 22, 3]) (Array.mk [3]) Bool.false) 1 (Go.Value.nilFunc) 8 := ⟨Ty.of (by kernel_rfl)⟩
instance ty49 : TyC Try.prog 49 (Go.TypeDesc.tuple (Array.mk [37, 37, 33])) 1 (Go.Value.tuple (Array.mk [Go.Value.slice Option.none 0 0, Go.Value.slice Option.none 0 0, Go.Value.int Go.IntKind.i64 (Int.ofNat 0)])) 0 := ⟨Ty.of (by kernel_rfl)⟩
instance ty50 : TyC Try.prog 50 (Go.TypeDesc.func (Array.mk [40]) (Array.mk [37, 37, 33]) Bool.false) 1 (Go.Value.nilFunc) 8 := ⟨Ty.of (by kernel_rfl)⟩
instance ty51 : TyC Try.prog 51 (Go.TypeDesc.slice 30) 1 (Go.Value.slice Option.none 0 0) 24 := ⟨Ty.of (by kernel_rfl)⟩
instance ty52 : TyC Try.prog 52 (Go.TypeDesc.tuple (Array.mk [51, 33])) 1 (Go.Value.tuple (Array.mk [Go.Value.slice Option.none 0 0, Go.Value.int Go.IntKind.i64 (Int.ofNat 0)])) 0 := ⟨Ty.of (by kernel_rfl)⟩
instance ty53 : TyC Try.prog 53 (Go.TypeDesc.func (Array.mk [28]) (Array.mk [51, 33]) Bool.false) 1 (Go.Value.nilFunc) 8 := ⟨Ty.of (by kernel_rfl)⟩
instance ty54 : TyC Try.prog 54 (Go.TypeDesc.tuple (Array.mk [24, 24])) 1 (Go.Value.tuple (Array.mk [Go.Value.agg (Array.mk [Go.Value.int Go.IntKind.i64 (Int.ofNat 0), Go.Value.int Go.IntKind.i64 (Int.ofNat 0)]), Go.Value.agg (Array.mk [Go.Value.int Go.IntKind.i64 (Int.ofNat 0), Go.Value.int Go.IntKind.i64 (Int.ofNat 0)])])) 0 := ⟨Ty.of (by kernel_rfl)⟩
instance ty55 : TyC Try.prog 55 (Go.TypeDesc.func (Array.mk [28, 51, 3]) (Array.mk [24, 24]) Bool.false) 1 (Go.Value.nilFunc) 8 := ⟨Ty.of (by kernel_rfl)⟩
instance ty56 : TyC Try.prog 56 (Go.TypeDesc.func (Array.mk [24]) (Array.mk [36]) Bool.false) 1 (Go.Value.nilFunc) 8 := ⟨Ty.of (by kernel_rfl)⟩
instance ty57 : TyC Try.prog 57 (Go.TypeDesc.tuple (Array.mk [22, 33])) 1 (Go.Value.tuple (Array.mk [Go.Value.slice Option.none 0 0, Go.Value.int Go.IntKind.i64 (Int.ofNat 0)])) 0 := ⟨Ty.of (by kernel_rfl)⟩
instance ty58 : TyC Try.prog 58 (Go.TypeDesc.func (Array.mk [40]) (Array.mk [22, 33]) Bool.false) 1 (Go.Value.nilFunc) 8 := ⟨Ty.of (by kernel_rfl)⟩
instance ty59 : TyC Try.prog 59 (Go.TypeDesc.tuple (Array.mk [3, 33])) 1 (Go.Value.tuple (Array.mk [Go.Value.int Go.IntKind.i64 (Int.ofNat 0), Go.Value.int Go.IntKind.i64 (Int.ofNat 0)])) 0 := ⟨Ty.of (by kernel_rfl)⟩
instance ty60 : TyC Try.prog 60 (Go.TypeDesc.func (Array.mk [40]) (Array.mk [3, 33]) Bool.false) 1 (Go.Value.nilFunc) 8 := ⟨Ty.of (by kernel_rfl)⟩
instance ty61 : TyC Try.prog 61 (Go.TypeDesc.func (Array.mk [28, 51, 3]) (Array.mk [3]) Bool.false) 1 (Go.Value.nilFunc) 8 := ⟨Ty.of (by kernel_rfl)⟩
instance ty62 : TyC Try.prog 62 (Go.TypeDesc.func (Array.mk [28, 51]) (Array.mk [3]) Bool.false) 1 (Go.Value.nilFunc) 8 := ⟨Ty.of (by kernel_rfl)⟩
instance ty63 : TyC Try.prog 63 (Go.TypeDesc.func (Array.mk [40, 22]) (Array.mk [3, 33]) Bool.false) 1 (Go.Value.nilFunc) 8 := ⟨Ty.of (by kernel_rfl)⟩
instance ty64 : TyC Try.prog 64 (Go.TypeDesc.func (Array.mk [22]) (Array.mk [22]) Bool.false) 1 (Go.Value.nilFunc) 8 := ⟨Ty.of (by kernel_rfl)⟩
instance ty65 : TyC Try.prog 65 (Go.TypeDesc.func (Array.mk [40, 3]) (Array.mk [3, 33]) Bool.false) 1 (Go.Value.nilFunc) 8 := ⟨Ty.of (by kernel_rfl)⟩
instance ty66 : TyC Try.prog 66 (Go.TypeDesc.func (Array.mk [28, 22, 3]) (Array.mk [4]) Bool.false) 1 (Go.Value.nilFunc) 8 := ⟨Ty.of (by kernel_rfl)⟩
instance ty67 : TyC Try.prog 67 (Go.TypeDesc.func (Array.mk [3, 3, 3]) (Array.mk [4]) Bool.false) 1 (Go.Value.nilFunc) 8 := ⟨Ty.of (by kernel_rfl)⟩
instance ty68 : TyC Try.prog 68 (Go.TypeDesc.func (Array.mk [28, 51, 22, 22]) (Array.mk [3]) Bool.false) 1 (Go.Value.nilFunc) 8 := ⟨Ty.of (by kernel_rfl)⟩
instance ty69 : TyC Try.prog 69 (Go.TypeDesc.func (Array.mk [22, 22]) (Array.mk [22]) Bool.false) 1 (Go.Value.nilFunc) 8 := ⟨Ty.of (by kernel_rfl)⟩
instance ty70 : TyC Try.prog 70 (Go.TypeDesc.func (Array.mk [28]) (Array.mk [22]) Bool.false) 1 (Go.Value.nilFunc) 8 := ⟨Ty.of (by kernel_rfl)⟩
instance ty71 : TyC Try.prog 71 (Go.TypeDesc.func (Array.mk [22, 22]) (Array.mk [4]) Bool.false) 1 (Go.Value.nilFunc) 8 := ⟨Ty.of (by kernel_rfl)⟩
instance ty72 : TyC Try.prog 72 (Go.TypeDesc.func (Array.mk [28, 22]) (Array.mk [22]) Bool.false) 1 (Go.Value.nilFunc) 8 := ⟨Ty.of (by kernel_rfl)⟩
instance ty73 : TyC Try.prog 73 (Go.TypeDesc.func (Array.mk [28, 22]) (Array.mk [3]) Bool.false) 1 (Go.Value.nilFunc) 8 := ⟨Ty.of (by kernel_rfl)⟩
instance ty74 : TyC Try.prog 74 (Go.TypeDesc.func (Array.mk [3]) (Array.mk [40]) Bool.false) 1 (Go.Value.nilFunc) 8 := ⟨Ty.of (by kernel_rfl)⟩
instance ty75 : TyC Try.prog 75 (Go.TypeDesc.func (Array.mk [3, 3]) (Array.mk [36]) Bool.false) 1 (Go.Value.nilFunc) 8 := ⟨Ty.of (by kernel_rfl)⟩
instance ty76 : TyC Try.prog 76 (Go.TypeDesc.func (Array.mk [40, 22, 3]) (Array.mk [4]) Bool.false) 1 (Go.Value.nilFunc) 8 := ⟨Ty.of (by kernel_rfl)⟩
instance ty77 : TyC Try.prog 77 (Go.TypeDesc.struct (Array.mk [Go.Field.mk "Hour" 3 0 Bool.false "" "" 0, Go.Field.mk "Buckets" 36 1 Bool.false "" "" 8])) 3 (Go.Value.agg (Array.mk [Go.Value.int Go.IntKind.i64 (Int.ofNat 0), Go.Value.int Go.IntKind.i64 (Int.ofNat 0), Go.Value.int Go.IntKind.i64 (Int.ofNat 0)])) 24 := ⟨Ty.of (by kernel_rfl)⟩
instance pl77 : PlC Try.prog 77 [(0, 1), (1, 2)] (Go.Value.agg (Array.mk [Go.Value.int Go.IntKind.i64 (Int.ofNat 0), Go.Value.int Go.IntKind.i64 (Int.ofNat 0), Go.Value.int Go.IntKind.i64 (Int.ofNat 0)])) := PlC.of ty77.ty (by kernel_rfl)
instance ty78 : TyC Try.prog 78 (Go.TypeDesc.struct (Array.mk [Go.Field.mk "Hour" 3 0 Bool.false "" "" 0, Go.Field.mk "Buckets" 36 1 Bool.false "" "" 8])) 3 (Go.Value.agg (Array.mk [Go.Value.int Go.IntKind.i64 (Int.ofNat 0), Go.Value.int Go.IntKind.i64 (Int.ofNat 0), Go.Value.int Go.IntKind.i64 (Int.ofNat 0)])) 24 := ⟨Ty.of (by kernel_rfl)⟩
instance pl78 : PlC Try.prog 78 [(0, 1), (1, 2)] (Go.Value.agg (Array.mk [Go.Value.int Go.IntKind.i64 (Int.ofNat 0), Go.Value.int Go.IntKind.i64 (Int.ofNat 0), Go.Value.int Go.IntKind.i64 (Int.ofNat 0)])) := PlC.of ty78.ty (by kernel_rfl)
instance ty79 : TyC Try.prog 79 (Go.TypeDesc.int Go.IntKind.u16) 1 (Go.Value.int Go.IntKind.u16 (Int.ofNat 0)) 2 := ⟨Ty.of (by kernel_rfl)⟩
instance ty80 : TyC Try.prog 80 (Go.TypeDesc.slice 79) 1 (Go.Value.slice Option.none 0 0) 24 := ⟨Ty.of (by kernel_rfl)⟩
instance ty81 : TyC Try.prog 81 (Go.TypeDesc.tuple (Array.mk [28, 30])) 1 (Go.Value.tuple (Array.mk [Go.Value.agg (Array.mk [Go.Value.int Go.IntKind.i64 (Int.ofNat 0), Go.Value.int Go.IntKind.i64 (Int.ofNat 0), Go.Value.int Go.IntKind.i64 (Int.ofNat 0), Go.Value.int Go.IntKind.i64 (Int.ofNat 0), Go.Value.int Go.IntKind.i64 (Int.ofNat 0), Go.Value.slice Option.none 0 0, Go.Value.slice Option.none 0 0, Go.Value.int Go.IntKind.i64 (Int.ofNat 0), Go.Value.int Go.IntKind.i64 (Int.ofNat 0), Go.Value.slice Option.none 0 0, Go.Value.slice Option.none 0 0]), Go.Value.agg (Array.mk [Go.Value.int Go.IntKind.i64 (Int.ofNat 0), Go.Value.slice Option.none 0 0])])) 0 := ⟨Ty.of (by kernel_rfl)⟩
instance ty82 : TyC Try.prog 82 (Go.TypeDesc.func (Array.mk [28, 79, 80]) (Array.mk [28, 30]) Bool.false) 1 (Go.Value.nilFunc) 8 := ⟨Ty.of (by kernel_rfl)⟩
instance ty83 : TyC Try.prog 83 (Go.TypeDesc.func (Array.mk [3, 36]) (Array.mk [4]) Bool.false) 1 (Go.Value.nilFunc) 8 := ⟨Ty.of (by kernel_rfl)⟩
instance ty84 : TyC Try.prog 84 (Go.TypeDesc.func (Array.mk [28, 79, 80]) (Array.mk [4]) Bool.false) 1 (Go.Value.nilFunc) 8 := ⟨Ty.of (by kernel_rfl)⟩
instance ty85 : TyC Try.prog 85 (Go.TypeDesc.func (Array.mk [28]) (Array.mk [51]) Bool.false) 1 (Go.Value.nilFunc) 8 := ⟨Ty.of (by kernel_rfl)⟩
instance ty86 : TyC Try.prog 86 (Go.TypeDesc.array 4 4) 4 (Go.Value.agg (Array.mk [Go.Value.bool Bool.false, Go.Value.bool Bool.false, Go.Value.bool Bool.false, Go.Value.bool Bool.false])) 4 := ⟨Ty.of (by kernel_rfl)⟩
instance ty87 : TyC Try.prog 87 (Go.TypeDesc.int Go.IntKind.u64) 1 (Go.Value.int Go.IntKind.u64 (Int.ofNat 0)) 8 := ⟨Ty.of (by kernel_rfl)⟩
instance ty88 : TyC Try.prog 88 (Go.TypeDesc.func (Array.mk [28, 5]) (Array.mk [4]) Bool.false) 1 (Go.Value.nilFunc) 8 := ⟨Ty.of (by kernel_rfl)⟩
instance ty89 : TyC Try.prog 89 (Go.TypeDesc.func (Array.mk [28, 3]) (Array.mk [30]) Bool.false) 1 (Go.Value.nilFunc) 8 := ⟨Ty.of (by kernel_rfl)⟩
instance ty90 : TyC Try.prog 90 (Go.TypeDesc.func (Array.mk [28]) (Array.mk [3]) Bool.false) 1 (Go.Value.nilFunc) 8 := ⟨Ty.of (by kernel_rfl)⟩
instance ty91 : TyC Try.prog 91 (Go.TypeDesc.func (Array.mk [28, 79, 79, 5, 5]) (Array.mk [4]) Bool.false) 1 (Go.Value.nilFunc) 8 := ⟨Ty.of (by kernel_rfl)⟩
instance ty92 : TyC Try.prog 92 (Go.TypeDesc.func (Array.mk [80, 3]) (Array.mk [3]) Bool.false) 1 (Go.Value.nilFunc) 8 := ⟨Ty.of (by kernel_rfl)⟩
instance ty93 : TyC Try.prog 93 (Go.TypeDesc.func (Array.mk [28, 3, 3]) (Array.mk [22]) Bool.false) 1 (Go.Value.nilFunc) 8 := ⟨Ty.of (by kernel_rfl)⟩
instance ty94 : TyC Try.prog 94 (Go.TypeDesc.func (Array.mk [28, 80, 5, 5]) (Array.mk [4]) Bool.false) 1 (Go.Value.nilFunc) 8 := ⟨Ty.of (by kernel_rfl)⟩
instance ty95 : TyC Try.prog 95 (Go.TypeDesc.func (Array.mk [28, 3]) (Array.mk [22]) Bool.false) 1 (Go.Value.nilFunc) 8 := ⟨Ty.of (by kernel_rfl)⟩
instance ty96 : TyC Try.prog 96 (Go.TypeDesc.func (Array.mk [22]) (Array.mk [3]) Bool.false) 1 (Go.Value.nilFunc) 8 := ⟨Ty.of (by kernel_rfl)⟩
instance ty97 : TyC Try.prog 97 (Go.TypeDesc.func (Array.mk [28, 79]) (Array.mk [4]) Bool.false) 1 (Go.Value.nilFunc) 8 := ⟨Ty.of (by kernel_rfl)⟩
instance ty98 : TyC Try.prog 98 (Go.TypeDesc.func (Array.mk [28, 79, 5, 79, 80]) (Array.mk [4]) Bool.false) 1 (Go.Value.nilFunc) 8 := ⟨Ty.of (by kernel_rfl)⟩
instance ty99 : TyC Try.prog 99 (Go.TypeDesc.struct (Array.mk [Go.Field.mk "Hour" 3 0 Bool.false "" "" 0, Go.Field.mk "Buckets" 24 1 Bool.false "" "" 8])) 3 (Go.Value.agg (Array.mk [Go.Value.int Go.IntKind.i64 (Int.ofNat 0), Go.Value.int Go.IntKind.i64 (Int.ofNat 0), Go.Value.int Go.IntKind.i64 (Int.ofNat 0)])) 24 := ⟨Ty.of (by kernel_rfl)⟩
instance pl99 : PlC Try.prog 99 [(0, 1), (1, 2)] (Go.Value.agg (Array.mk [Go.Value.int Go.IntKind.i64 (Int.ofNat 0), Go.Value.int Go.IntKind.i64 (Int.ofNat 0), Go.Value.int Go.IntKind.i64 (Int.ofNat 0)])) := PlC.of ty99.ty (by kernel_rfl)
instance ty100 : TyC Try.prog 100 (Go.TypeDesc.struct (Array.mk [Go.Field.mk "Hour" 3 0 Bool.false "" "" 0, Go.Field.mk "Buckets" 24 1 Bool.false "" "" 8])) 3 (Go.Value.agg (Array.mk [Go.Value.int Go.IntKind.i64 (Int.ofNat 0), Go.Value.int Go.IntKind.i64 (Int.ofNat 0), Go.Value.int Go.IntKind.i64 (Int.ofNat 0)])) 24 := ⟨Ty.of (by kernel_rfl)⟩
instance pl100 : PlC Try.prog 100 [(0, 1), (1, 2)] (Go.Value.agg (Array.mk [Go.Value.int Go.IntKind.i64 (Int.ofNat 0), Go.Value.int Go.IntKind.i64 (Int.ofNat 0), Go.Value.int Go.IntKind.i64 (Int.ofNat 0)])) := PlC.of ty100.ty (by kernel_rfl)
instance ty101 : TyC Try.prog 101 (Go.TypeDesc.func (Array.mk [37, 37]) (Array.mk [4]) Bool.false) 1 (Go.Value.nilFunc) 8 := ⟨Ty.of (by kernel_rfl)⟩
instance ty102 : TyC Try.prog 102 (Go.TypeDesc.func (Array.mk [28, 100, 5, 79]) (Array.mk [4]) Bool.false) 1 (Go.Value.nilFunc) 8 := ⟨Ty.of (by kernel_rfl)⟩
instance ty103 : TyC Try.prog 103 (Go.TypeDesc.pointer 24) 1 (Go.Value.pointer Option.none) 8 := ⟨Ty.of (by kernel_rfl)⟩
instance ty104 : TyC Try.prog 104 (Go.TypeDesc.func (Array.mk [28, 5, 5, 79]) (Array.mk [4]) Bool.false) 1 (Go.Value.nilFunc) 8 := ⟨Ty.of (by kernel_rfl)⟩
instance ty105 : TyC Try.prog 105 (Go.TypeDesc.func (Array.mk [28, 3]) (Array.mk [28]) Bool.false) 1 (Go.Value.nilFunc) 8 := ⟨Ty.of (by kernel_rfl)⟩
instance ty106 : TyC Try.prog 106 (Go.TypeDesc.func (Array.mk [3]) (Array.mk [22]) Bool.false) 1 (Go.Value.nilFunc) 8 := ⟨Ty.of (by kernel_rfl)⟩
instance ty107 : TyC Try.prog 107 (Go.TypeDesc.array 5 3) 5 (Go.Value.agg (Array.mk [Go.Value.int Go.IntKind.i64 (Int.ofNat 0), Go.Value.int Go.IntKind.i64 (Int.ofNat 0), Go.Value.int Go.IntKind.i64 (Int.ofNat 0), Go.Value.int Go.IntKind.i64 (Int.ofNat 0), Go.Value.int Go.IntKind.i64 (Int.ofNat 0)])) 40 := ⟨Ty.of (by kernel_rfl)⟩
instance ty108 : TyC Try.prog 108 (Go.TypeDesc.array 5 3) 5 (Go.Value.agg (Array.mk [Go.Value.int Go.IntKind.i64 (Int.ofNat 0), Go.Value.int Go.IntKind.i64 (Int.ofNat 0), Go.Value.int Go.IntKind.i64 (Int.ofNat 0), Go.Value.int Go.IntKind.i64 (Int.ofNat 0), Go.Value.int Go.IntKind.i64 (Int.ofNat 0)])) 40 := ⟨Ty.of (by kernel_rfl)⟩
instance ty109 : TyC Try.prog 109 (Go.TypeDesc.struct (Array.mk [Go.Field.mk "heat" 3 0 Bool.false "" "posser/copper" 0, Go.Field.mk "loss" 108 1 Bool.false "" "posser/copper" 8])) 6 (Go.Value.agg (Array.mk [Go.Value.int Go.IntKind.i64 (Int.ofNat 0), Go.Value.int Go.IntKind.i64 (Int.ofNat 0), Go.Value.int Go.IntKind.i64 (Int.ofNat 0), Go.Value.int Go.IntKind.i64 (Int.ofNat 0), Go.Value.int Go.IntKind.i64 (Int.ofNat 0), Go.Value.int Go.IntKind.i64 (Int.ofNat 0)])) 48 := ⟨Ty.of (by kernel_rfl)⟩
instance pl109 : PlC Try.prog 109 [(0, 1), (1, 5)] (Go.Value.agg (Array.mk [Go.Value.int Go.IntKind.i64 (Int.ofNat 0), Go.Value.int Go.IntKind.i64 (Int.ofNat 0), Go.Value.int Go.IntKind.i64 (Int.ofNat 0), Go.Value.int Go.IntKind.i64 (Int.ofNat 0), Go.Value.int Go.IntKind.i64 (Int.ofNat 0), Go.Value.int Go.IntKind.i64 (Int.ofNat 0)])) := PlC.of ty109.ty (by kernel_rfl)
instance ty110 : TyC Try.prog 110 (Go.TypeDesc.struct (Array.mk [Go.Field.mk "heat" 3 0 Bool.false "" "posser/copper" 0, Go.Field.mk "loss" 108 1 Bool.false "" "posser/copper" 8])) 6 (Go.Value.agg (Array.mk [Go.Value.int Go.IntKind.i64 (Int.ofNat 0), Go.Value.int Go.IntKind.i64 (Int.ofNat 0), Go.Value.int Go.IntKind.i64 (Int.ofNat 0), Go.Value.int Go.IntKind.i64 (Int.ofNat 0), Go.Value.int Go.IntKind.i64 (Int.ofNat 0), Go.Value.int Go.IntKind.i64 (Int.ofNat 0)])) 48 := ⟨Ty.of (by kernel_rfl)⟩
instance pl110 : PlC Try.prog 110 [(0, 1), (1, 5)] (Go.Value.agg (Array.mk [Go.Value.int Go.IntKind.i64 (Int.ofNat 0), Go.Value.int Go.IntKind.i64 (Int.ofNat 0), Go.Value.int Go.IntKind.i64 (Int.ofNat 0), Go.Value.int Go.IntKind.i64 (Int.ofNat 0), Go.Value.int Go.IntKind.i64 (Int.ofNat 0), Go.Value.int Go.IntKind.i64 (Int.ofNat 0)])) := PlC.of ty110.ty (by kernel_rfl)
instance ty111 : TyC Try.prog 111 (Go.TypeDesc.tuple (Array.mk [110, 4])) 1 (Go.Value.tuple (Array.mk [Go.Value.agg (Array.mk [Go.Value.int Go.IntKind.i64 (Int.ofNat 0), Go.Value.int Go.IntKind.i64 (Int.ofNat 0), Go.Value.int Go.IntKind.i64 (Int.ofNat 0), Go.Value.int Go.IntKind.i64 (Int.ofNat 0), Go.Value.int Go.IntKind.i64 (Int.ofNat 0), Go.Value.int Go.IntKind.i64 (Int.ofNat 0)]), Go.Value.bool Bool.false])) 0 := ⟨Ty.of (by kernel_rfl)⟩
instance ty112 : TyC Try.prog 112 (Go.TypeDesc.func (Array.mk [42]) (Array.mk [110, 4]) Bool.false) 1 (Go.Value.nilFunc) 8 := ⟨Ty.of (by kernel_rfl)⟩
instance ty113 : TyC Try.prog 113 (Go.TypeDesc.struct (Array.mk [Go.Field.mk "Copper" 40 0 Bool.true "" "" 0, Go.Field.mk "hot" 108 11 Bool.false "" "posser/copper" 152, Go.Field.mk "left" 108 16 Bool.false "" "posser/copper" 192])) 21 (Go.Value.agg (Array.mk [Go.Value.int Go.IntKind.i64 (Int.ofNat 0), Go.Value.int Go.IntKind.i64 (Int.ofNat 0), Go.Value.int Go.IntKind.i64 (Int.ofNat 0), Go.Value.int Go.IntKind.i64 (Int.ofNat 0), Go.Value.int Go.IntKind.i64 (Int.ofNat 0), Go.Value.slice Option.none 0 0, Go.Value.slice Option.none 0 0, Go.Value.int Go.IntKind.i64 (Int.ofNat 0), Go.Value.int Go.IntKind.i64 (Int.ofNat 0), Go.Value.slice Option.none 0 0, Go.Value.slice Option.none 0 0, Go.Value.int Go.IntKind.i64 (Int.ofNat 0), Go.Value.int Go.IntKind.i64 (Int.ofNat 0), Go.Value.int Go.IntKind.i64 (Int.ofNat 0), Go.Value.int Go.IntKind.i64 (Int.ofNat 0), Go.Value.int Go.IntKind.i64 (Int.ofNat 0), Go.Value.int Go.IntKind.i64 (Int.ofNat 0), Go.Value.int Go.IntKind.i64 (Int.ofNat 0), Go.Value.int Go.IntKind.i64 (Int.ofNat 0), Go.Value.int Go.IntKind.i64 (Int.ofNat 0), Go.Value.int Go.IntKind.i64 (Int.ofNat 0)])) 232 := ⟨Ty.of (by kernel_rfl)⟩
instance pl113 : PlC Try.prog 113 [(0, 11), (11, 5), (16, 5)] (Go.Value.agg (Array.mk [Go.Value.int Go.IntKind.i64 (Int.ofNat 0), Go.Value.int Go.IntKind.i64 (Int.ofNat 0), Go.Value.int Go.IntKind.i64 (Int.ofNat 0), Go.Value.int Go.IntKind.i64 (Int.ofNat 0), Go.Value.int Go.IntKind.i64 (Int.ofNat 0), Go.Value.slice Option.none 0 0, Go.Value.slice Option.none 0 0, Go.Value.int Go.IntKind.i64 (Int.ofNat 0), Go.Value.int Go.IntKind.i64 (Int.ofNat 0), Go.Value.slice Option.none 0 0, Go.Value.slice Option.none 0 0, Go.Value.int Go.IntKind.i64 (Int.ofNat 0), Go.Value.int Go.IntKind.i64 (Int.ofNat 0), Go.Value.int Go.IntKind.i64 (Int.ofNat 0), Go.Value.int Go.IntKind.i64 (Int.ofNat 0), Go.Value.int Go.IntKind.i64 (Int.ofNat 0), Go.Value.int Go.IntKind.i64 (Int.ofNat 0), Go.Value.int Go.IntKind.i64 (Int.ofNat 0), Go.Value.int Go.IntKind.i64 (Int.ofNat 0), Go.Value.int Go.IntKind.i64 (Int.ofNat 0), Go.Value.int Go.IntKind.i64 (Int.ofNat 0)])) := PlC.of ty113.ty (by kernel_rfl)
instance ty114 : TyC Try.prog 114 (Go.TypeDesc.struct (Array.mk [Go.Field.mk "Copper" 40 0 Bool.true "" "" 0, Go.Field.mk "hot" 108 11 Bool.false "" "posser/copper" 152, Go.Field.mk "left" 108 16 Bool.false "" "posser/copper" 192])) 21 (Go.Value.agg (Array.mk [Go.Value.int Go.IntKind.i64 (Int.ofNat 0), Go.Value.int Go.IntKind.i64 (Int.ofNat 0), Go.Value.int Go.IntKind.i64 (Int.ofNat 0), Go.Value.int Go.IntKind.i64 (Int.ofNat 0), Go.Value.int Go.IntKind.i64 (Int.ofNat 0), Go.Value.slice Option.none 0 0, Go.Value.slice Option.none 0 0, Go.Value.int Go.IntKind.i64 (Int.ofNat 0), Go.Value.int Go.IntKind.i64 (Int.ofNat 0), Go.Value.slice Option.none 0 0, Go.Value.slice Option.none 0 0, Go.Value.int Go.IntKind.i64 (Int.ofNat 0), Go.Value.int Go.IntKind.i64 (Int.ofNat 0), Go.Value.int Go.IntKind.i64 (Int.ofNat 0), Go.Value.int Go.IntKind.i64 (Int.ofNat 0), Go.Value.int Go.IntKind.i64 (Int.ofNat 0), Go.Value.int Go.IntKind.i64 (Int.ofNat 0), Go.Value.int Go.IntKind.i64 (Int.ofNat 0), Go.Value.int Go.IntKind.i64 (Int.ofNat 0), Go.Value.int Go.IntKind.i64 (Int.ofNat 0), Go.Value.int Go.IntKind.i64 (Int.ofNat 0)])) 232 := ⟨Ty.of (by kernel_rfl)⟩
instance pl114 : PlC Try.prog 114 [(0, 11), (11, 5), (16, 5)] (Go.Value.agg (Array.mk [Go.Value.int Go.IntKind.i64 (Int.ofNat 0), Go.Value.int Go.IntKind.i64 (Int.ofNat 0), Go.Value.int Go.IntKind.i64 (Int.ofNat 0), Go.Value.int Go.IntKind.i64 (Int.ofNat 0), Go.Value.int Go.IntKind.i64 (Int.ofNat 0), Go.Value.slice Option.none 0 0, Go.Value.slice Option.none 0 0, Go.Value.int Go.IntKind.i64 (Int.ofNat 0), Go.Value.int Go.IntKind.i64 (Int.ofNat 0), Go.Value.slice Option.none 0 0, Go.Value.slice Option.none 0 0, Go.Value.int Go.IntKind.i64 (Int.ofNat 0), Go.Value.int Go.IntKind.i64 (Int.ofNat 0), Go.Value.int Go.IntKind.i64 (Int.ofNat 0), Go.Value.int Go.IntKind.i64 (Int.ofNat 0), Go.Value.int Go.IntKind.i64 (Int.ofNat 0), Go.Value.int Go.IntKind.i64 (Int.ofNat 0), Go.Value.int Go.IntKind.i64 (Int.ofNat 0), Go.Value.int Go.IntKind.i64 (Int.ofNat 0), Go.Value.int Go.IntKind.i64 (Int.ofNat 0), Go.Value.int Go.IntKind.i64 (Int.ofNat 0)])) := PlC.of ty114.ty (by kernel_rfl)
instance ty115 : TyC Try.prog 115 (Go.TypeDesc.func (Array.mk [110]) (Array.mk [114]) Bool.false) 1 (Go.Value.nilFunc) 8 := ⟨Ty.of (by kernel_rfl)⟩
instance ty116 : TyC Try.prog 116 (Go.TypeDesc.func (Array.mk [108]) (Array.mk [22]) Bool.false) 1 (Go.Value.nilFunc) 8 := ⟨Ty.of (by kernel_rfl)⟩
instance ty117 : TyC Try.prog 117 (Go.TypeDesc.func (Array.mk [144]) (Array.mk []) Bool.false) 1 (Go.Value.nilFunc) 8 := ⟨Ty.of (by kernel_rfl)⟩
instance ty118 : TyC Try.prog 118 (Go.TypeDesc.func (Array.mk [144]) (Array.mk []) Bool.false) 1 (Go.Value.nilFunc) 8 := ⟨Ty.of (by kernel_rfl)⟩
instance ty119 : TyC Try.prog 119 (Go.TypeDesc.func (Array.mk []) (Array.mk [118]) Bool.false) 1 (Go.Value.nilFunc) 8 := ⟨Ty.of (by kernel_rfl)⟩
instance ty120 : TyC Try.prog 120 (Go.TypeDesc.func (Array.mk []) (Array.mk [3]) Bool.false) 1 (Go.Value.nilFunc) 8 := ⟨Ty.of (by kernel_rfl)⟩
instance ty121 : TyC Try.prog 121 (Go.TypeDesc.func (Array.mk [28, 30]) (Array.mk [3]) Bool.false) 1 (Go.Value.nilFunc) 8 := ⟨Ty.of (by kernel_rfl)⟩
instance ty122 : TyC Try.prog 122 (Go.TypeDesc.func (Array.mk [3, 24]) (Array.mk [4]) Bool.false) 1 (Go.Value.nilFunc) 8 := ⟨Ty.of (by kernel_rfl)⟩
instance ty123 : TyC Try.prog 123 (Go.TypeDesc.func (Array.mk [114, 3]) (Array.mk [3]) Bool.false) 1 (Go.Value.nilFunc) 8 := ⟨Ty.of (by kernel_rfl)⟩
instance ty124 : TyC Try.prog 124 (Go.TypeDesc.func (Array.mk [3]) (Array.mk [3]) Bool.false) 1 (Go.Value.nilFunc) 8 := ⟨Ty.of (by kernel_rfl)⟩
instance ty125 : TyC Try.prog 125 (Go.TypeDesc.struct (Array.mk [Go.Field.mk "of" 123 0 Bool.false "" "posser/copper" 0])) 1 (Go.Value.agg (Array.mk [Go.Value.nilFunc])) 8 := ⟨Ty.of (by kernel_rfl)⟩
instance pl125 : PlC Try.prog 125 [(0, 1)] (Go.Value.agg (Array.mk [Go.Value.nilFunc])) := PlC.of ty125.ty (by kernel_rfl)
instance ty126 : TyC Try.prog 126 (Go.TypeDesc.struct (Array.mk [Go.Field.mk "of" 123 0 Bool.false "" "posser/copper" 0])) 1 (Go.Value.agg (Array.mk [Go.Value.nilFunc])) 8 := ⟨Ty.of (by kernel_rfl)⟩
instance pl126 : PlC Try.prog 126 [(0, 1)] (Go.Value.agg (Array.mk [Go.Value.nilFunc])) := PlC.of ty126.ty (by kernel_rfl)
instance ty127 : TyC Try.prog 127 (Go.TypeDesc.func (Array.mk [40]) (Array.mk [37]) Bool.false) 1 (Go.Value.nilFunc) 8 := ⟨Ty.of (by kernel_rfl)⟩
instance ty128 : TyC Try.prog 128 (Go.TypeDesc.func (Array.mk []) (Array.mk [24]) Bool.false) 1 (Go.Value.nilFunc) 8 := ⟨Ty.of (by kernel_rfl)⟩
instance ty129 : TyC Try.prog 129 (Go.TypeDesc.func (Array.mk [24, 3]) (Array.mk [24]) Bool.false) 1 (Go.Value.nilFunc) 8 := ⟨Ty.of (by kernel_rfl)⟩
instance ty130 : TyC Try.prog 130 (Go.TypeDesc.func (Array.mk [118, 132]) (Array.mk [3]) Bool.false) 1 (Go.Value.nilFunc) 8 := ⟨Ty.of (by kernel_rfl)⟩
instance ty131 : TyC Try.prog 131 (Go.TypeDesc.func (Array.mk [3]) (Array.mk [4]) Bool.false) 1 (Go.Value.nilFunc) 8 := ⟨Ty.of (by kernel_rfl)⟩
instance ty132 : TyC Try.prog 132 (Go.TypeDesc.func (Array.mk [114]) (Array.mk [4]) Bool.false) 1 (Go.Value.nilFunc) 8 := ⟨Ty.of (by kernel_rfl)⟩
instance ty133 : TyC Try.prog 133 (Go.TypeDesc.func (Array.mk [28, 30, 22, 22, 3]) (Array.mk [4]) Bool.false) 1 (Go.Value.nilFunc) 8 := ⟨Ty.of (by kernel_rfl)⟩
instance ty134 : TyC Try.prog 134 (Go.TypeDesc.func (Array.mk [3, 3]) (Array.mk [3]) Bool.false) 1 (Go.Value.nilFunc) 8 := ⟨Ty.of (by kernel_rfl)⟩
instance ty135 : TyC Try.prog 135 (Go.TypeDesc.func (Array.mk [22, 3]) (Array.mk [4]) Bool.false) 1 (Go.Value.nilFunc) 8 := ⟨Ty.of (by kernel_rfl)⟩
instance ty136 : TyC Try.prog 136 (Go.TypeDesc.func (Array.mk [22]) (Array.mk [40]) Bool.false) 1 (Go.Value.nilFunc) 8 := ⟨Ty.of (by kernel_rfl)⟩
instance ty137 : TyC Try.prog 137 (Go.TypeDesc.func (Array.mk [118]) (Array.mk [4]) Bool.false) 1 (Go.Value.nilFunc) 8 := ⟨Ty.of (by kernel_rfl)⟩
instance ty138 : TyC Try.prog 138 (Go.TypeDesc.func (Array.mk [28, 30, 22, 22]) (Array.mk [4]) Bool.false) 1 (Go.Value.nilFunc) 8 := ⟨Ty.of (by kernel_rfl)⟩
instance ty139 : TyC Try.prog 139 (Go.TypeDesc.func (Array.mk [38]) (Array.mk [40]) Bool.false) 1 (Go.Value.nilFunc) 8 := ⟨Ty.of (by kernel_rfl)⟩
instance ty140 : TyC Try.prog 140 (Go.TypeDesc.func (Array.mk []) (Array.mk [22]) Bool.false) 1 (Go.Value.nilFunc) 8 := ⟨Ty.of (by kernel_rfl)⟩
instance ty141 : TyC Try.prog 141 (Go.TypeDesc.tuple (Array.mk [108, 4])) 1 (Go.Value.tuple (Array.mk [Go.Value.agg (Array.mk [Go.Value.int Go.IntKind.i64 (Int.ofNat 0), Go.Value.int Go.IntKind.i64 (Int.ofNat 0), Go.Value.int Go.IntKind.i64 (Int.ofNat 0), Go.Value.int Go.IntKind.i64 (Int.ofNat 0), Go.Value.int Go.IntKind.i64 (Int.ofNat 0)]), Go.Value.bool Bool.false])) 0 := ⟨Ty.of (by kernel_rfl)⟩
instance ty142 : TyC Try.prog 142 (Go.TypeDesc.func (Array.mk []) (Array.mk [108, 4]) Bool.false) 1 (Go.Value.nilFunc) 8 := ⟨Ty.of (by kernel_rfl)⟩
instance ty143 : TyC Try.prog 143 (Go.TypeDesc.func (Array.mk [24]) (Array.mk [3]) Bool.false) 1 (Go.Value.nilFunc) 8 := ⟨Ty.of (by kernel_rfl)⟩
instance ty144 : TyC Try.prog 144 (Go.TypeDesc.func (Array.mk [110]) (Array.mk [4]) Bool.false) 1 (Go.Value.nilFunc) 8 := ⟨Ty.of (by kernel_rfl)⟩
instance ty145 : TyC Try.prog 145 (Go.TypeDesc.func (Array.mk [24, 3]) (Array.mk [4]) Bool.false) 1 (Go.Value.nilFunc) 8 := ⟨Ty.of (by kernel_rfl)⟩
instance ty146 : TyC Try.prog 146 (Go.TypeDesc.func (Array.mk [37, 147]) (Array.mk [4]) Bool.false) 1 (Go.Value.nilFunc) 8 := ⟨Ty.of (by kernel_rfl)⟩
instance ty147 : TyC Try.prog 147 (Go.TypeDesc.func (Array.mk [36]) (Array.mk [4]) Bool.false) 1 (Go.Value.nilFunc) 8 := ⟨Ty.of (by kernel_rfl)⟩
instance ty148 : TyC Try.prog 148 (Go.TypeDesc.func (Array.mk [38, 149]) (Array.mk [4]) Bool.false) 1 (Go.Value.nilFunc) 8 := ⟨Ty.of (by kernel_rfl)⟩
instance ty149 : TyC Try.prog 149 (Go.TypeDesc.func (Array.mk [78]) (Array.mk [4]) Bool.false) 1 (Go.Value.nilFunc) 8 := ⟨Ty.of (by kernel_rfl)⟩
instance ty150 : TyC Try.prog 150 (Go.TypeDesc.func (Array.mk [3, 22]) (Array.mk [3]) Bool.true) 1 (Go.Value.nilFunc) 8 := ⟨Ty.of (by kernel_rfl)⟩
instance ty151 : TyC Try.prog 151 (Go.TypeDesc.func (Array.mk [22, 131]) (Array.mk [4]) Bool.false) 1 (Go.Value.nilFunc) 8 := ⟨Ty.of (by kernel_rfl)⟩
instance ty152 : TyC Try.prog 152 (Go.TypeDesc.func (Array.mk [161]) (Array.mk []) Bool.false) 1 (Go.Value.nilFunc) 8 := ⟨Ty.of (by kernel_rfl)⟩
instance ty153 : TyC Try.prog 153 (Go.TypeDesc.func (Array.mk [161]) (Array.mk []) Bool.false) 1 (Go.Value.nilFunc) 8 := ⟨Ty.of (by kernel_rfl)⟩
instance ty154 : TyC Try.prog 154 (Go.TypeDesc.func (Array.mk [3, 3]) (Array.mk [153]) Bool.false) 1 (Go.Value.nilFunc) 8 := ⟨Ty.of (by kernel_rfl)⟩
instance ty155 : TyC Try.prog 155 (Go.TypeDesc.map 108 4) 1 (Go.Value.map Option.none) 8 := ⟨Ty.of (by kernel_rfl)⟩
instance ty156 : TyC Try.prog 156 (Go.TypeDesc.func (Array.mk []) (Array.mk [155]) Bool.false) 1 (Go.Value.nilFunc) 8 := ⟨Ty.of (by kernel_rfl)⟩
instance ty157 : TyC Try.prog 157 (Go.TypeDesc.func (Array.mk [166]) (Array.mk []) Bool.false) 1 (Go.Value.nilFunc) 8 := ⟨Ty.of (by kernel_rfl)⟩
instance ty158 : TyC Try.prog 158 (Go.TypeDesc.func (Array.mk [166]) (Array.mk []) Bool.false) 1 (Go.Value.nilFunc) 8 := ⟨Ty.of (by kernel_rfl)⟩
instance ty159 : TyC Try.prog 159 (Go.TypeDesc.func (Array.mk []) (Array.mk [158]) Bool.false) 1 (Go.Value.nilFunc) 8 := ⟨Ty.of (by kernel_rfl)⟩
instance ty160 : TyC Try.prog 160 (Go.TypeDesc.func (Array.mk [37]) (Array.mk [158]) Bool.false) 1 (Go.Value.nilFunc) 8 := ⟨Ty.of (by kernel_rfl)⟩
instance ty161 : TyC Try.prog 161 (Go.TypeDesc.func (Array.mk [22]) (Array.mk [4]) Bool.false) 1 (Go.Value.nilFunc) 8 := ⟨Ty.of (by kernel_rfl)⟩
instance ty162 : TyC Try.prog 162 (Go.TypeDesc.slice 110) 1 (Go.Value.slice Option.none 0 0) 24 := ⟨Ty.of (by kernel_rfl)⟩
instance ty163 : TyC Try.prog 163 (Go.TypeDesc.func (Array.mk [118]) (Array.mk [162]) Bool.false) 1 (Go.Value.nilFunc) 8 := ⟨Ty.of (by kernel_rfl)⟩
instance ty164 : TyC Try.prog 164 (Go.TypeDesc.func (Array.mk [155, 108]) (Array.mk [4]) Bool.false) 1 (Go.Value.nilFunc) 8 := ⟨Ty.of (by kernel_rfl)⟩
instance ty165 : TyC Try.prog 165 (Go.TypeDesc.func (Array.mk [162]) (Array.mk [118]) Bool.false) 1 (Go.Value.nilFunc) 8 := ⟨Ty.of (by kernel_rfl)⟩
instance ty166 : TyC Try.prog 166 (Go.TypeDesc.func (Array.mk [108]) (Array.mk [4]) Bool.false) 1 (Go.Value.nilFunc) 8 := ⟨Ty.of (by kernel_rfl)⟩
instance ty167 : TyC Try.prog 167 (Go.TypeDesc.func (Array.mk [22, 3]) (Array.mk [3]) Bool.false) 1 (Go.Value.nilFunc) 8 := ⟨Ty.of (by kernel_rfl)⟩
instance ty168 : TyC Try.prog 168 (Go.TypeDesc.func (Array.mk [162, 118]) (Array.mk [162]) Bool.false) 1 (Go.Value.nilFunc) 8 := ⟨Ty.of (by kernel_rfl)⟩
instance ty169 : TyC Try.prog 169 (Go.TypeDesc.func (Array.mk []) (Array.mk [9]) Bool.false) 1 (Go.Value.nilFunc) 8 := ⟨Ty.of (by kernel_rfl)⟩
instance ty170 : TyC Try.prog 170 (Go.TypeDesc.struct (Array.mk [Go.Field.mk "_interface" 17 0 Bool.false "" "runtime" 0, Go.Field.mk "concrete" 17 1 Bool.false "" "runtime" 8, Go.Field.mk "asserted" 17 2 Bool.false "" "runtime" 16, Go.Field.mk "missingMethod" 9 3 Bool.false "" "runtime" 24])) 4 (Go.Value.agg (Array.mk [Go.Value.pointer Option.none, Go.Value.pointer Option.none, Go.Value.pointer Option.none, Go.Value.string (ByteArray.mk (Array.mk []))])) 40 := ⟨Ty.of (by kernel_rfl)⟩
instance pl170 : PlC Try.prog 170 [(0, 1), (1, 1), (2, 1), (3, 1)] (Go.Value.agg (Array.mk [Go.Value.pointer Option.none, Go.Value.pointer Option.none, Go.Value.pointer Option.none, Go.Value.string (ByteArray.mk (Array.mk []))])) := PlC.of ty170.ty (by kernel_rfl)
instance ty171 : TyC Try.prog 171 (Go.TypeDesc.struct (Array.mk [Go.Field.mk "_interface" 17 0 Bool.false "" "runtime" 0, Go.Field.mk "concrete" 17 1 Bool.false "" "runtime" 8, Go.Field.mk "asserted" 17 2 Bool.false "" "runtime" 16, Go.Field.mk "missingMethod" 9 3 Bool.false "" "runtime" 24])) 4 (Go.Value.agg (Array.mk [Go.Value.pointer Option.none, Go.Value.pointer Option.none, Go.Value.pointer Option.none, Go.Value.string (ByteArray.mk (Array.mk []))])) 40 := ⟨Ty.of (by kernel_rfl)⟩
instance pl171 : PlC Try.prog 171 [(0, 1), (1, 1), (2, 1), (3, 1)] (Go.Value.agg (Array.mk [Go.Value.pointer Option.none, Go.Value.pointer Option.none, Go.Value.pointer Option.none, Go.Value.string (ByteArray.mk (Array.mk []))])) := PlC.of ty171.ty (by kernel_rfl)
instance ty172 : TyC Try.prog 172 (Go.TypeDesc.array 0 16) 0 (Go.Value.agg (Array.mk [])) 0 := ⟨Ty.of (by kernel_rfl)⟩
instance ty173 : TyC Try.prog 173 (Go.TypeDesc.struct (Array.mk [Go.Field.mk "_" 172 0 Bool.false "" "runtime" 0])) 0 (Go.Value.agg (Array.mk [])) 0 := ⟨Ty.of (by kernel_rfl)⟩
instance pl173 : PlC Try.prog 173 [(0, 0)] (Go.Value.agg (Array.mk [])) := PlC.of ty173.ty (by kernel_rfl)
instance ty174 : TyC Try.prog 174 (Go.TypeDesc.struct (Array.mk [Go.Field.mk "_" 172 0 Bool.false "" "runtime" 0])) 0 (Go.Value.agg (Array.mk [])) 0 := ⟨Ty.of (by kernel_rfl)⟩
instance pl174 : PlC Try.prog 174 [(0, 0)] (Go.Value.agg (Array.mk [])) := PlC.of ty174.ty (by kernel_rfl)
instance ty175 : TyC Try.prog 175 (Go.TypeDesc.int Go.IntKind.u32) 1 (Go.Value.int Go.IntKind.u32 (Int.ofNat 0)) 4 := ⟨Ty.of (by kernel_rfl)⟩
instance ty176 : TyC Try.prog 176 (Go.TypeDesc.int Go.IntKind.u8) 1 (Go.Value.int Go.IntKind.u8 (Int.ofNat 0)) 1 := ⟨Ty.of (by kernel_rfl)⟩
instance ty177 : TyC Try.prog 177 (Go.TypeDesc.int Go.IntKind.u8) 1 (Go.Value.int Go.IntKind.u8 (Int.ofNat 0)) 1 := ⟨Ty.of (by kernel_rfl)⟩
instance ty178 : TyC Try.prog 178 (Go.TypeDesc.func (Array.mk [184, 184]) (Array.mk [4]) Bool.false) 1 (Go.Value.nilFunc) 8 := ⟨Ty.of (by kernel_rfl)⟩
instance ty179 : TyC Try.prog 179 (Go.TypeDesc.pointer 5) 1 (Go.Value.pointer Option.none) 8 := ⟨Ty.of (by kernel_rfl)⟩
instance ty180 : TyC Try.prog 180 (Go.TypeDesc.int Go.IntKind.i32) 1 (Go.Value.int Go.IntKind.i32 (Int.ofNat 0)) 4 := ⟨Ty.of (by kernel_rfl)⟩
instance ty181 : TyC Try.prog 181 (Go.TypeDesc.int Go.IntKind.i32) 1 (Go.Value.int Go.IntKind.i32 (Int.ofNat 0)) 4 := ⟨Ty.of (by kernel_rfl)⟩
instance ty182 : TyC Try.prog 182 (Go.TypeDesc.struct (Array.mk [Go.Field.mk "Size_" 12 0 Bool.false "" "" 0, Go.Field.mk "PtrBytes" 12 1 Bool.false "" "" 8, Go.Field.mk "Hash" 175 2 Bool.false "" "" 16, Go.Field.mk "TFlag" 176 3 Bool.false "" "" 20, Go.Field.mk "Align_" 5 4 Bool.false "" "" 21, Go.Field.mk "FieldAlign_" 5 5 Bool.false "" "" 22, Go.Field.mk "Kind_" 177 6 Bool.false "" "" 23, Go.Field.mk "Equal" 178 7 Bool.false "" "" 24, Go.Field.mk "GCData" 179 8 Bool.false "" "" 32, Go.Field.mk "Str" 180 9 Bool.false "" "" 40, Go.Field.mk "PtrToThis" 181 10 Bool.false "" "" 44])) 11 (Go.Value.agg (Array.mk [Go.Value.int Go.IntKind.u64 (Int.ofNat 0), Go.Value.int Go.IntKind.u64 (Int.ofNat 0), Go.Value.int Go.IntKind.u32 (Int.ofNat 0), Go.Value.int Go.IntKind.u8 (Int.ofNat 0), Go.Value.int Go.IntKind.u8 (Int.ofNat 0), Go.Value.int Go.IntKind.u8 (Int.ofNat 0), Go.Value.int Go.IntKind.u8 (Int.ofNat 0), Go.Value.nilFunc, Go.Value.pointer Option.none, Go.Value.int Go.IntKind.i32 (Int.ofNat 0), Go.Value.int Go.IntKind.i32 (Int.ofNat 0)])) 48 := ⟨Ty.of (by kernel_rfl)⟩
instance pl182 : PlC Try.prog 182 [(0, 1), (1, 1), (2, 1), (3, 1), (4, 1), (5, 1), (6, 1), (7, 1), (8, 1), (9, 1), (10, 1)] (Go.Value.agg (Array.mk [Go.Value.int Go.IntKind.u64 (Int.ofNat 0), Go.Value.int Go.IntKind.u64 (Int.ofNat 0), Go.Value.int Go.IntKind.u32 (Int.ofNat 0), Go.Value.int Go.IntKind.u8 (Int.ofNat 0), Go.Value.int Go.IntKind.u8 (Int.ofNat 0), Go.Value.int Go.IntKind.u8 (Int.ofNat 0), Go.Value.int Go.IntKind.u8 (Int.ofNat 0), Go.Value.nilFunc, Go.Value.pointer Option.none, Go.Value.int Go.IntKind.i32 (Int.ofNat 0), Go.Value.int Go.IntKind.i32 (Int.ofNat 0)])) := PlC.of ty182.ty (by kernel_rfl)
instance ty183 : TyC Try.prog 183 (Go.TypeDesc.struct (Array.mk [Go.Field.mk "Size_" 12 0 Bool.false "" "" 0, Go.Field.mk "PtrBytes" 12 1 Bool.false "" "" 8, Go.Field.mk "Hash" 175 2 Bool.false "" "" 16, Go.Field.mk "TFlag" 176 3 Bool.false "" "" 20, Go.Field.mk "Align_" 5 4 Bool.false "" "" 21, Go.Field.mk "FieldAlign_" 5 5 Bool.false "" "" 22, Go.Field.mk "Kind_" 177 6 Bool.false "" "" 23, Go.Field.mk "Equal" 178 7 Bool.false "" "" 24, Go.Field.mk "GCData" 179 8 Bool.false "" "" 32, Go.Field.mk "Str" 180 9 Bool.false "" "" 40, Go.Field.mk "PtrToThis" 181 10 Bool.false "" "" 44])) 11 (Go.Value.agg (Array.mk [Go.Value.int Go.IntKind.u64 (Int.ofNat 0), Go.Value.int Go.IntKind.u64 (Int.ofNat 0), Go.Value.int Go.IntKind.u32 (Int.ofNat 0), Go.Value.int Go.IntKind.u8 (Int.ofNat 0), Go.Value.int Go.IntKind.u8 (Int.ofNat 0), Go.Value.int Go.IntKind.u8 (Int.ofNat 0), Go.Value.int Go.IntKind.u8 (Int.ofNat 0), Go.Value.nilFunc, Go.Value.pointer Option.none, Go.Value.int Go.IntKind.i32 (Int.ofNat 0), Go.Value.int Go.IntKind.i32 (Int.ofNat 0)])) 48 := ⟨Ty.of (by kernel_rfl)⟩
instance pl183 : PlC Try.prog 183 [(0, 1), (1, 1), (2, 1), (3, 1), (4, 1), (5, 1), (6, 1), (7, 1), (8, 1), (9, 1), (10, 1)] (Go.Value.agg (Array.mk [Go.Value.int Go.IntKind.u64 (Int.ofNat 0), Go.Value.int Go.IntKind.u64 (Int.ofNat 0), Go.Value.int Go.IntKind.u32 (Int.ofNat 0), Go.Value.int Go.IntKind.u8 (Int.ofNat 0), Go.Value.int Go.IntKind.u8 (Int.ofNat 0), Go.Value.int Go.IntKind.u8 (Int.ofNat 0), Go.Value.int Go.IntKind.u8 (Int.ofNat 0), Go.Value.nilFunc, Go.Value.pointer Option.none, Go.Value.int Go.IntKind.i32 (Int.ofNat 0), Go.Value.int Go.IntKind.i32 (Int.ofNat 0)])) := PlC.of ty183.ty (by kernel_rfl)
instance ty184 : TyC Try.prog 184 (Go.TypeDesc.unsafePointer) 1 (Go.Value.pointer Option.none) 8 := ⟨Ty.of (by kernel_rfl)⟩
instance ent3 : EntC Try.prog 3 := ⟨Enters.of Try.func3 (by kernel_rfl) (by kernel_rfl)⟩
instance ent4 : EntC Try.prog 4 := ⟨Enters.of Try.func4 (by kernel_rfl) (by kernel_rfl)⟩
instance ent5 : EntC Try.prog 5 := ⟨Enters.of Try.func5 (by kernel_rfl) (by kernel_rfl)⟩
instance ent6 : EntC Try.prog 6 := ⟨Enters.of Try.func6 (by kernel_rfl) (by kernel_rfl)⟩
instance ent7 : EntC Try.prog 7 := ⟨Enters.of Try.func7 (by kernel_rfl) (by kernel_rfl)⟩
instance ent8 : EntC Try.prog 8 := ⟨Enters.of Try.func8 (by kernel_rfl) (by kernel_rfl)⟩
instance ent9 : EntC Try.prog 9 := ⟨Enters.of Try.func9 (by kernel_rfl) (by kernel_rfl)⟩
instance ent10 : EntC Try.prog 10 := ⟨Enters.of Try.func10 (by kernel_rfl) (by kernel_rfl)⟩
instance ent11 : EntC Try.prog 11 := ⟨Enters.of Try.func11 (by kernel_rfl) (by kernel_rfl)⟩
instance ent12 : EntC Try.prog 12 := ⟨Enters.of Try.func12 (by kernel_rfl) (by kernel_rfl)⟩
instance ent13 : EntC Try.prog 13 := ⟨Enters.of Try.func13 (by kernel_rfl) (by kernel_rfl)⟩
instance ent14 : EntC Try.prog 14 := ⟨Enters.of Try.func14 (by kernel_rfl) (by kernel_rfl)⟩
instance ent15 : EntC Try.prog 15 := ⟨Enters.of Try.func15 (by kernel_rfl) (by kernel_rfl)⟩
instance ent16 : EntC Try.prog 16 := ⟨Enters.of Try.func16 (by kernel_rfl) (by kernel_rfl)⟩
instance ent17 : EntC Try.prog 17 := ⟨Enters.of Try.func17 (by kernel_rfl) (by kernel_rfl)⟩
instance ent18 : EntC Try.prog 18 := ⟨Enters.of Try.func18 (by kernel_rfl) (by kernel_rfl)⟩
instance ent19 : EntC Try.prog 19 := ⟨Enters.of Try.func19 (by kernel_rfl) (by kernel_rfl)⟩
instance ent20 : EntC Try.prog 20 := ⟨Enters.of Try.func20 (by kernel_rfl) (by kernel_rfl)⟩
instance ent21 : EntC Try.prog 21 := ⟨Enters.of Try.func21 (by kernel_rfl) (by kernel_rfl)⟩
instance ent22 : EntC Try.prog 22 := ⟨Enters.of Try.func22 (by kernel_rfl) (by kernel_rfl)⟩
instance ent23 : EntC Try.prog 23 := ⟨Enters.of Try.func23 (by kernel_rfl) (by kernel_rfl)⟩
instance ent24 : EntC Try.prog 24 := ⟨Enters.of Try.func24 (by kernel_rfl) (by kernel_rfl)⟩
instance ent25 : EntC Try.prog 25 := ⟨Enters.of Try.func25 (by kernel_rfl) (by kernel_rfl)⟩
instance ent26 : EntC Try.prog 26 := ⟨Enters.of Try.func26 (by kernel_rfl) (by kernel_rfl)⟩
instance ent27 : EntC Try.prog 27 := ⟨Enters.of Try.func27 (by kernel_rfl) (by kernel_rfl)⟩
instance ent28 : EntC Try.prog 28 := ⟨Enters.of Try.func28 (by kernel_rfl) (by kernel_rfl)⟩
instance ent29 : EntC Try.prog 29 := ⟨Enters.of Try.func29 (by kernel_rfl) (by kernel_rfl)⟩
instance ent30 : EntC Try.prog 30 := ⟨Enters.of Try.func30 (by kernel_rfl) (by kernel_rfl)⟩
instance ent31 : EntC Try.prog 31 := ⟨Enters.of Try.func31 (by kernel_rfl) (by kernel_rfl)⟩
instance ent32 : EntC Try.prog 32 := ⟨Enters.of Try.func32 (by kernel_rfl) (by kernel_rfl)⟩
instance ent33 : EntC Try.prog 33 := ⟨Enters.of Try.func33 (by kernel_rfl) (by kernel_rfl)⟩
instance ent34 : EntC Try.prog 34 := ⟨Enters.of Try.func34 (by kernel_rfl) (by kernel_rfl)⟩
instance ent35 : EntC Try.prog 35 := ⟨Enters.of Try.func35 (by kernel_rfl) (by kernel_rfl)⟩
instance ent36 : EntC Try.prog 36 := ⟨Enters.of Try.func36 (by kernel_rfl) (by kernel_rfl)⟩
instance ent37 : EntC Try.prog 37 := ⟨Enters.of Try.func37 (by kernel_rfl) (by kernel_rfl)⟩
instance ent38 : EntC Try.prog 38 := ⟨Enters.of Try.func38 (by kernel_rfl) (by kernel_rfl)⟩
instance ent39 : EntC Try.prog 39 := ⟨Enters.of Try.func39 (by kernel_rfl) (by kernel_rfl)⟩
instance ent40 : EntC Try.prog 40 := ⟨Enters.of Try.func40 (by kernel_rfl) (by kernel_rfl)⟩
instance ent41 : EntC Try.prog 41 := ⟨Enters.of Try.func41 (by kernel_rfl) (by kernel_rfl)⟩
instance ent42 : EntC Try.prog 42 := ⟨Enters.of Try.func42 (by kernel_rfl) (by kernel_rfl)⟩
instance ent43 : EntC Try.prog 43 := ⟨Enters.of Try.func43 (by kernel_rfl) (by kernel_rfl)⟩
instance ent44 : EntC Try.prog 44 := ⟨Enters.of Try.func44 (by kernel_rfl) (by kernel_rfl)⟩
instance ent45 : EntC Try.prog 45 := ⟨Enters.of Try.func45 (by kernel_rfl) (by kernel_rfl)⟩
instance ent46 : EntC Try.prog 46 := ⟨Enters.of Try.func46 (by kernel_rfl) (by kernel_rfl)⟩
instance ent47 : EntC Try.prog 47 := ⟨Enters.of Try.func47 (by kernel_rfl) (by kernel_rfl)⟩
instance ent48 : EntC Try.prog 48 := ⟨Enters.of Try.func48 (by kernel_rfl) (by kernel_rfl)⟩
instance ent49 : EntC Try.prog 49 := ⟨Enters.of Try.func49 (by kernel_rfl) (by kernel_rfl)⟩
instance ent50 : EntC Try.prog 50 := ⟨Enters.of Try.func50 (by kernel_rfl) (by kernel_rfl)⟩
instance ent51 : EntC Try.prog 51 := ⟨Enters.of Try.func51 (by kernel_rfl) (by kernel_rfl)⟩
instance ent52 : EntC Try.prog 52 := ⟨Enters.of Try.func52 (by kernel_rfl) (by kernel_rfl)⟩
instance ent53 : EntC Try.prog 53 := ⟨Enters.of Try.func53 (by kernel_rfl) (by kernel_rfl)⟩
instance ent54 : EntC Try.prog 54 := ⟨Enters.of Try.func54 (by kernel_rfl) (by kernel_rfl)⟩
instance ent55 : EntC Try.prog 55 := ⟨Enters.of Try.func55 (by kernel_rfl) (by kernel_rfl)⟩
instance ent56 : EntC Try.prog 56 := ⟨Enters.of Try.func56 (by kernel_rfl) (by kernel_rfl)⟩
instance ent57 : EntC Try.prog 57 := ⟨Enters.of Try.func57 (by kernel_rfl) (by kernel_rfl)⟩
instance ent58 : EntC Try.prog 58 := ⟨Enters.of Try.func58 (by kernel_rfl) (by kernel_rfl)⟩
instance ent59 : EntC Try.prog 59 := ⟨Enters.of Try.func59 (by kernel_rfl) (by kernel_rfl)⟩
instance ent60 : EntC Try.prog 60 := ⟨Enters.of Try.func60 (by kernel_rfl) (by kernel_rfl)⟩
instance ent61 : EntC Try.prog 61 := ⟨Enters.of Try.func61 (by kernel_rfl) (by kernel_rfl)⟩
instance ent62 : EntC Try.prog 62 := ⟨Enters.of Try.func62 (by kernel_rfl) (by kernel_rfl)⟩
instance ent63 : EntC Try.prog 63 := ⟨Enters.of Try.func63 (by kernel_rfl) (by kernel_rfl)⟩
instance ent64 : EntC Try.prog 64 := ⟨Enters.of Try.func64 (by kernel_rfl) (by kernel_rfl)⟩
instance ent65 : EntC Try.prog 65 := ⟨Enters.of Try.func65 (by kernel_rfl) (by kernel_rfl)⟩
instance ent66 : EntC Try.prog 66 := ⟨Enters.of Try.func66 (by kernel_rfl) (by kernel_rfl)⟩
instance ent67 : EntC Try.prog 67 := ⟨Enters.of Try.func67 (by kernel_rfl) (by kernel_rfl)⟩
instance ent68 : EntC Try.prog 68 := ⟨Enters.of Try.func68 (by kernel_rfl) (by kernel_rfl)⟩
instance ent69 : EntC Try.prog 69 := ⟨Enters.of Try.func69 (by kernel_rfl) (by kernel_rfl)⟩
instance ent70 : EntC Try.prog 70 := ⟨Enters.of Try.func70 (by kernel_rfl) (by kernel_rfl)⟩
instance ent71 : EntC Try.prog 71 := ⟨Enters.of Try.func71 (by kernel_rfl) (by kernel_rfl)⟩
instance ent72 : EntC Try.prog 72 := ⟨Enters.of Try.func72 (by kernel_rfl) (by kernel_rfl)⟩
instance ent73 : EntC Try.prog 73 := ⟨Enters.of Try.func73 (by kernel_rfl) (by kernel_rfl)⟩
instance ent74 : EntC Try.prog 74 := ⟨Enters.of Try.func74 (by kernel_rfl) (by kernel_rfl)⟩
instance ent75 : EntC Try.prog 75 := ⟨Enters.of Try.func75 (by kernel_rfl) (by kernel_rfl)⟩
instance ent76 : EntC Try.prog 76 := ⟨Enters.of Try.func76 (by kernel_rfl) (by kernel_rfl)⟩
instance ent77 : EntC Try.prog 77 := ⟨Enters.of Try.func77 (by kernel_rfl) (by kernel_rfl)⟩
instance ent78 : EntC Try.prog 78 := ⟨Enters.of Try.func78 (by kernel_rfl) (by kernel_rfl)⟩
instance ent79 : EntC Try.prog 79 := ⟨Enters.of Try.func79 (by kernel_rfl) (by kernel_rfl)⟩
instance ent80 : EntC Try.prog 80 := ⟨Enters.of Try.func80 (by kernel_rfl) (by kernel_rfl)⟩
instance ent81 : EntC Try.prog 81 := ⟨Enters.of Try.func81 (by kernel_rfl) (by kernel_rfl)⟩
instance ent82 : EntC Try.prog 82 := ⟨Enters.of Try.func82 (by kernel_rfl) (by kernel_rfl)⟩
instance ent83 : EntC Try.prog 83 := ⟨Enters.of Try.func83 (by kernel_rfl) (by kernel_rfl)⟩
instance ent84 : EntC Try.prog 84 := ⟨Enters.of Try.func84 (by kernel_rfl) (by kernel_rfl)⟩
instance ent85 : EntC Try.prog 85 := ⟨Enters.of Try.func85 (by kernel_rfl) (by kernel_rfl)⟩
instance ent86 : EntC Try.prog 86 := ⟨Enters.of Try.func86 (by kernel_rfl) (by kernel_rfl)⟩
instance ent87 : EntC Try.prog 87 := ⟨Enters.of Try.func87 (by kernel_rfl) (by kernel_rfl)⟩
instance ent88 : EntC Try.prog 88 := ⟨Enters.of Try.func88 (by kernel_rfl) (by kernel_rfl)⟩
instance ent89 : EntC Try.prog 89 := ⟨Enters.of Try.func89 (by kernel_rfl) (by kernel_rfl)⟩
instance ent90 : EntC Try.prog 90 := ⟨Enters.of Try.func90 (by kernel_rfl) (by kernel_rfl)⟩
instance ent91 : EntC Try.prog 91 := ⟨Enters.of Try.func91 (by kernel_rfl) (by kernel_rfl)⟩
instance ent92 : EntC Try.prog 92 := ⟨Enters.of Try.func92 (by kernel_rfl) (by kernel_rfl)⟩
instance ent93 : EntC Try.prog 93 := ⟨Enters.of Try.func93 (by kernel_rfl) (by kernel_rfl)⟩
instance ent94 : EntC Try.prog 94 := ⟨Enters.of Try.func94 (by kernel_rfl) (by kernel_rfl)⟩
instance ent95 : EntC Try.prog 95 := ⟨Enters.of Try.func95 (by kernel_rfl) (by kernel_rfl)⟩
instance ent96 : EntC Try.prog 96 := ⟨Enters.of Try.func96 (by kernel_rfl) (by kernel_rfl)⟩
instance ent97 : EntC Try.prog 97 := ⟨Enters.of Try.func97 (by kernel_rfl) (by kernel_rfl)⟩
instance ent98 : EntC Try.prog 98 := ⟨Enters.of Try.func98 (by kernel_rfl) (by kernel_rfl)⟩
instance ent99 : EntC Try.prog 99 := ⟨Enters.of Try.func99 (by kernel_rfl) (by kernel_rfl)⟩
instance ent100 : EntC Try.prog 100 := ⟨Enters.of Try.func100 (by kernel_rfl) (by kernel_rfl)⟩
instance ent101 : EntC Try.prog 101 := ⟨Enters.of Try.func101 (by kernel_rfl) (by kernel_rfl)⟩
instance ent102 : EntC Try.prog 102 := ⟨Enters.of Try.func102 (by kernel_rfl) (by kernel_rfl)⟩
instance ent103 : EntC Try.prog 103 := ⟨Enters.of Try.func103 (by kernel_rfl) (by kernel_rfl)⟩
instance ent104 : EntC Try.prog 104 := ⟨Enters.of Try.func104 (by kernel_rfl) (by kernel_rfl)⟩
instance ent105 : EntC Try.prog 105 := ⟨Enters.of Try.func105 (by kernel_rfl) (by kernel_rfl)⟩
instance ent106 : EntC Try.prog 106 := ⟨Enters.of Try.func106 (by kernel_rfl) (by kernel_rfl)⟩
instance ent107 : EntC Try.prog 107 := ⟨Enters.of Try.func107 (by kernel_rfl) (by kernel_rfl)⟩
instance ent108 : EntC Try.prog 108 := ⟨Enters.of Try.func108 (by kernel_rfl) (by kernel_rfl)⟩
instance ent109 : EntC Try.prog 109 := ⟨Enters.of Try.func109 (by kernel_rfl) (by kernel_rfl)⟩
instance ent110 : EntC Try.prog 110 := ⟨Enters.of Try.func110 (by kernel_rfl) (by kernel_rfl)⟩
instance ent111 : EntC Try.prog 111 := ⟨Enters.of Try.func111 (by kernel_rfl) (by kernel_rfl)⟩
instance ent112 : EntC Try.prog 112 := ⟨Enters.of Try.func112 (by kernel_rfl) (by kernel_rfl)⟩
instance ent113 : EntC Try.prog 113 := ⟨Enters.of Try.func113 (by kernel_rfl) (by kernel_rfl)⟩
instance ent114 : EntC Try.prog 114 := ⟨Enters.of Try.func114 (by kernel_rfl) (by kernel_rfl)⟩
instance ent115 : EntC Try.prog 115 := ⟨Enters.of Try.func115 (by kernel_rfl) (by kernel_rfl)⟩
instance ent116 : EntC Try.prog 116 := ⟨Enters.of Try.func116 (by kernel_rfl) (by kernel_rfl)⟩
instance ent117 : EntC Try.prog 117 := ⟨Enters.of Try.func117 (by kernel_rfl) (by kernel_rfl)⟩
instance ent118 : EntC Try.prog 118 := ⟨Enters.of Try.func118 (by kernel_rfl) (by kernel_rfl)⟩
instance ent119 : EntC Try.prog 119 := ⟨Enters.of Try.func119 (by kernel_rfl) (by kernel_rfl)⟩
instance ent120 : EntC Try.prog 120 := ⟨Enters.of Try.func120 (by kernel_rfl) (by kernel_rfl)⟩
instance ent121 : EntC Try.prog 121 := ⟨Enters.of Try.func121 (by kernel_rfl) (by kernel_rfl)⟩
instance ent122 : EntC Try.prog 122 := ⟨Enters.of Try.func122 (by kernel_rfl) (by kernel_rfl)⟩
instance ent123 : EntC Try.prog 123 := ⟨Enters.of Try.func123 (by kernel_rfl) (by kernel_rfl)⟩
instance ent124 : EntC Try.prog 124 := ⟨Enters.of Try.func124 (by kernel_rfl) (by kernel_rfl)⟩
instance ent125 : EntC Try.prog 125 := ⟨Enters.of Try.func125 (by kernel_rfl) (by kernel_rfl)⟩
instance ent126 : EntC Try.prog 126 := ⟨Enters.of Try.func126 (by kernel_rfl) (by kernel_rfl)⟩
instance ent127 : EntC Try.prog 127 := ⟨Enters.of Try.func127 (by kernel_rfl) (by kernel_rfl)⟩
instance ent128 : EntC Try.prog 128 := ⟨Enters.of Try.func128 (by kernel_rfl) (by kernel_rfl)⟩
instance ent129 : EntC Try.prog 129 := ⟨Enters.of Try.func129 (by kernel_rfl) (by kernel_rfl)⟩
instance ent130 : EntC Try.prog 130 := ⟨Enters.of Try.func130 (by kernel_rfl) (by kernel_rfl)⟩
instance ent131 : EntC Try.prog 131 := ⟨Enters.of Try.func131 (by kernel_rfl) (by kernel_rfl)⟩
instance ent132 : EntC Try.prog 132 := ⟨Enters.of Try.func132 (by kernel_rfl) (by kernel_rfl)⟩
instance ent133 : EntC Try.prog 133 := ⟨Enters.of Try.func133 (by kernel_rfl) (by kernel_rfl)⟩
instance ent134 : EntC Try.prog 134 := ⟨Enters.of Try.func134 (by kernel_rfl) (by kernel_rfl)⟩
instance ent135 : EntC Try.prog 135 := ⟨Enters.of Try.func135 (by kernel_rfl) (by kernel_rfl)⟩
instance ent136 : EntC Try.prog 136 := ⟨Enters.of Try.func136 (by kernel_rfl) (by kernel_rfl)⟩
instance ent137 : EntC Try.prog 137 := ⟨Enters.of Try.func137 (by kernel_rfl) (by kernel_rfl)⟩
instance ent138 : EntC Try.prog 138 := ⟨Enters.of Try.func138 (by kernel_rfl) (by kernel_rfl)⟩
instance ent139 : EntC Try.prog 139 := ⟨Enters.of Try.func139 (by kernel_rfl) (by kernel_rfl)⟩
instance ent140 : EntC Try.prog 140 := ⟨Enters.of Try.func140 (by kernel_rfl) (by kernel_rfl)⟩
instance ent141 : EntC Try.prog 141 := ⟨Enters.of Try.func141 (by kernel_rfl) (by kernel_rfl)⟩
instance ent142 : EntC Try.prog 142 := ⟨Enters.of Try.func142 (by kernel_rfl) (by kernel_rfl)⟩
instance ent143 : EntC Try.prog 143 := ⟨Enters.of Try.func143 (by kernel_rfl) (by kernel_rfl)⟩
instance ent144 : EntC Try.prog 144 := ⟨Enters.of Try.func144 (by kernel_rfl) (by kernel_rfl)⟩
instance fa7_0 : FaC Try.prog 7 0 0 := FaC.of ty7.ty rfl ty2.ty (by decide) rfl
instance fd7_0 : FdC Try.prog 7 0 0 false 1 := FdC.of ty7.ty rfl ty2.ty rfl rfl
instance fa7_1 : FaC Try.prog 7 1 1 := FaC.of ty7.ty rfl ty3.ty (by decide) rfl
instance fd7_1 : FdC Try.prog 7 1 1 false 1 := FdC.of ty7.ty rfl ty3.ty rfl rfl
instance fa7_2 : FaC Try.prog 7 2 2 := FaC.of ty7.ty rfl ty4.ty (by decide) rfl
instance fd7_2 : FdC Try.prog 7 2 2 false 1 := FdC.of ty7.ty rfl ty4.ty rfl rfl
instance fa7_3 : FaC Try.prog 7 3 3 := FaC.of ty7.ty rfl ty6.ty (by decide) rfl
instance fd7_3 : FdC Try.prog 7 3 3 false 1 := FdC.of ty7.ty rfl ty6.ty rfl rfl
instance fa8_0 : FaC Try.prog 8 0 0 := FaC.of ty8.ty rfl ty2.ty (by decide) rfl
instance fd8_0 : FdC Try.prog 8 0 0 false 1 := FdC.of ty8.ty rfl ty2.ty rfl rfl
instance fa8_1 : FaC Try.prog 8 1 1 := FaC.of ty8.ty rfl ty3.ty (by decide) rfl
instance fd8_1 : FdC Try.prog 8 1 1 false 1 := FdC.of ty8.ty rfl ty3.ty rfl rfl
instance fa8_2 : FaC Try.prog 8 2 2 := FaC.of ty8.ty rfl ty4.ty (by decide) rfl
instance fd8_2 : FdC Try.prog 8 2 2 false 1 := FdC.of ty8.ty rfl ty4.ty rfl rfl
instance fa8_3 : FaC Try.prog 8 3 3 := FaC.of ty8.ty rfl ty6.ty (by decide) rfl
instance fd8_3 : FdC Try.prog 8 3 3 false 1 := FdC.of ty8.ty rfl ty6.ty rfl rfl
instance fa13_0 : FaC Try.prog 13 0 0 := FaC.of ty13.ty rfl ty9.ty (by decide) rfl
instance fd13_0 : FdC Try.prog 13 0 0 false 1 := FdC.of ty13.ty rfl ty9.ty rfl rfl
instance fa13_1 : FaC Try.prog 13 1 1 := FaC.of ty13.ty rfl ty12.ty (by decide) rfl
instance fd13_1 : FdC Try.prog 13 1 1 false 1 := FdC.of ty13.ty rfl ty12.ty rfl rfl
instance fa14_0 : FaC Try.prog 14 0 0 := FaC.of ty14.ty rfl ty9.ty (by decide) rfl
instance fd14_0 : FdC Try.prog 14 0 0 false 1 := FdC.of ty14.ty rfl ty9.ty rfl rfl
instance fa14_1 : FaC Try.prog 14 1 1 := FaC.of ty14.ty rfl ty12.ty (by decide) rfl
instance fd14_1 : FdC Try.prog 14 1 1 false 1 := FdC.of ty14.ty rfl ty12.ty rfl rfl
instance fa18_0 : FaC Try.prog 18 0 0 := FaC.of ty18.ty rfl ty17.ty (by decide) rfl
instance fd18_0 : FdC Try.prog 18 0 0 false 1 := FdC.of ty18.ty rfl ty17.ty rfl rfl
instance fa19_0 : FaC Try.prog 19 0 0 := FaC.of ty19.ty rfl ty17.ty (by decide) rfl
instance fd19_0 : FdC Try.prog 19 0 0 false 1 := FdC.of ty19.ty rfl ty17.ty rfl rfl
instance fa23_0 : FaC Try.prog 23 0 0 := FaC.of ty23.ty rfl ty3.ty (by decide) rfl
instance fd23_0 : FdC Try.prog 23 0 0 false 1 := FdC.of ty23.ty rfl ty3.ty rfl rfl
instance fa23_1 : FaC Try.prog 23 1 1 := FaC.of ty23.ty rfl ty3.ty (by decide) rfl
instance fd23_1 : FdC Try.prog 23 1 1 false 1 := FdC.of ty23.ty rfl ty3.ty rfl rfl
instance fa24_0 : FaC Try.prog 24 0 0 := FaC.of ty24.ty rfl ty3.ty (by decide) rfl
instance fd24_0 : FdC Try.prog 24 0 0 false 1 := FdC.of ty24.ty rfl ty3.ty rfl rfl
instance fa24_1 : FaC Try.prog 24 1 1 := FaC.of ty24.ty rfl ty3.ty (by decide) rfl
instance fd24_1 : FdC Try.prog 24 1 1 false 1 := FdC.of ty24.ty rfl ty3.ty rfl rfl
instance fa27_0 : FaC Try.prog 27 0 0 := FaC.of ty27.ty rfl ty3.ty (by decide) rfl
instance fd27_0 : FdC Try.prog 27 0 0 false 1 := FdC.of ty27.ty rfl ty3.ty rfl rfl
instance fa27_1 : FaC Try.prog 27 1 1 := FaC.of ty27.ty rfl ty3.ty (by decide) rfl
instance fd27_1 : FdC Try.prog 27 1 1 false 1 := FdC.of ty27.ty rfl ty3.ty rfl rfl
instance fa27_2 : FaC Try.prog 27 2 2 := FaC.of ty27.ty rfl ty3.ty (by decide) rfl
instance fd27_2 : FdC Try.prog 27 2 2 false 1 := FdC.of ty27.ty rfl ty3.ty rfl rfl
instance fa27_3 : FaC Try.prog 27 3 3 := FaC.of ty27.ty rfl ty3.ty (by decide) rfl
instance fd27_3 : FdC Try.prog 27 3 3 false 1 := FdC.of ty27.ty rfl ty3.ty rfl rfl
instance fa27_4 : FaC Try.prog 27 4 4 := FaC.of ty27.ty rfl ty3.ty (by decide) rfl
instance fd27_4 : FdC Try.prog 27 4 4 false 1 := FdC.of ty27.ty rfl ty3.ty rfl rfl
instance fa27_5 : FaC Try.prog 27 5 5 := FaC.of ty27.ty rfl ty22.ty (by decide) rfl
instance fd27_5 : FdC Try.prog 27 5 5 false 1 := FdC.of ty27.ty rfl ty22.ty rfl rfl
instance fa27_6 : FaC Try.prog 27 6 6 := FaC.of ty27.ty rfl ty22.ty (by decide) rfl
instance fd27_6 : FdC Try.prog 27 6 6 false 1 := FdC.of ty27.ty rfl ty22.ty rfl rfl
instance fa27_7 : FaC Try.prog 27 7 7 := FaC.of ty27.ty rfl ty24.ty (by decide) rfl
instance fd27_7 : FdC Try.prog 27 7 7 true 2 := FdC.of ty27.ty rfl ty24.ty rfl rfl
instance fa27_8 : FaC Try.prog 27 8 9 := FaC.of ty27.ty rfl ty25.ty (by decide) rfl
instance fd27_8 : FdC Try.prog 27 8 9 false 1 := FdC.of ty27.ty rfl ty25.ty rfl rfl
instance fa27_9 : FaC Try.prog 27 9 10 := FaC.of ty27.ty rfl ty26.ty (by decide) rfl
instance fd27_9 : FdC Try.prog 27 9 10 false 1 := FdC.of ty27.ty rfl ty26.ty rfl rfl
instance fa28_0 : FaC Try.prog 28 0 0 := FaC.of ty28.ty rfl ty3.ty (by decide) rfl
instance fd28_0 : FdC Try.prog 28 0 0 false 1 := FdC.of ty28.ty rfl ty3.ty rfl rfl
instance fa28_1 : FaC Try.prog 28 1 1 := FaC.of ty28.ty rfl ty3.ty (by decide) rfl
instance fd28_1 : FdC Try.prog 28 1 1 false 1 := FdC.of ty28.ty rfl ty3.ty rfl rfl
instance fa28_2 : FaC Try.prog 28 2 2 := FaC.of ty28.ty rfl ty3.ty (by decide) rfl
instance fd28_2 : FdC Try.prog 28 2 2 false 1 := FdC.of ty28.ty rfl ty3.ty rfl rfl
instance fa28_3 : FaC Try.prog 28 3 3 := FaC.of ty28.ty rfl ty3.ty (by decide) rfl
instance fd28_3 : FdC Try.prog 28 3 3 false 1 := FdC.of ty28.ty rfl ty3.ty rfl rfl
instance fa28_4 : FaC Try.prog 28 4 4 := FaC.of ty28.ty rfl ty3.ty (by decide) rfl
instance fd28_4 : FdC Try.prog 28 4 4 false 1 := FdC.of ty28.ty rfl ty3.ty rfl rfl
instance fa28_5 : FaC Try.prog 28 5 5 := FaC.of ty28.ty rfl ty22.ty (by decide) rfl
instance fd28_5 : FdC Try.prog 28 5 5 false 1 := FdC.of ty28.ty rfl ty22.ty rfl rfl
instance fa28_6 : FaC Try.prog 28 6 6 := FaC.of ty28.ty rfl ty22.ty (by decide) rfl
instance fd28_6 : FdC Try.prog 28 6 6 false 1 := FdC.of ty28.ty rfl ty22.ty rfl rfl
instance fa28_7 : FaC Try.prog 28 7 7 := FaC.of ty28.ty rfl ty24.ty (by decide) rfl
instance fd28_7 : FdC Try.prog 28 7 7 true 2 := FdC.of ty28.ty rfl ty24.ty rfl rfl
instance fa28_8 : FaC Try.prog 28 8 9 := FaC.of ty28.ty rfl ty25.ty (by decide) rfl
instance fd28_8 : FdC Try.prog 28 8 9 false 1 := FdC.of ty28.ty rfl ty25.ty rfl rfl
instance fa28_9 : FaC Try.prog 28 9 10 := FaC.of ty28.ty rfl ty26.ty (by decide) rfl
instance fd28_9 : FdC Try.prog 28 9 10 false 1 := FdC.of ty28.ty rfl ty26.ty rfl rfl
instance fa29_0 : FaC Try.prog 29 0 0 := FaC.of ty29.ty rfl ty3.ty (by decide) rfl
instance fd29_0 : FdC Try.prog 29 0 0 false 1 := FdC.of ty29.ty rfl ty3.ty rfl rfl
instance fa29_1 : FaC Try.prog 29 1 1 := FaC.of ty29.ty rfl ty22.ty (by decide) rfl
instance fd29_1 : FdC Try.prog 29 1 1 false 1 := FdC.of ty29.ty rfl ty22.ty rfl rfl
instance fa30_0 : FaC Try.prog 30 0 0 := FaC.of ty30.ty rfl ty3.ty (by decide) rfl
instance fd30_0 : FdC Try.prog 30 0 0 false 1 := FdC.of ty30.ty rfl ty3.ty rfl rfl
instance fa30_1 : FaC Try.prog 30 1 1 := FaC.of ty30.ty rfl ty22.ty (by decide) rfl
instance fd30_1 : FdC Try.prog 30 1 1 false 1 := FdC.of ty30.ty rfl ty22.ty rfl rfl
instance fa36_0 : FaC Try.prog 36 0 0 := FaC.of ty36.ty rfl ty3.ty (by decide) rfl
instance fd36_0 : FdC Try.prog 36 0 0 false 1 := FdC.of ty36.ty rfl ty3.ty rfl rfl
instance fa36_1 : FaC Try.prog 36 1 1 := FaC.of ty36.ty rfl ty3.ty (by decide) rfl
instance fd36_1 : FdC Try.prog 36 1 1 false 1 := FdC.of ty36.ty rfl ty3.ty rfl rfl
instance fa39_0 : FaC Try.prog 39 0 0 := FaC.of ty39.ty rfl ty3.ty (by decide) rfl
instance fd39_0 : FdC Try.prog 39 0 0 false 1 := FdC.of ty39.ty rfl ty3.ty rfl rfl
instance fa39_1 : FaC Try.prog 39 1 1 := FaC.of ty39.ty rfl ty3.ty (by decide) rfl
instance fd39_1 : FdC Try.prog 39 1 1 false 1 := FdC.of ty39.ty rfl ty3.ty rfl rfl
instance fa39_2 : FaC Try.prog 39 2 2 := FaC.of ty39.ty rfl ty3.ty (by decide) rfl
instance fd39_2 : FdC Try.prog 39 2 2 false 1 := FdC.of ty39.ty rfl ty3.ty rfl rfl
instance fa39_3 : FaC Try.prog 39 3 3 := FaC.of ty39.ty rfl ty3.ty (by decide) rfl
instance fd39_3 : FdC Try.prog 39 3 3 false 1 := FdC.of ty39.ty rfl ty3.ty rfl rfl
instance fa39_4 : FaC Try.prog 39 4 4 := FaC.of ty39.ty rfl ty3.ty (by decide) rfl
instance fd39_4 : FdC Try.prog 39 4 4 false 1 := FdC.of ty39.ty rfl ty3.ty rfl rfl
instance fa39_5 : FaC Try.prog 39 5 5 := FaC.of ty39.ty rfl ty22.ty (by decide) rfl
instance fd39_5 : FdC Try.prog 39 5 5 false 1 := FdC.of ty39.ty rfl ty22.ty rfl rfl
instance fa39_6 : FaC Try.prog 39 6 6 := FaC.of ty39.ty rfl ty22.ty (by decide) rfl
instance fd39_6 : FdC Try.prog 39 6 6 false 1 := FdC.of ty39.ty rfl ty22.ty rfl rfl
instance fa39_7 : FaC Try.prog 39 7 7 := FaC.of ty39.ty rfl ty36.ty (by decide) rfl
instance fd39_7 : FdC Try.prog 39 7 7 true 2 := FdC.of ty39.ty rfl ty36.ty rfl rfl
instance fa39_8 : FaC Try.prog 39 8 9 := FaC.of ty39.ty rfl ty37.ty (by decide) rfl
instance fd39_8 : FdC Try.prog 39 8 9 false 1 := FdC.of ty39.ty rfl ty37.ty rfl rfl
instance fa39_9 : FaC Try.prog 39 9 10 := FaC.of ty39.ty rfl ty38.ty (by decide) rfl
instance fd39_9 : FdC Try.prog 39 9 10 false 1 := FdC.of ty39.ty rfl ty38.ty rfl rfl
instance fa40_0 : FaC Try.prog 40 0 0 := FaC.of ty40.ty rfl ty3.ty (by decide) rfl
instance fd40_0 : FdC Try.prog 40 0 0 false 1 := FdC.of ty40.ty rfl ty3.ty rfl rfl
instance fa40_1 : FaC Try.prog 40 1 1 := FaC.of ty40.ty rfl ty3.ty (by decide) rfl
instance fd40_1 : FdC Try.prog 40 1 1 false 1 := FdC.of ty40.ty rfl ty3.ty rfl rfl
instance fa40_2 : FaC Try.prog 40 2 2 := FaC.of ty40.ty rfl ty3.ty (by decide) rfl
instance fd40_2 : FdC Try.prog 40 2 2 false 1 := FdC.of ty40.ty rfl ty3.ty rfl rfl
instance fa40_3 : FaC Try.prog 40 3 3 := FaC.of ty40.ty rfl ty3.ty (by decide) rfl
instance fd40_3 : FdC Try.prog 40 3 3 false 1 := FdC.of ty40.ty rfl ty3.ty rfl rfl
instance fa40_4 : FaC Try.prog 40 4 4 := FaC.of ty40.ty rfl ty3.ty (by decide) rfl
instance fd40_4 : FdC Try.prog 40 4 4 false 1 := FdC.of ty40.ty rfl ty3.ty rfl rfl
instance fa40_5 : FaC Try.prog 40 5 5 := FaC.of ty40.ty rfl ty22.ty (by decide) rfl
instance fd40_5 : FdC Try.prog 40 5 5 false 1 := FdC.of ty40.ty rfl ty22.ty rfl rfl
instance fa40_6 : FaC Try.prog 40 6 6 := FaC.of ty40.ty rfl ty22.ty (by decide) rfl
instance fd40_6 : FdC Try.prog 40 6 6 false 1 := FdC.of ty40.ty rfl ty22.ty rfl rfl
instance fa40_7 : FaC Try.prog 40 7 7 := FaC.of ty40.ty rfl ty36.ty (by decide) rfl
instance fd40_7 : FdC Try.prog 40 7 7 true 2 := FdC.of ty40.ty rfl ty36.ty rfl rfl
instance fa40_8 : FaC Try.prog 40 8 9 := FaC.of ty40.ty rfl ty37.ty (by decide) rfl
instance fd40_8 : FdC Try.prog 40 8 9 false 1 := FdC.of ty40.ty rfl ty37.ty rfl rfl
instance fa40_9 : FaC Try.prog 40 9 10 := FaC.of ty40.ty rfl ty38.ty (by decide) rfl
instance fd40_9 : FdC Try.prog 40 9 10 false 1 := FdC.of ty40.ty rfl ty38.ty rfl rfl
instance fa42_0 : FaC Try.prog 42 0 0 := FaC.of ty42.ty rfl ty3.ty (by decide) rfl
instance fd42_0 : FdC Try.prog 42 0 0 false 1 := FdC.of ty42.ty rfl ty3.ty rfl rfl
instance fa42_1 : FaC Try.prog 42 1 1 := FaC.of ty42.ty rfl ty22.ty (by decide) rfl
instance fd42_1 : FdC Try.prog 42 1 1 false 1 := FdC.of ty42.ty rfl ty22.ty rfl rfl
instance fa77_0 : FaC Try.prog 77 0 0 := FaC.of ty77.ty rfl ty3.ty (by decide) rfl
instance fd77_0 : FdC Try.prog 77 0 0 false 1 := FdC.of ty77.ty rfl ty3.ty rfl rfl
instance fa77_1 : FaC Try.prog 77 1 1 := FaC.of ty77.ty rfl ty36.ty (by decide) rfl
instance fd77_1 : FdC Try.prog 77 1 1 true 2 := FdC.of ty77.ty rfl ty36.ty rfl rfl
instance fa78_0 : FaC Try.prog 78 0 0 := FaC.of ty78.ty rfl ty3.ty (by decide) rfl
instance fd78_0 : FdC Try.prog 78 0 0 false 1 := FdC.of ty78.ty rfl ty3.ty rfl rfl
instance fa78_1 : FaC Try.prog 78 1 1 := FaC.of ty78.ty rfl ty36.ty (by decide) rfl
instance fd78_1 : FdC Try.prog 78 1 1 true 2 := FdC.of ty78.ty rfl ty36.ty rfl rfl
instance fa99_0 : FaC Try.prog 99 0 0 := FaC.of ty99.ty rfl ty3.ty (by decide) rfl
instance fd99_0 : FdC Try.prog 99 0 0 false 1 := FdC.of ty99.ty rfl ty3.ty rfl rfl
instance fa99_1 : FaC Try.prog 99 1 1 := FaC.of ty99.ty rfl ty24.ty (by decide) rfl
instance fd99_1 : FdC Try.prog 99 1 1 true 2 := FdC.of ty99.ty rfl ty24.ty rfl rfl
instance fa100_0 : FaC Try.prog 100 0 0 := FaC.of ty100.ty rfl ty3.ty (by decide) rfl
instance fd100_0 : FdC Try.prog 100 0 0 false 1 := FdC.of ty100.ty rfl ty3.ty rfl rfl
instance fa100_1 : FaC Try.prog 100 1 1 := FaC.of ty100.ty rfl ty24.ty (by decide) rfl
instance fd100_1 : FdC Try.prog 100 1 1 true 2 := FdC.of ty100.ty rfl ty24.ty rfl rfl
instance fa109_0 : FaC Try.prog 109 0 0 := FaC.of ty109.ty rfl ty3.ty (by decide) rfl
instance fd109_0 : FdC Try.prog 109 0 0 false 1 := FdC.of ty109.ty rfl ty3.ty rfl rfl
instance fa109_1 : FaC Try.prog 109 1 1 := FaC.of ty109.ty rfl ty108.ty (by decide) rfl
instance fd109_1 : FdC Try.prog 109 1 1 true 5 := FdC.of ty109.ty rfl ty108.ty rfl rfl
instance fa110_0 : FaC Try.prog 110 0 0 := FaC.of ty110.ty rfl ty3.ty (by decide) rfl
instance fd110_0 : FdC Try.prog 110 0 0 false 1 := FdC.of ty110.ty rfl ty3.ty rfl rfl
instance fa110_1 : FaC Try.prog 110 1 1 := FaC.of ty110.ty rfl ty108.ty (by decide) rfl
instance fd110_1 : FdC Try.prog 110 1 1 true 5 := FdC.of ty110.ty rfl ty108.ty rfl rfl
instance fa113_0 : FaC Try.prog 113 0 0 := FaC.of ty113.ty rfl ty40.ty (by decide) rfl
instance fd113_0 : FdC Try.prog 113 0 0 true 11 := FdC.of ty113.ty rfl ty40.ty rfl rfl
instance fa113_1 : FaC Try.prog 113 1 11 := FaC.of ty113.ty rfl ty108.ty (by decide) rfl
instance fd113_1 : FdC Try.prog 113 1 11 true 5 := FdC.of ty113.ty rfl ty108.ty rfl rfl
instance fa113_2 : FaC Try.prog 113 2 16 := FaC.of ty113.ty rfl ty108.ty (by decide) rfl
instance fd113_2 : FdC Try.prog 113 2 16 true 5 := FdC.of ty113.ty rfl ty108.ty rfl rfl
instance fa114_0 : FaC Try.prog 114 0 0 := FaC.of ty114.ty rfl ty40.ty (by decide) rfl
instance fd114_0 : FdC Try.prog 114 0 0 true 11 := FdC.of ty114.ty rfl ty40.ty rfl rfl
instance fa114_1 : FaC Try.prog 114 1 11 := FaC.of ty114.ty rfl ty108.ty (by decide) rfl
instance fd114_1 : FdC Try.prog 114 1 11 true 5 := FdC.of ty114.ty rfl ty108.ty rfl rfl
instance fa114_2 : FaC Try.prog 114 2 16 := FaC.of ty114.ty rfl ty108.ty (by decide) rfl
instance fd114_2 : FdC Try.prog 114 2 16 true 5 := FdC.of ty114.ty rfl ty108.ty rfl rfl
instance fa125_0 : FaC Try.prog 125 0 0 := FaC.of ty125.ty rfl ty123.ty (by decide) rfl
instance fd125_0 : FdC Try.prog 125 0 0 false 1 := FdC.of ty125.ty rfl ty123.ty rfl rfl
instance fa126_0 : FaC Try.prog 126 0 0 := FaC.of ty126.ty rfl ty123.ty (by decide) rfl
instance fd126_0 : FdC Try.prog 126 0 0 false 1 := FdC.of ty126.ty rfl ty123.ty rfl rfl
instance fa170_0 : FaC Try.prog 170 0 0 := FaC.of ty170.ty rfl ty17.ty (by decide) rfl
instance fd170_0 : FdC Try.prog 170 0 0 false 1 := FdC.of ty170.ty rfl ty17.ty rfl rfl
instance fa170_1 : FaC Try.prog 170 1 1 := FaC.of ty170.ty rfl ty17.ty (by decide) rfl
instance fd170_1 : FdC Try.prog 170 1 1 false 1 := FdC.of ty170.ty rfl ty17.ty rfl rfl
instance fa170_2 : FaC Try.prog 170 2 2 := FaC.of ty170.ty rfl ty17.ty (by decide) rfl
instance fd170_2 : FdC Try.prog 170 2 2 false 1 := FdC.of ty170.ty rfl ty17.ty rfl rfl
instance fa170_3 : FaC Try.prog 170 3 3 := FaC.of ty170.ty rfl ty9.ty (by decide) rfl
instance fd170_3 : FdC Try.prog 170 3 3 false 1 := FdC.of ty170.ty rfl ty9.ty rfl rfl
instance fa171_0 : FaC Try.prog 171 0 0 := FaC.of ty171.ty rfl ty17.ty (by decide) rfl
instance fd171_0 : FdC Try.prog 171 0 0 false 1 := FdC.of ty171.ty rfl ty17.ty rfl rfl
instance fa171_1 : FaC Try.prog 171 1 1 := FaC.of ty171.ty rfl ty17.ty (by decide) rfl
instance fd171_1 : FdC Try.prog 171 1 1 false 1 := FdC.of ty171.ty rfl ty17.ty rfl rfl
instance fa171_2 : FaC Try.prog 171 2 2 := FaC.of ty171.ty rfl ty17.ty (by decide) rfl
instance fd171_2 : FdC Try.prog 171 2 2 false 1 := FdC.of ty171.ty rfl ty17.ty rfl rfl
instance fa171_3 : FaC Try.prog 171 3 3 := FaC.of ty171.ty rfl ty9.ty (by decide) rfl
instance fd171_3 : FdC Try.prog 171 3 3 false 1 := FdC.of ty171.ty rfl ty9.ty rfl rfl
instance fd173_0 : FdC Try.prog 173 0 0 true 0 := FdC.of ty173.ty rfl ty172.ty rfl rfl
instance fd174_0 : FdC Try.prog 174 0 0 true 0 := FdC.of ty174.ty rfl ty172.ty rfl rfl
instance fa182_0 : FaC Try.prog 182 0 0 := FaC.of ty182.ty rfl ty12.ty (by decide) rfl
instance fd182_0 : FdC Try.prog 182 0 0 false 1 := FdC.of ty182.ty rfl ty12.ty rfl rfl
instance fa182_1 : FaC Try.prog 182 1 1 := FaC.of ty182.ty rfl ty12.ty (by decide) rfl
instance fd182_1 : FdC Try.prog 182 1 1 false 1 := FdC.of ty182.ty rfl ty12.ty rfl rfl
instance fa182_2 : FaC Try.prog 182 2 2 := FaC.of ty182.ty rfl ty175.ty (by decide) rfl
instance fd182_2 : FdC Try.prog 182 2 2 false 1 := FdC.of ty182.ty rfl ty175.ty rfl rfl
instance fa182_3 : FaC Try.prog 182 3 3 := FaC.of ty182.ty rfl ty176.ty (by decide) rfl
instance fd182_3 : FdC Try.prog 182 3 3 false 1 := FdC.of ty182.ty rfl ty176.ty rfl rfl
instance fa182_4 : FaC Try.prog 182 4 4 := FaC.of ty182.ty rfl ty5.ty (by decide) rfl
instance fd182_4 : FdC Try.prog 182 4 4 false 1 := FdC.of ty182.ty rfl ty5.ty rfl rfl
instance fa182_5 : FaC Try.prog 182 5 5 := FaC.of ty182.ty rfl ty5.ty (by decide) rfl
instance fd182_5 : FdC Try.prog 182 5 5 false 1 := FdC.of ty182.ty rfl ty5.ty rfl rfl
instance fa182_6 : FaC Try.prog 182 6 6 := FaC.of ty182.ty rfl ty177.ty (by decide) rfl
instance fd182_6 : FdC Try.prog 182 6 6 false 1 := FdC.of ty182.ty rfl ty177.ty rfl rfl
instance fa182_7 : FaC Try.prog 182 7 7 := FaC.of ty182.ty rfl ty178.ty (by decide) rfl
instance fd182_7 : FdC Try.prog 182 7 7 false 1 := FdC.of ty182.ty rfl ty178.ty rfl rfl
instance fa182_8 : FaC Try.prog 182 8 8 := FaC.of ty182.ty rfl ty179.ty (by decide) rfl
instance fd182_8 : FdC Try.prog 182 8 8 false 1 := FdC.of ty182.ty rfl ty179.ty rfl rfl
instance fa182_9 : FaC Try.prog 182 9 9 := FaC.of ty182.ty rfl ty180.ty (by decide) rfl
instance fd182_9 : FdC Try.prog 182 9 9 false 1 := FdC.of ty182.ty rfl ty180.ty rfl rfl
instance fa182_10 : FaC Try.prog 182 10 10 := FaC.of ty182.ty rfl ty181.ty (by decide) rfl
instance fd182_10 : FdC Try.prog 182 10 10 false 1 := FdC.of ty182.ty rfl ty181.ty rfl rfl
instance fa183_0 : FaC Try.prog 183 0 0 := FaC.of ty183.ty rfl ty12.ty (by decide) rfl
instance fd183_0 : FdC Try.prog 183 0 0 false 1 := FdC.of ty183.ty rfl ty12.ty rfl rfl
instance fa183_1 : FaC Try.prog 183 1 1 := FaC.of ty183.ty rfl ty12.ty (by decide) rfl
instance fd183_1 : FdC Try.prog 183 1 1 false 1 := FdC.of ty183.ty rfl ty12.ty rfl rfl
instance fa183_2 : FaC Try.prog 183 2 2 := FaC.of ty183.ty rfl ty175.ty (by decide) rfl
instance fd183_2 : FdC Try.prog 183 2 2 false 1 := FdC.of ty183.ty rfl ty175.ty rfl rfl
instance fa183_3 : FaC Try.prog 183 3 3 := FaC.of ty183.ty rfl ty176.ty (by decide) rfl
instance fd183_3 : FdC Try.prog 183 3 3 false 1 := FdC.of ty183.ty rfl ty176.ty rfl rfl
instance fa183_4 : FaC Try.prog 183 4 4 := FaC.of ty183.ty rfl ty5.ty (by decide) rfl
instance fd183_4 : FdC Try.prog 183 4 4 false 1 := FdC.of ty183.ty rfl ty5.ty rfl rfl
instance fa183_5 : FaC Try.prog 183 5 5 := FaC.of ty183.ty rfl ty5.ty (by decide) rfl
instance fd183_5 : FdC Try.prog 183 5 5 false 1 := FdC.of ty183.ty rfl ty5.ty rfl rfl
instance fa183_6 : FaC Try.prog 183 6 6 := FaC.of ty183.ty rfl ty177.ty (by decide) rfl
instance fd183_6 : FdC Try.prog 183 6 6 false 1 := FdC.of ty183.ty rfl ty177.ty rfl rfl
instance fa183_7 : FaC Try.prog 183 7 7 := FaC.of ty183.ty rfl ty178.ty (by decide) rfl
instance fd183_7 : FdC Try.prog 183 7 7 false 1 := FdC.of ty183.ty rfl ty178.ty rfl rfl
instance fa183_8 : FaC Try.prog 183 8 8 := FaC.of ty183.ty rfl ty179.ty (by decide) rfl
instance fd183_8 : FdC Try.prog 183 8 8 false 1 := FdC.of ty183.ty rfl ty179.ty rfl rfl
instance fa183_9 : FaC Try.prog 183 9 9 := FaC.of ty183.ty rfl ty180.ty (by decide) rfl
instance fd183_9 : FdC Try.prog 183 9 9 false 1 := FdC.of ty183.ty rfl ty180.ty rfl rfl
instance fa183_10 : FaC Try.prog 183 10 10 := FaC.of ty183.ty rfl ty181.ty (by decide) rfl
instance fd183_10 : FdC Try.prog 183 10 10 false 1 := FdC.of ty183.ty rfl ty181.ty rfl rfl
instance ic23 : IntsC Try.prog 23 2 := IntsC.struct ty23.ty (by kernel_rfl)
instance ic24 : IntsC Try.prog 24 2 := IntsC.struct ty24.ty (by kernel_rfl)
instance ic36 : IntsC Try.prog 36 2 := IntsC.struct ty36.ty (by kernel_rfl)
instance ic107 : IntsC Try.prog 107 5 := IntsC.array ty107.ty (by kernel_rfl)
instance ic108 : IntsC Try.prog 108 5 := IntsC.array ty108.ty (by kernel_rfl)
end Go.Proofs.Ytjbiidlmpaibkaa
namespace Go.Proofs.Ytjbiidlmpaibkaa
open Go Go.Abs Go.Proofs
set_option maxHeartbeats 400000
attribute [local irreducible] CallJ OpsJ WPJ CallV MonoJ
theorem mixed : Try.prog.follows .mixedOrders = true := by kernel_rfl
structure ReadM where
  hour : Int
  lo : Int
  hi : Int
structure CopM where
  last : Int
  start : Int
  most : Int
  per : Int
  shovels : Int
  coal : List Int
  want : List Int
  hlo : Int
  hhi : Int
  loss : List (Int × Int)
  reads : List ReadM
abbrev encR (r : Int × Int) : List Value := [.int .i64 r.1, .int .i64 r.2]
abbrev encD (r : ReadM) : List Value := [.int .i64 r.hour, .int .i64 r.lo, .int .i64 r.hi]
abbrev ccells (m : CopM) (s1 s2 s3 s4 : Value) : List Value := [.int .i64 m.last, .int .i64 m.start, .int .i64 m.most, .int .i64 m.per, .int .i64 m.shovels, s1, s2, .int .i64 m.hlo, .int .i64 m.hhi, s3, s4]
def cv (m : CopM) (s1 s2 s3 s4 : Value) : Value := .agg ⟨ccells m s1 s2 s3 s4⟩
def PlainA (H : AHeap) (v : Value) : Prop := ∀ i ∈ idOf v, ∃ row es own, H[i]? = some (.row row es own) ∧ ∀ x ∈ row, Plain x
theorem PlainA.ext {H H' : AHeap} {v : Value} (h : PlainA H v) (he : Ext H H') : PlainA H' v := fun i hi => by
  obtain ⟨row, es, own, h1, h2⟩ := h i hi
  exact ⟨row, es, own, he.get h1, h2⟩
theorem PlainS.a {H : AHeap} {v : Value} (h : PlainS H v) : PlainA H v := fun i hi => by
  obtain ⟨row, es, h1, h2⟩ := h i hi
  exact ⟨row, es, false, h1, h2⟩
theorem PlainA.viewed {sh : List Nat} {H Hi : AHeap} {v : Value} (h : PlainA H v) (hs : ∀ i ∈ idOf v, i ∈ sh) (hv : Viewed sh H Hi) : PlainA Hi v := fun i hi => by
  obtain ⟨row, es, own, h1, h2⟩ := h i hi
  exact ⟨row, es, false, hv i (hs i hi) _ _ _ h1, h2⟩
structure CopIs (H : AHeap) (m : CopM) (s1 s2 s3 s4 : Value) : Prop where
  coal : RdS H s1 1 (encI m.coal)
  want : RdS H s2 1 (encI m.want)
  loss : RdS H s3 2 (m.loss.map encR)
  reads : RdS H s4 3 (m.reads.map encD)
  ok : [s1, s2, s3, s4].all cellOk = true
  n1 : m.coal.length ≤ 1000000
  n2 : m.want.length ≤ 1000000
  n3 : m.loss.length ≤ 1000000
  n4 : m.reads.length ≤ 1000000
  p1 : PlainA H s1
  p2 : PlainA H s2
  p3 : PlainA H s3
  p4 : PlainA H s4
theorem CopIs.ext {H H' : AHeap} {m : CopM} {s1 s2 s3 s4 : Value} (h : CopIs H m s1 s2 s3 s4) (he : Ext H H') : CopIs H' m s1 s2 s3 s4 := ⟨h.coal.ext he, h.want.ext he, h.loss.ext he, h.reads.ext he, h.ok, h.n1, h.n2, h.n3, h.n4, h.p1.ext he, h.p2.ext he, h.p3.ext he, h.p4.ext he⟩
theorem CopIs.cells {H : AHeap} {m : CopM} {s1 s2 s3 s4 : Value} (h : CopIs H m s1 s2 s3 s4) : (ccells m s1 s2 s3 s4).all cellOk = true := by have := h.ok; simp [cellOk] at this ⊢; exact this
structure CopY (H : AHeap) (m : CopM) (s1 s2 s3 s4 : Value) : Prop where
  coal : RdS H s1 1 (encI m.coal)
  want : RdS H s2 1 (encI m.want)
  loss : RdS H s3 2 (m.loss.map encR)
  reads : RdS H s4 3 (m.reads.map encD)
  ok : [s1, s2, s3, s4].all cellOk = true
  n1 : m.coal.length ≤ 1000000
  n2 : m.want.length ≤ 1000000
  n3 : m.loss.length ≤ 1000000
  n4 : m.reads.length ≤ 1000000
theorem CopY.ext {H H' : AHeap} {m : CopM} {s1 s2 s3 s4 : Value} (h : CopY H m s1 s2 s3 s4) (he : Ext H H') : CopY H' m s1 s2 s3 s4 := ⟨h.coal.ext he, h.want.ext he, h.loss.ext he, h.reads.ext he, h.ok, h.n1, h.n2, h.n3, h.n4⟩
theorem CopY.cells {H : AHeap} {m : CopM} {s1 s2 s3 s4 : Value} (h : CopY H m s1 s2 s3 s4) : (ccells m s1 s2 s3 s4).all cellOk = true := by have := h.ok; simp [cellOk] at this ⊢; exact this
theorem CopIs.y {H : AHeap} {m : CopM} {s1 s2 s3 s4 : Value} (h : CopIs H m s1 s2 s3 s4) : CopY H m s1 s2 s3 s4 := ⟨h.coal, h.want, h.loss, h.reads, h.ok, h.n1, h.n2, h.n3, h.n4⟩
def upTo (r : Int × Int) (most : Int) : Bool := decide (0 ≤ r.1) && decide (r.1 ≤ r.2) && decide (r.2 ≤ most)
def inR (lo hi n : Int) : Bool := decide (lo ≤ n) && decide (n ≤ hi)
def isLongS (m : CopM) : Bool := decide (4 < m.last) || decide (5 < m.reads.length)
def numsS (m : CopM) : Bool := inR 0 999 m.most && inR 0 m.most m.start && (inR 1 20 m.per && inR 0 3 m.shovels)
def forHours (m : CopM) (l : List Int) (most : Int) : Bool := decide ((l.length : Int) = m.last + 1) && l.all (inR 0 most)
def isReadS (m : CopM) (r : ReadM) : Bool := inR 0 m.last r.hour && upTo (r.lo, r.hi) 999
def isValidS (m : CopM) : Bool := decide (0 ≤ m.last) && numsS m && (forHours m m.coal m.shovels && forHours m m.want 20) && (upTo (m.hlo, m.hhi) 99 && decide ((m.loss.length : Int) = m.last + 1) && m.loss.all fun r => upTo r 99) && m.reads.all (isReadS m)
def prodS : List (Int × Int) → Int
  | [] => 1
  | r :: l => (r.2 - r.1 + 1) * prodS l
def sizesS (m : CopM) : Int := (m.hhi - m.hlo + 1) * prodS m.loss
def checkS (m : CopM) : Int := if isLongS m then 3 else if isValidS m then (if 2000 < sizesS m then 3 else 0) else 1
section
variable {γ : Type} (E : Env γ) (g : γ) (H : AHeap)
theorem has_spec (lo hi n : Int) : CallJ Try.prog E 114 [.agg ⟨[.int .i64 lo, .int .i64 hi]⟩, .int .i64 n] (fun v H' g' => v = .bool (inR lo hi n) ∧ H' = H ∧ g' = g) H g := by
  refine CallJ.tidy ?_
  unfold inR
  refine CallJ.enter Try.func114 rfl (by simp only [Try.ntmps114, List.length_cons, List.length_nil, Nat.zero_add, Nat.reduceAdd, Nat.reduceSub, List.replicate_succ, List.replicate_zero, List.cons_append, List.nil_append]; rfl) ?_
  repeat' (first
    | ((fail_if_success (first | refine is_ucall ?_ | refine is_umcall ?_)); first | refine W1 ?_ | refine Wc ?_ | refine W2c ?_ ?_ | refine Wg ?_ | refine W2 ?_ ?_ | exact Wdead | refine Wlive (fun hb => ?_) | intro _ _ _ _ _ _ _ _ | refine We ?_ | refine Wx ?_ | refine Wt ?_ | refine Wm ?_ | refine W2m ?_ ?_ | refine Wl ?_)
    | fail)
  all_goals (refine ⟨?_, rfl, rfl⟩; show Value.bool _ = _; congr 1; all_goals first | rfl | (rw [Bool.eq_iff_iff]; simp only [Bool.and_eq_true, Bool.or_eq_true, decide_eq_true_eq, Bool.not_eq_true', beq_iff_eq, Bool.true_eq_false, Bool.false_eq_true, iff_true, true_iff, iff_false, false_iff, decide_eq_false_iff_not]; omega))
theorem isUpTo_spec (r : Int × Int) (most : Int) : CallJ Try.prog E 121 [.agg ⟨encR r⟩, .int .i64 most] (fun v H' g' => v = .bool (upTo r most) ∧ H' = H ∧ g' = g) H g := by
  refine CallJ.tidy ?_
  unfold upTo encR
  refine CallJ.enter Try.func121 rfl (by simp only [Try.ntmps121, List.length_cons, List.length_nil, Nat.zero_add, Nat.reduceAdd, Nat.reduceSub, List.replicate_succ, List.replicate_zero, List.cons_append, List.nil_append]; rfl) ?_
  repeat' (first
    | ((fail_if_success (first | refine is_ucall ?_ | refine is_umcall ?_)); first | refine W1 ?_ | refine Wc ?_ | refine W2c ?_ ?_ | refine Wg ?_ | refine W2 ?_ ?_ | exact Wdead | refine Wlive (fun hb => ?_) | intro _ _ _ _ _ _ _ _ | refine We ?_ | refine Wx ?_ | refine Wt ?_ | refine Wm ?_ | refine W2m ?_ ?_ | refine Wl ?_)
    | fail)
  all_goals (refine ⟨?_, rfl, rfl⟩; show Value.bool _ = _; congr 1; all_goals first | rfl | (rw [Bool.eq_iff_iff]; simp only [Bool.and_eq_true, Bool.or_eq_true, decide_eq_true_eq, Bool.not_eq_true', beq_iff_eq, Bool.true_eq_false, Bool.false_eq_true, iff_true, true_iff, iff_false, false_iff, decide_eq_false_iff_not]; omega))
theorem isLoss_spec (r : Int × Int) : CallJ Try.prog E 123 [.agg ⟨encR r⟩] (fun v H' g' => v = .bool (upTo r 99) ∧ H' = H ∧ g' = g) H g := by
  refine CallJ.tidy ?_
  unfold encR
  refine CallJ.enter Try.func123 rfl (by simp only [Try.ntmps123, List.length_cons, List.length_nil, Nat.zero_add, Nat.reduceSub, List.replicate_succ, List.replicate_zero, List.cons_append, List.nil_append]; rfl) ?_
  repeat' (first
    | (refine is_ucall ?_; first
      | refine st_callP (h := isUpTo_spec _ _ _ r _) (k := ?_)
      | fail)
    | (refine is_umcall ?_; first
      | refine mj_callP (h := isUpTo_spec _ _ _ r _) (k := ?_)
      | fail)
    | ((fail_if_success (first | refine is_ucall ?_ | refine is_umcall ?_)); first | refine W1 ?_ | refine Wc ?_ | refine W2c ?_ ?_ | refine Wg ?_ | refine W2 ?_ ?_ | exact Wdead | refine Wlive (fun hb => ?_) | intro _ _ _ _ _ _ _ _ | refine We ?_ | refine Wx ?_ | refine Wt ?_ | refine Wm ?_ | refine W2m ?_ ?_ | refine Wl ?_)
    | fail)
  exact ⟨rfl, rfl, rfl⟩
theorem hours_spec (m : CopM) (s1 s2 s3 s4 : Value) (hm : (ccells m s1 s2 s3 s4).all cellOk = true) (hl : m.last ≤ 1000000 ∧ -1000000 ≤ m.last) : CallJ Try.prog E 93 [cv m s1 s2 s3 s4] (fun v H' g' => v = .int .i64 (m.last + 1) ∧ H' = H ∧ g' = g) H g := by
  refine CallJ.tidy ?_
  unfold cv
  refine CallJ.enter Try.func93 rfl (by simp only [Try.ntmps93, List.length_cons, List.length_nil, Nat.zero_add, Nat.reduceSub, List.replicate_succ, List.replicate_zero, List.cons_append, List.nil_append]; rfl) ?_
  repeat' (first
    | (refine is_ucall ?_; first
      | refine st_callP (h := isUpTo_spec _ _ _ r _) (k := ?_)
      | fail)
    | (refine is_umcall ?_; first
      | refine mj_callP (h := isUpTo_spec _ _ _ r _) (k := ?_)
      | fail)
    | ((fail_if_success (first | refine is_ucall ?_ | refine is_umcall ?_)); first | refine W1 ?_ | refine Wc ?_ | refine W2c ?_ ?_ | refine Wg ?_ | refine W2 ?_ ?_ | exact Wdead | refine Wlive (fun hb => ?_) | intro _ _ _ _ _ _ _ _ | refine We ?_ | refine Wx ?_ | refine Wt ?_ | refine Wm ?_ | refine W2m ?_ ?_ | refine Wl ?_)
    | fail)
  exact ⟨rfl, rfl, rfl⟩
theorem hasHour_spec (m : CopM) (s1 s2 s3 s4 : Value) (n : Int) (hm : (ccells m s1 s2 s3 s4).all cellOk = true) : CallJ Try.prog E 103 [cv m s1 s2 s3 s4, .int .i64 n] (fun v H' g' => v = .bool (inR 0 m.last n) ∧ H' = H ∧ g' = g) H g := by
  refine CallJ.tidy ?_
  unfold cv
  refine CallJ.enter Try.func103 rfl (by simp only [Try.ntmps103, List.length_cons, List.length_nil, Nat.zero_add, Nat.reduceAdd, Nat.reduceSub, List.replicate_succ, List.replicate_zero, List.cons_append, List.nil_append]; rfl) ?_
  repeat' (first
    | (refine is_ucall ?_; first
      | refine st_callP (h := has_spec _ _ _ _ _ _) (k := ?_)
      | fail)
    | (refine is_umcall ?_; first
      | refine mj_callP (h := has_spec _ _ _ _ _ _) (k := ?_)
      | fail)
    | ((fail_if_success (first | refine is_ucall ?_ | refine is_umcall ?_)); first | refine W1 ?_ | refine Wc ?_ | refine W2c ?_ ?_ | refine Wg ?_ | refine W2 ?_ ?_ | exact Wdead | refine Wlive (fun hb => ?_) | intro _ _ _ _ _ _ _ _ | refine We ?_ | refine Wx ?_ | refine Wt ?_ | refine Wm ?_ | refine W2m ?_ ?_ | refine Wl ?_)
    | fail)
  exact ⟨rfl, rfl, rfl⟩
theorem hasValid_spec (m : CopM) (s1 s2 s3 s4 : Value) (hm : (ccells m s1 s2 s3 s4).all cellOk = true) : CallJ Try.prog E 120 [cv m s1 s2 s3 s4] (fun v H' g' => v = .bool (numsS m) ∧ H' = H ∧ g' = g) H g := by
  refine CallJ.tidy ?_
  unfold cv numsS
  refine CallJ.enter Try.func120 rfl (by simp only [Try.ntmps120, List.length_cons, List.length_nil, Nat.zero_add, Nat.reduceSub, List.replicate_succ, List.replicate_zero, List.cons_append, List.nil_append]; rfl) ?_
  repeat' (first
    | (refine is_ucall ?_; first
      | refine st_callP (h := has_spec _ _ _ _ _ _) (k := ?_)
      | fail)
    | (refine is_umcall ?_; first
      | refine mj_callP (h := has_spec _ _ _ _ _ _) (k := ?_)
      | fail)
    | ((fail_if_success (first | refine is_ucall ?_ | refine is_umcall ?_)); first | refine W1 ?_ | refine Wc ?_ | refine W2c ?_ ?_ | refine Wg ?_ | refine W2 ?_ ?_ | exact Wdead | refine Wlive (fun hb => ?_) | intro _ _ _ _ _ _ _ _ | refine We ?_ | refine Wx ?_ | refine Wt ?_ | refine Wm ?_ | refine W2m ?_ ?_ | refine Wl ?_)
    | fail)
  all_goals (refine ⟨?_, rfl, rfl⟩; show Value.bool _ = _; congr 1 <;> simp [*])
theorem isLong_spec (m : CopM) (s1 s2 s3 s4 : Value) (hm : CopIs H m s1 s2 s3 s4) : CallJ Try.prog E 81 [cv m s1 s2 s3 s4] (fun v H' g' => v = .bool (isLongS m) ∧ H' = H ∧ g' = g) H g := by
  have hok := hm.cells
  have hr := hm.reads
  refine CallJ.tidy ?_
  unfold cv isLongS
  refine CallJ.enter Try.func81 rfl (by simp only [Try.ntmps81, List.length_cons, List.length_nil, Nat.zero_add, Nat.reduceSub, List.replicate_succ, List.replicate_zero, List.cons_append, List.nil_append]; rfl) ?_
  repeat' (first
    | (refine is_ucall ?_; first
      | refine st_callP (h := has_spec _ _ _ _ _ _) (k := ?_)
      | fail)
    | (refine is_umcall ?_; first
      | refine mj_callP (h := has_spec _ _ _ _ _ _) (k := ?_)
      | fail)
    | ((fail_if_success (first | refine is_ucall ?_ | refine is_umcall ?_)); first | refine W1 ?_ | refine Wc ?_ | refine W2c ?_ ?_ | refine Wg ?_ | refine W2 ?_ ?_ | exact Wdead | refine Wlive (fun hb => ?_) | intro _ _ _ _ _ _ _ _ | refine We ?_ | refine Wx ?_ | refine Wt ?_ | refine Wm ?_ | refine W2m ?_ ?_ | refine Wl ?_)
    | fail)
  all_goals (refine ⟨?_, rfl, rfl⟩; show Value.bool _ = _; congr 1 <;> first | (simp [*]; done) | (simp [*]; omega))
theorem isReading_spec (m : CopM) (s1 s2 s3 s4 : Value) (r : ReadM) (hok : (ccells m s1 s2 s3 s4).all cellOk = true) : CallJ Try.prog E 125 [cv m s1 s2 s3 s4, .agg ⟨encD r⟩] (fun v H' g' => v = .bool (isReadS m r) ∧ H' = H ∧ g' = g) H g := by
  refine CallJ.tidy ?_
  unfold cv encD isReadS
  refine CallJ.enter Try.func125 rfl (by simp only [Try.ntmps125, List.length_cons, List.length_nil, Nat.zero_add, Nat.reduceAdd, Nat.reduceSub, List.replicate_succ, List.replicate_zero, List.cons_append, List.nil_append]; rfl) ?_
  repeat' (first
    | (refine is_ucall ?_; first
      | refine st_callP (h := hasHour_spec _ _ _ m s1 s2 s3 s4 _ hok) (k := ?_)
      | refine st_callP (h := isUpTo_spec _ _ _ (r.lo, r.hi) _) (k := ?_)
      | fail)
    | (refine is_umcall ?_; first
      | refine mj_callP (h := hasHour_spec _ _ _ m s1 s2 s3 s4 _ hok) (k := ?_)
      | refine mj_callP (h := isUpTo_spec _ _ _ (r.lo, r.hi) _) (k := ?_)
      | fail)
    | ((fail_if_success (first | refine is_ucall ?_ | refine is_umcall ?_)); first | refine W1 ?_ | refine Wc ?_ | refine W2c ?_ ?_ | refine Wg ?_ | refine W2 ?_ ?_ | exact Wdead | refine Wlive (fun hb => ?_) | intro _ _ _ _ _ _ _ _ | refine We ?_ | refine Wx ?_ | refine Wt ?_ | refine Wm ?_ | refine W2m ?_ ?_ | refine Wl ?_)
    | fail)
  all_goals (refine ⟨?_, rfl, rfl⟩; show Value.bool _ = _; congr 1 <;> simp [*])
end
end Go.Proofs.Ytjbiidlmpaibkaa
