import Derived.Test.YtehobnpoeodhkaaV7
import Derived.Test.YtehobnpoeodhkaaRows
import Derived.KernelRfl
import Derived.Test.YtehobnpoeodhkaaV4
import Derived.Test.YtehobnpoeodhkaaV5
import Derived.Test.YtehobnpoeodhkaaV8
namespace Go.Abs
open Go Go.RowKit

def OneOf (W : World) (ob : AObj) (im : Option Img) : Prop := ∀ m, im = some m → m.blk < W.heap.size ∧ m.own = false ∧ ∀ ρ, ORel ρ ob m W.heap[m.blk]?
/-- the images, by number -/
def renOf (ims : List (Option Img)) : Ren := fun i => (ims[i]?).join
def AllOf (W : World) : List AObj → List (Option Img) → Prop
  | [], [] => True
  | o :: os, m :: ms => OneOf W o m ∧ AllOf W os ms
  | _, _ => False
theorem AllOf.at_ {W : World} : ∀ {os : List AObj} {ms : List (Option Img)}, AllOf W os ms → ∀ {i : Nat} {m : Img}, renOf ms i = some m → ∃ o, os[i]? = some o ∧ m.blk < W.heap.size ∧ m.own = false ∧ ∀ ρ, ORel ρ o m W.heap[m.blk]?
  | [], [], _, i, m, h => by simp [renOf] at h
  | o :: os, x :: ms, h, 0, m, hi => by
    simp [renOf] at hi
    exact ⟨o, rfl, h.1 m hi⟩
  | o :: os, x :: ms, h, i + 1, m, hi => by
    have : renOf ms i = some m := by simpa [renOf] using hi
    obtain ⟨o', h1, h2⟩ := AllOf.at_ h.2 this
    exact ⟨o', by simpa using h1, h2⟩
  | [], _ :: _, h, _, _, _ => h.elim
  | _ :: _, [], h, _, _, _ => h.elim
theorem AllOf.inv {W : World} {os : List AObj} {ms : List (Option Img)} (h : AllOf W os ms) : Inv trivE (renOf ms) os () (fun _ => False) W := by
  refine ⟨⟨fun i m hi => ?_, fun i m o hi ho => ?_, fun i j m m' o o' hi _ _ _ _ _ hown _ => ?_⟩, trivial, fun _ hb => hb.elim, fun _ hb => hb.elim⟩
  · obtain ⟨o, h1, h2, _⟩ := h.at_ hi
    exact ⟨(List.getElem?_eq_some_iff.1 h1).1, h2⟩
  · obtain ⟨o1, h1, _, _, h2⟩ := h.at_ hi
    rw [ho] at h1
    cases h1
    exact h2 _
  · obtain ⟨_, _, _, h2, _⟩ := h.at_ hi
    rw [h2] at hown
    cases hown
theorem AllOf.calls {P : Program} {W : World} {os : List AObj} {ms : List (Option Img)} (h : AllOf W os ms) {f : FuncId} {args : List Value} {args' : Array Value} (ha : ARel (renOf ms) ⟨args⟩ args')
    (hc : CallJ P trivE f args (fun v H' g' => v = .bool true ∧ H' = os ∧ g' = ()) os ()) : Calls P f args' W fun e W' => e = .returned (.bool true) ∧ Below W.heap.size W W' := by
  refine (hc (renOf ms) W _ args' h.inv ha).mono fun e W' => ?_
  rintro ⟨ρ', v, v', H', g', S', rfl, hv, hi, ht, rfl, rfl, _⟩
  cases hv
  refine ⟨rfl, ht.os, ht.tape, ht.out, ht.size, fun b hb => ht.keep b hb (fun h => h) ?_⟩
  rintro ⟨i, m, o, h1, _, _, h2, _⟩
  obtain ⟨_, _, _, h3, _⟩ := h.at_ h1
  rw [h3] at h2
  cases h2
end Go.Abs

namespace Go.Proofs.Ytehobnpoeodhkaa
open Go Go.Abs Go.Proofs Go.ChangeShapes Go.RowKit Go.WideShapes Go.ChangeAt
set_option maxHeartbeats 800000

theorem Try.own : ownKnob Try.prog.godebug = none := by kernel_rfl
theorem Try.laidOut : laidOutB Try.prog = true := by kernel_rfl
theorem rd26 : Try.prog.readableRec 26 = true := by kernel_rfl
theorem sz26 : 26 < Try.prog.types.size := of_decide_eq_true (by kernel_rfl)
theorem und4 : Try.prog.underlying 4 = some .bool := by kernel_rfl

set_option maxRecDepth 100000 in
/-- a law about a house -/
theorem lifted_h {os : Os} (started : os.Started) {X : Type} {enc : TypeId × Value → X} {f : FuncId} {fn : Func} {s : ChangeSpec} {dom : List PathCond} {apart fresh handsOn again : Bool}
    (hno : Try.checked.prog.inits.idxOf? f = none) (hfn : Try.checked.prog.funcs[f]? = some fn)
    (witness : ∃ (w : World) (tape : Tape) (i : Input), w.os = os ∧ (w.forCall tape i).Shaped Try.checked.prog ∧ i.vars = [] ∧ Input.okWide Try.checked.prog (w.forCall tape i) .any w.heap.size f i ∧
      s.pre6 enc Try.checked.prog fn dom apart (w.forCall tape i).memory i.args ∧ ({} : Assume).holds Try.checked.prog (lone (Frame.enter Try.checked.prog f i.args .normal) [] (w.forCall tape i)))
    (hp : fn.params = #[26]) (hres : fn.resultTypes = #[4]) (hv0 : s.vars = []) (hs : ∀ d : DataW X, s.fn X [d] = { results := [.lit (.bool true)], args := [d] })
    (hc : ∀ (H : AHeap) (m : HouseM) (s1 s2 s3 : Value), HouseW H m s1 s2 s3 → CallJ Try.prog trivE f [hv m s1 s2 s3] (fun v H' g' => v = .bool true ∧ H' = H ∧ g' = ()) H ()) :
    ReturnsInHanded {} Try.checked os f .any (s.pre6 enc Try.checked.prog fn dom apart) (s.post enc Try.checked.prog fn apart fresh handsOn again) := by
  refine returnsInHanded_of_change (C := Try.checked) Try.own started hno hfn witness ?_
  intro W base args ds gs before hval0 hW hcnd _
  have hW' := hW
  obtain ⟨p, q, hA, hV, hpe, hfz, hnd⟩ := hW
  rw [hv0] at hV
  obtain ⟨rfl, rfl⟩ := trodVars_none hV
  rw [hp] at hA
  obtain ⟨v0, d0, rfl, rfl, h0⟩ := trodAll_one hA
  obtain ⟨m, s1, s2, s3, o1, o2, o3, m1, m2, m3, a1, a2, a3, hrel, hh⟩ := house_abs 0 (hval0 0 26 v0 (by rw [hp]; rfl) rfl) h0
  have hall : AllOf W [o1, o2, o3] [m1, m2, m3] := ⟨a1, a2, a3, trivial⟩
  have har : ARel (renOf [m1, m2, m3]) ⟨[hv m s1 s2 s3]⟩ #[v0] := ⟨rfl, fun j h1 h2 => by
    match j, h1 with
    | 0, _ => exact hrel _ rfl rfl rfl⟩
  have hcalls := hall.calls har (hc _ m s1 s2 s3 (hh _ rfl rfl rfl))
  refine Calls.mono hcalls fun e W' h => ⟨_, h.1, ?_⟩
  exact law_post Try.laidOut (fun t ht => by rw [hp] at ht; simp at ht; subst ht; exact ⟨rd26, sz26⟩) hW' hv0 (by simpa using hs d0) hres und4 h.2
end Go.Proofs.Ytehobnpoeodhkaa

namespace Go.Proofs.Ytehobnpoeodhkaa
open Go
theorem ws_cons {r : List Char} : ∀ (w : List Char), (∀ c ∈ w, c ≠ Char.ofNat 32) → wordsSigns (w ++ Char.ofNat 32 :: r) = w :: wordsSigns r
  | [], _ => rfl
  | c :: w, h => by
    have hc := h c (by simp)
    have ih := ws_cons (r := r) w (fun x hx => h x (by simp [hx]))
    show wordsSigns (c :: (w ++ Char.ofNat 32 :: r)) = _
    conv => lhs; unfold wordsSigns
    split
    · rename_i e; cases e
    · rename_i e
      exact absurd (List.cons.inj e).1 hc
    · rename_i e
      obtain ⟨rfl, rfl⟩ := List.cons.inj e
      rw [ih]
def ioA : List Char := [104, 97, 114, 110, 101, 115, 115].map Char.ofNat
def ioB : List Char := [57, 99, 54, 56, 49, 52, 102, 52, 56, 55, 49, 53, 102, 99, 99, 100, 53, 55, 50, 102, 97, 99, 51, 50, 99, 57, 56, 100, 48, 97, 57, 57, 100, 54, 55, 99, 99, 55, 54, 100, 52, 50, 48, 102, 57, 55, 101, 55, 48, 48, 53, 100, 48, 53, 49, 55, 49, 52, 100, 51, 100, 99, 102, 55].map Char.ofNat
def ioC : List Char := [99, 117, 116].map Char.ofNat
def ioR : List Char := [97, 116, 32, 112, 111, 115, 115, 101, 114, 47, 112, 111, 115, 115, 101, 114, 108, 97, 119, 48, 49, 46, 84, 105, 99, 107, 101, 116, 80, 108, 97, 121, 115, 32, 112, 111, 115, 115, 101, 114, 47, 112, 111, 115, 115, 101, 114, 108, 97, 119, 48, 49, 46, 84, 105, 99, 107, 101, 116, 66, 111, 117, 110, 100, 115, 32, 112, 111, 115, 115, 101, 114, 47, 112, 111, 115, 115, 101, 114, 108, 97, 119, 48, 49, 46, 84, 105, 99, 107, 101, 116, 76, 111, 110, 103, 32, 112, 111, 115, 115, 101, 114, 47, 112, 111, 115, 115, 101, 114, 108, 97, 119, 48, 49, 46, 84, 105, 99, 107, 101, 116, 67, 108, 97, 115, 104, 101, 115, 32, 112, 111, 115, 115, 101, 114, 47, 112, 111, 115, 115, 101, 114, 108, 97, 119, 48, 49, 46, 84, 105, 99, 107, 101, 116, 70, 114, 101, 101, 32, 112, 111, 115, 115, 101, 114, 47, 112, 111, 115, 115, 101, 114, 108, 97, 119, 48, 49, 46, 84, 105, 99, 107, 101, 116, 76, 111, 111, 107, 115, 32, 112, 111, 115, 115, 101, 114, 47, 112, 111, 115, 115, 101, 114, 108, 97, 119, 48, 49, 46, 84, 105, 99, 107, 101, 116, 76, 101, 97, 118, 101, 115, 32, 112, 111, 115, 115, 101, 114, 47, 112, 111, 115, 115, 101, 114, 108, 97, 119, 48, 49, 46, 84, 105, 99, 107, 101, 116, 78, 97, 109, 101, 115, 32, 112, 111, 115, 115, 101, 114, 47, 112, 111, 115, 115, 101, 114, 108, 97, 119, 48, 49, 46, 84, 105, 99, 107, 101, 116, 84, 114, 117, 116, 104, 32, 112, 111, 115, 115, 101, 114, 47, 112, 111, 115, 115, 101, 114, 108, 97, 119, 48, 49, 46, 84, 105, 99, 107, 101, 116, 69, 110, 100, 115, 32, 112, 111, 115, 115, 101, 114, 47, 112, 111, 115, 115, 101, 114, 108, 97, 119, 48, 49, 46, 84, 105, 99, 107, 101, 116, 79, 110, 99, 101, 32, 112, 111, 115, 115, 101, 114, 47, 112, 111, 115, 115, 101, 114, 108, 97, 119, 48, 49, 46, 84, 105, 99, 107, 101, 116, 83, 101, 116, 32, 112, 111, 115, 115, 101, 114, 47, 112, 111, 115, 115, 101, 114, 108, 97, 119, 48, 49, 46, 84, 105, 99, 107, 101, 116, 77, 111, 114, 101, 32, 112, 111, 115, 115, 101, 114, 47, 112, 111, 115, 115, 101, 114, 108, 97, 119, 48, 49, 46, 84, 105, 99, 107, 101, 116, 87, 105, 100, 101, 114, 32, 112, 111, 115, 115, 101, 114, 47, 112, 111, 115, 115, 101, 114, 108, 97, 119, 48, 49, 46, 84, 105, 99, 107, 101, 116, 76, 111, 110, 103, 101, 114, 32, 112, 111, 115, 115, 101, 114, 47, 112, 111, 115, 115, 101, 114, 108, 97, 119, 48, 49, 46, 84, 105, 99, 107, 101, 116, 67, 111, 109, 112, 97, 114, 101, 100, 32, 112, 111, 115, 115, 101, 114, 47, 112, 111, 115, 115, 101, 114, 108, 97, 119, 48, 49, 46, 84, 105, 99, 107, 101, 116, 84, 117, 98, 115, 32, 112, 111, 115, 115, 101, 114, 47, 112, 111, 115, 115, 101, 114, 108, 97, 119, 48, 49, 46, 84, 105, 99, 107, 101, 116, 70, 105, 114, 115, 116, 32, 112, 111, 115, 115, 101, 114, 47, 112, 111, 115, 115, 101, 114, 108, 97, 119, 48, 49, 46, 84, 105, 99, 107, 101, 116, 76, 101, 102, 116, 32, 112, 111, 115, 115, 101, 114, 47, 112, 111, 115, 115, 101, 114, 108, 97, 119, 48, 49, 46, 84, 105, 99, 107, 101, 116, 77, 101, 109, 111, 114, 121].map Char.ofNat
theorem io_eq : Try.prog.initOrder = String.ofList (ioA ++ Char.ofNat 32 :: (ioB ++ Char.ofNat 32 :: (ioC ++ Char.ofNat 32 :: ioR))) := by kernel_rfl
theorem ioA_ok : ∀ c ∈ ioA, c ≠ Char.ofNat 32 := of_decide_eq_true (by kernel_rfl)
theorem ioB_ok : ∀ c ∈ ioB, c ≠ Char.ofNat 32 := of_decide_eq_true (by kernel_rfl)
theorem ioC_ok : ∀ c ∈ ioC, c ≠ Char.ofNat 32 := of_decide_eq_true (by kernel_rfl)
theorem io_words : wordsSigns Try.prog.initOrder.toList = ioA :: ioB :: ioC :: wordsSigns ioR := by
  rw [io_eq, String.toList_ofList, ws_cons ioA ioA_ok, ws_cons ioB ioB_ok, ws_cons ioC ioC_ok]
theorem lifts_of {P : Program} {A B C : List Char} {X : List (List Char)} (h : wordsSigns P.initOrder.toList = A :: B :: C :: X) (hb : behindMainWord (A :: B :: C :: X) = C :: X) (h1 : (some C == some "carried".toList) = false) (h2 : stripLifts liftWords (C :: X) = ([], C :: X)) : P.liftsFinal = false := by
  unfold Program.liftsFinal Program.headLifts
  rw [h, hb]
  simp only [List.head?_cons, h1, h2, Bool.false_and, Bool.false_or, List.contains_nil, ite_self]
theorem make_of {P : Program} {A B C : List Char} {X : List (List Char)} (h : wordsSigns P.initOrder.toList = A :: B :: C :: X) (hb : behindMainWord (A :: B :: C :: X) = C :: X) (h1 : (C == "gc".toList) = false) (h2 : (C == "spec".toList) = false) (h3 : (C == "cut".toList) = true) : P.make = some .cut := by
  unfold Program.make
  rw [h, hb]
  simp only [h1, h2, h3, Bool.or_self, Bool.false_eq_true, if_false, Bool.true_or, if_true]
theorem enter_of {P : Program} {A B C : List Char} {X : List (List Char)} (h : wordsSigns P.initOrder.toList = A :: B :: C :: X) (hb : behindMainWord (A :: B :: C :: X) = C :: X) (h1 : (C == "gc".toList) = false) (h2 : (C == "spec".toList) = false) (h3 : (C == "carried".toList) = false) (h4 : (some C == some "cut".toList) = true) (h5 : stripLifts liftWords (C :: X) = ([], C :: X))
    (h6 : P.laysLater = false) (h7 : P.bearsReflect = false) (h8 : P.doorFits [] = true) : P.mayEnter = true := by
  unfold Program.mayEnter
  rw [h, hb]
  simp only [h1, h2, h3, h4, h5, h6, h7, h8, List.head?_cons, Bool.or_self, Bool.false_and, Bool.not_false, Bool.or_true, List.contains_nil, Bool.and_self]
theorem io_behind (X : List (List Char)) : behindMainWord (ioA :: ioB :: ioC :: X) = ioC :: X := by kernel_rfl
theorem io_gc : (ioC == "gc".toList) = false := by kernel_rfl
theorem io_spec : (ioC == "spec".toList) = false := by kernel_rfl
theorem io_carried : (ioC == "carried".toList) = false := by kernel_rfl
theorem io_cut : (ioC == "cut".toList) = true := by kernel_rfl
theorem io_cut2 : (some ioC == some "cut".toList) = true := by kernel_rfl
theorem io_strip (X : List (List Char)) : stripLifts liftWords (ioC :: X) = ([], ioC :: X) := by kernel_rfl
theorem io_later : Try.prog.laysLater = false := by kernel_rfl
theorem io_reflect : Try.prog.bearsReflect = false := by kernel_rfl
theorem io_door : Try.prog.doorFits [] = true := by kernel_rfl
theorem io_carried2 : (some ioC == some "carried".toList) = false := by kernel_rfl
theorem lifts_t : Try.prog.liftsFinal = false := lifts_of io_words (io_behind _) io_carried2 (io_strip _)
theorem make_t : Try.prog.make = some .cut := make_of io_words (io_behind _) io_gc io_spec io_cut
theorem enter_t : Try.prog.mayEnter = true := enter_of io_words (io_behind _) io_gc io_spec io_carried io_cut2 (io_strip _) io_later io_reflect io_door
theorem band {a b : Bool} (h : a = true) (k : b = true) : (a && b) = true := by rw [h, k]; rfl
end Go.Proofs.Ytehobnpoeodhkaa
