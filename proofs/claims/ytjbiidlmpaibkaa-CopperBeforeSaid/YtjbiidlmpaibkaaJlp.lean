import Derived.Test.YtjbiidlmpaibkaaJep
import Derived.Test.YtjbiidlmpaibkaaJkp
import Derived.Test.YtjbiidlmpaibkaaHrp
namespace Go.Proofs.Ytjbiidlmpaibkaa
open Go Go.Abs Go.Proofs
set_option maxHeartbeats 4000000
set_option maxRecDepth 20000
attribute [local irreducible] CallJ OpsJ WPJ CallV MonoJ SpecJ
def wordS (ws : List Int) (j : Nat) : Int := if ws.length = 0 then 0 else ws.getD (j % ws.length) 0
theorem wordS_bd {ws : List Int} (h : ∀ x ∈ ws, 0 ≤ x ∧ x ≤ 65535) (j : Nat) : 0 ≤ wordS ws j ∧ wordS ws j ≤ 65535 := by
  unfold wordS
  split
  · omega
  · exact getD_bd h (by omega) _
section
variable {γ : Type} (E : Env γ) (g : γ) (H : AHeap)
theorem word_spec (wv : Value) (ws : List Int) (j : Nat) (hr : RdS H wv 1 (encU ws)) (hn : ws.length ≤ 9223372036854775807) (hb : ∀ x ∈ ws, 0 ≤ x ∧ x ≤ 65535) (hj : j ≤ 1000000) :
    CallJ Try.prog E 64 [wv, .int .i64 j] (fun v H' g' => v = .int .i64 (wordS ws j) ∧ H' = H ∧ g' = g) H g := by
  refine CallJ.tidy ?_
  refine CallJ.enter Try.func64 rfl (by simp only [Try.ntmps64, List.length_cons, List.length_nil, Nat.zero_add, Nat.reduceAdd, Nat.reduceSub, List.replicate_succ, List.replicate_zero, List.cons_append, List.nil_append]; rfl) ?_
  by_cases h0 : ws.length = 0
  · have e : wordS ws j = 0 := by unfold wordS; rw [if_pos h0]
    rw [e]
    repeat' (first
      | ((fail_if_success (first | refine is_ucall ?_ | refine is_umcall ?_)); first | refine W1 ?_ | refine Wc ?_ | refine W2c ?_ ?_ | refine Wg ?_ | refine W2 ?_ ?_ | exact Wdead | refine Wlive (fun hb => ?_) | intro _ _ _ _ _ _ _ _ | refine We ?_ | refine Wx ?_ | refine Wt ?_ | refine Wm ?_ | refine W2m ?_ ?_ | refine Wl ?_)
      | fail)
    all_goals first | exact ⟨rfl, rfl, rfl⟩ | exact absurd trivial (by assumption) | exact absurd rfl (by assumption) | trace_state
  · have e : wordS ws j = ws.getD (j % ws.length) 0 := by unfold wordS; rw [if_neg h0]
    have hlt : j % ws.length < ws.length := Nat.mod_lt _ (by omega)
    have hel : (encU ws)[((j % ws.length : Nat) : Int).toNat]? = some [.int .u16 (ws.getD (j % ws.length) 0)] := by
      rw [Int.toNat_natCast, List.getElem?_map, List.getElem?_eq_getElem hlt]
      simp only [Option.map_some, List.getD, List.getElem?_eq_getElem hlt, Option.getD_some]
    have hbd := getD_bd hb (by omega) (j % ws.length)
    have hrem : ((j : Nat) : Int) % ((ws.length : Nat) : Int) = ((j % ws.length : Nat) : Int) := rfl
    rw [e]
    generalize ws.getD (j % ws.length) 0 = x at *
    have hwx : IntKind.i64.wrap x = x := wrap64_eq ⟨by omega, by omega⟩
    repeat' (first
      | ((fail_if_success (first | refine is_ucall ?_ | refine is_umcall ?_)); first | refine W1 ?_ | refine Wc ?_ | refine W2c ?_ ?_ | refine Wg ?_ | refine W2 ?_ ?_ | exact Wdead | refine Wlive (fun hb => ?_) | intro _ _ _ _ _ _ _ _ | refine We ?_ | refine Wx ?_ | refine Wt ?_ | refine Wm ?_ | refine W2m ?_ ?_ | refine Wl ?_)
      | fail)
    all_goals try rw [hwx]
    all_goals first | exact ⟨rfl, rfl, rfl⟩ | exact absurd trivial (by assumption) | exact absurd rfl (by assumption) | trace_state
end
def otherM (m : CopM) (cl wl : List Int) : CopM := { m with coal := cl, want := wl, reads := [] }
theorem check_other {m : CopM} (hz : checkS m = 0) {cl wl : List Int} (hl : CoalOk m cl) (hw : wl.length = hrs m ∧ ∀ x ∈ wl, 0 ≤ x ∧ x ≤ 20) : checkS (otherM m cl wl) = 0 := by
  have hG := good_of hz
  have hnl := (hrs_le hG.w).2
  have hf : forHours m cl m.shovels = true := by
    simp only [forHours, inR, Bool.and_eq_true, List.all_eq_true, decide_eq_true_eq]
    exact ⟨by rw [hl.1]; omega, fun x hx => hl.2 x hx⟩
  have hf2 : forHours m wl 20 = true := by
    simp only [forHours, inR, Bool.and_eq_true, List.all_eq_true, decide_eq_true_eq]
    exact ⟨by rw [hw.1]; omega, fun x hx => hw.2 x hx⟩
  unfold checkS at hz ⊢
  have e2 : sizesS (otherM m cl wl) = sizesS m := rfl
  rw [e2]
  cases h1 : isLongS m with
  | true => rw [h1] at hz; simp at hz
  | false =>
    rw [h1] at hz
    have e1 : isLongS (otherM m cl wl) = false := by
      simp only [isLongS, Bool.or_eq_false_iff, decide_eq_false_iff_not] at h1 ⊢
      exact ⟨h1.1, by simp [otherM]⟩
    rw [e1]
    cases h2 : isValidS m with
    | false => rw [h2] at hz; simp at hz
    | true =>
      rw [h2] at hz
      have h3 : isValidS (otherM m cl wl) = true := by
        simp only [isValidS, Bool.and_eq_true] at h2 ⊢
        obtain ⟨⟨⟨⟨a1, a2⟩, ⟨_, _⟩⟩, a5⟩, _⟩ := h2
        exact ⟨⟨⟨⟨a1, a2⟩, ⟨hf, hf2⟩⟩, a5⟩, by simp [otherM]⟩
      rw [h3]
      exact hz
def fillJ (f : Nat → Int) (B : List Int) (n j : Nat) : List Int := (List.range n).map fun i => if i < j then f i else B.getD i 0
theorem fillJ_len (f : Nat → Int) (B : List Int) (n j : Nat) : (fillJ f B n j).length = n := by simp [fillJ]
theorem fillJ_zero {f : Nat → Int} {B : List Int} {n : Nat} (h : B.length = n) : fillJ f B n 0 = B := by
  subst h
  refine List.ext_getElem (by simp [fillJ]) fun i h1 h2 => ?_
  simp [fillJ, List.getD, h2]
theorem fillJ_step {f : Nat → Int} {B : List Int} {n j : Nat} (_h : j < n) : (fillJ f B n j).set j (f j) = fillJ f B n (j + 1) := by
  refine List.ext_getElem (by simp [fillJ]) fun i h1 h2 => ?_
  rw [List.getElem_set]
  simp only [fillJ, List.getElem_map, List.getElem_range]
  by_cases e : j = i
  · subst e; rw [if_pos rfl, if_pos (by omega)]
  · rw [if_neg e]
    by_cases e2 : i < j
    · rw [if_pos e2, if_pos (by omega)]
    · rw [if_neg e2, if_neg (by omega)]
theorem fillJ_same {f : Nat → Int} {B : List Int} {n j : Nat} (h : f j = B.getD j 0) : fillJ f B n (j + 1) = fillJ f B n j := by
  refine List.ext_getElem (by simp [fillJ]) fun i h1 h2 => ?_
  simp only [fillJ, List.getElem_map, List.getElem_range]
  by_cases e : i = j
  · subst e; rw [if_pos (by omega), if_neg (by omega)]; exact h
  · by_cases e2 : i < j
    · rw [if_pos e2, if_pos (by omega)]
    · rw [if_neg e2, if_neg (by omega)]
theorem fillJ_at {f : Nat → Int} {B : List Int} {n j : Nat} (h : j < n) (k : Nat) : (fillJ f B n k).getD j 0 = if j < k then f j else B.getD j 0 := by simp [fillJ, List.getD, h]
theorem take_same {P Q : List Int} {k : Nat} (h1 : k ≤ P.length) (h2 : k ≤ Q.length) (h : ∀ i < k, P.getD i 0 = Q.getD i 0) : P.take k = Q.take k := by
  refine List.ext_getElem (by simp; omega) fun i a b => ?_
  have hi : i < k := by simp at a; omega
  have := h i hi
  simp only [List.getD, List.getElem?_eq_getElem (show i < P.length by omega), List.getElem?_eq_getElem (show i < Q.length by omega), Option.getD_some] at this
  simpa using this
section
variable {P : Program} {T : List Value} {H : AHeap} {R : List Value → AHeap → Prop} {ops : Array Oper} {dst : Option Tmp} {ty : TypeId} {ps : String} {af : Array Edge} {rest : List Oper} {mm : Nat} {xs : Array Operand} {at_ : Array TypeId}
theorem mj_playC {m : CopM} {s1 s2 s3 s4 tl : Value} {h : Int} {ls : List Int} (ha : evalL T xs.toList = [cv m s1 s2 s3 s4, .agg ⟨[.int .i64 h, tl]⟩]) (hm : CopIs H m s1 s2 s3 s4) (hr : RdS H tl 1 (encI ls)) (hn : ls.length ≤ 1000000) (he : playE m h ls = 0)
    (k : ∀ H' i j, H'[i]? = some (.row (encE (hotL m h ls)) 1 true) → H'[j]? = some (.row (encE (leftL m h ls)) 1 true) → Ext H H' → MonoJ Try.prog ops R mm rest (putT T dst (.tuple #[.slice (some ⟨i, 0, none⟩) (hrs m) (hrs m), .slice (some ⟨j, 0, none⟩) (hrs m) (hrs m), .int .i64 0])) H') : MonoJ Try.prog ops R (mm + 1) (⟨dst, .call { callee := .value (.func 21), args := xs, argTypes := at_ }, ty, ps, af, none⟩ :: rest) T H :=
  mj_callL (ha := ha) (h := (Play_spec trivE () H m s1 s2 s3 s4 tl h ls hm hr hn).mono (by rintro v H' g' ⟨h, rfl⟩; rw [if_pos he] at h; exact ⟨h.1, h.2, rfl⟩)) (k := k _ _ _ (by simp) (by simp) ⟨_, rfl⟩)
end
end Go.Proofs.Ytjbiidlmpaibkaa
