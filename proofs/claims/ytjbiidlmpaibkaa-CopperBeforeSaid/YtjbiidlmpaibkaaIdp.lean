import Derived.Test.YtjbiidlmpaibkaaIbp
namespace Go.Proofs.Ytjbiidlmpaibkaa
open Go Go.Abs Go.Proofs
set_option maxHeartbeats 1600000
attribute [local irreducible] CallJ OpsJ WPJ CallV MonoJ SpecJ
def rightP (m : CopM) (t : Int × List Int) (i : Nat) : Bool := rightR (arr5 (hrs m) (hotS m t.1 t.2)) (m.reads.getD i rd0)
def rightB (m : CopM) (t : Int × List Int) : Nat → Nat
  | 0 => 0
  | k + 1 => if rightP m t k then rightB m t k ||| 2 ^ k else rightB m t k
section
variable {γ : Type} (E : Env γ) (g : γ) (H : AHeap)
theorem TruthO_spec (tl : Value) (h : Int) (ls : List Int) (hr : RdS H tl 1 (encI ls)) (hn : ls.length ≤ 1000000) :
    CallJ Try.prog E 23 [.agg ⟨[.int .i64 h, tl]⟩] (fun v H' g' => v = .agg ⟨[.int .i64 h, .slice (some ⟨H.length, 0, none⟩) ls.length ls.length]⟩ ∧ H' = H ++ [.row (encE ls) 1 true] ∧ g' = g) H g := by
  have hokt : [Value.int .i64 h, tl].all cellOk = true := by
    obtain ⟨a, b, c, rfl⟩ := RdS.shape hr; rfl
  refine CallJ.tidy ?_
  refine CallJ.enter Try.func23 rfl (by simp only [Try.ntmps23, List.length_cons, List.length_nil, Nat.zero_add, Nat.reduceSub, List.replicate_succ, List.replicate_zero, List.cons_append, List.nil_append]; rfl) ?_
  repeat' (first
    | ((fail_if_success (first | refine is_ucall ?_ | refine is_umcall ?_)); first | refine W1 ?_ | refine Wc ?_ | refine W2c ?_ ?_ | refine Wg ?_ | refine W2 ?_ ?_ | exact Wdead | refine Wlive (fun hb => ?_) | intro _ _ _ _ _ _ _ _ | refine We ?_ | refine Wx ?_ | refine Wt ?_ | refine Wm ?_ | refine W2m ?_ ?_ | refine Wl ?_)
    | fail)
  refine WPJ.draw 6 mixed (by kernel_rfl) (by kernel_rfl) (by kernel_rfl) (by decide) ?_
  refine MonoJ.normA ?_
  repeat' (first
    | ((fail_if_success (first | refine is_ucall ?_ | refine is_umcall ?_)); first | refine W1 ?_ | refine Wc ?_ | refine W2c ?_ ?_ | refine Wg ?_ | refine W2 ?_ ?_ | exact Wdead | refine Wlive (fun hb => ?_) | intro _ _ _ _ _ _ _ _ | refine We ?_ | refine Wx ?_ | refine Wt ?_ | refine Wm ?_ | refine W2m ?_ ?_ | refine Wl ?_)
    | fail)
  refine mj_callL (h := list_spec _ _ _ tl ls ?_ hn) (k := ?_)
  · exact hr.ext extA
  refine MonoJ.normA ?_
  repeat' (first
    | ((fail_if_success (first | refine is_ucall ?_ | refine is_umcall ?_)); first | refine W1 ?_ | refine Wc ?_ | refine W2c ?_ ?_ | refine Wg ?_ | refine W2 ?_ ?_ | exact Wdead | refine Wlive (fun hb => ?_) | intro _ _ _ _ _ _ _ _ | refine We ?_ | refine Wx ?_ | refine Wt ?_ | refine Wm ?_ | refine W2m ?_ ?_ | refine Wl ?_)
    | fail)
  refine Tidy.two (v0 := .agg ⟨[.int .i64 h, .slice (some ⟨H.length, 0, none⟩) ls.length ls.length]⟩) extA (i := H.length + 2) (cells := encE ls) getA (by omega) (encE_flat _) (.aggs rfl fun j q1 q2 => ?_) ⟨rfl, rfl, rfl⟩
  match j, q1 with
  | 0, _ => exact .flat rfl
  | 1, _ => exact .slice (j := 0) rfl
end
end Go.Proofs.Ytjbiidlmpaibkaa
