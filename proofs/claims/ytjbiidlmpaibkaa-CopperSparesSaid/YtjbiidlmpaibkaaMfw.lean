/- CopperSpares: for all coppers and all further arguments, the law returns true, and its arguments read as they did. No condition. -/
import Derived.Test.YtjbiidlmpaibkaaIuw
import Derived.Test.YtjbiidlmpaibkaaHow
namespace Go.Proofs.Ytjbiidlmpaibkaa
open Go Go.Abs Go.Proofs Go.ChangeShapes Go.WideShapes Go.ChangeAt Go.RowKit
set_option maxHeartbeats 4000000

set_option maxRecDepth 100000 in
theorem spares_lifted (os : Os) (started : os.Started) (X : Type) (enc : TypeId × Value → X) :
    ReturnsInHanded {} Try.checked os 6 .any (Rows.copperSparesSpec.pre6 enc Try.checked.prog Try.f6 Rows.copperSparesRow.domain false) (Rows.copperSparesSpec.post enc Try.checked.prog Try.f6 false true false false) :=
  lifted_cli started (by kernel_rfl) Try.func6 (ChangeSpec.witness6 (enc := enc) (C := Try.checked) false ⟨#[], #[.agg #[.int .i64 0, .int .i64 0, .int .i64 0, .int .i64 0, .int .i64 0, .slice none 0 0, .slice none 0 0, .int .i64 0, .int .i64 0, .slice none 0 0, .slice none 0 0], .slice none 0 0, .int .i64 0], []⟩ 8 (by kernel_rfl) (by kernel_rfl) (by kernel_rfl) (by kernel_rfl)) (by kernel_rfl) (by kernel_rfl) rfl (fun _ _ _ => rfl)
    (fun H m s1 s2 s3 s4 lv l a hm hr hl ha => spares_law trivE () H m s1 s2 s3 s4 lv l a hm hr hl ha)
theorem spares_closed : joinedFacts Try.prog 6 Try.f6 Rows.copperSparesSpec Rows.copperSparesRow = true := by
  unfold joinedFacts
  refine band (band (band (band (band (band (band ?_ enter_t) ?_) ?_) ?_) ?_) ?_) ?_
  · kernel_rfl
  · rw [lifts_t]; kernel_rfl
  · rw [make_t]; kernel_rfl
  · kernel_rfl
  · kernel_rfl
  · kernel_rfl
  · kernel_rfl
theorem spares_holds : Rows.CopperSparesSaid :=
  OpenClaim.holds_of_wide 6 Try.f6 rfl rfl rfl rfl rfl rfl rfl ⟨rfl, rfl, rfl, rfl, rfl⟩ rfl rfl rfl rfl rfl (by kernel_rfl) Try.func6 spares_closed
    (of_decide_eq_true (by kernel_rfl)) (by unfold Func.isWrapper; first | (rw [if_pos (by decide +kernel)]; kernel_rfl) | (rw [if_neg (by decide +kernel)]; exact ⟨rfl, rfl⟩))
    (fun os started H enc _ => spares_lifted os started H enc)
end Go.Proofs.Ytjbiidlmpaibkaa
