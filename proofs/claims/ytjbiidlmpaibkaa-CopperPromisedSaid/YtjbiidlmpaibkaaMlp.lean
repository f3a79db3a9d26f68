/- CopperPromised: for all coppers and all further arguments, the law returns true, and its arguments read as they did. No condition. -/
import Derived.Test.YtjbiidlmpaibkaaJop
import Derived.Test.YtjbiidlmpaibkaaHsp
namespace Go.Proofs.Ytjbiidlmpaibkaa
open Go Go.Abs Go.Proofs Go.ChangeShapes Go.WideShapes Go.ChangeAt Go.RowKit
set_option maxHeartbeats 4000000

set_option maxRecDepth 100000 in
theorem promised_lifted (os : Os) (started : os.Started) (X : Type) (enc : TypeId × Value → X) :
    ReturnsInHanded {} Try.checked os 12 .any (Rows.copperPromisedSpec.pre6 enc Try.checked.prog Try.f12 Rows.copperPromisedRow.domain false) (Rows.copperPromisedSpec.post enc Try.checked.prog Try.f12 false true false false) :=
  lifted_cWuu started (by kernel_rfl) Try.func12 (ChangeSpec.witness6 (enc := enc) (C := Try.checked) false ⟨#[], #[.agg #[.int .i64 0, .int .i64 0, .int .i64 0, .int .i64 0, .int .i64 0, .slice none 0 0, .slice none 0 0, .int .i64 0, .int .i64 0, .slice none 0 0, .slice none 0 0], .slice none 0 0, .int .u8 0, .int .u8 0], []⟩ 8 (by kernel_rfl) (by kernel_rfl) (by kernel_rfl) (by kernel_rfl)) (by kernel_rfl) (by kernel_rfl) rfl (fun _ _ _ _ => rfl)
    (fun H m s1 s2 s3 s4 lv b c l hm hb hc hws hwn hwb => promised_law trivE () H m s1 s2 s3 s4 lv b c l hm hb hc hws hwn hwb)
theorem promised_closed : joinedFacts Try.prog 12 Try.f12 Rows.copperPromisedSpec Rows.copperPromisedRow = true := by
  unfold joinedFacts
  refine band (band (band (band (band (band (band ?_ enter_t) ?_) ?_) ?_) ?_) ?_) ?_
  · kernel_rfl
  · rw [lifts_t]; kernel_rfl
  · rw [make_t]; kernel_rfl
  · kernel_rfl
  · kernel_rfl
  · kernel_rfl
  · kernel_rfl
theorem promised_holds : Rows.CopperPromisedSaid :=
  OpenClaim.holds_of_wide 12 Try.f12 rfl rfl rfl rfl rfl rfl rfl ⟨rfl, rfl, rfl, rfl, rfl⟩ rfl rfl rfl rfl rfl (by kernel_rfl) Try.func12 promised_closed
    (of_decide_eq_true (by kernel_rfl)) (by unfold Func.isWrapper; first | (rw [if_pos (by decide +kernel)]; kernel_rfl) | (rw [if_neg (by decide +kernel)]; exact ⟨rfl, rfl⟩))
    (fun os started H enc _ => promised_lifted os started H enc)
end Go.Proofs.Ytjbiidlmpaibkaa
