/- CopperWarmer: for all coppers and all further arguments, the law returns true, and its arguments read as they did. No condition. -/
import Derived.Test.YtjbiidlmpaibkaaJjp
import Derived.Test.YtjbiidlmpaibkaaHqp
namespace Go.Proofs.Ytjbiidlmpaibkaa
open Go Go.Abs Go.Proofs Go.ChangeShapes Go.WideShapes Go.ChangeAt Go.RowKit
set_option maxHeartbeats 4000000

set_option maxRecDepth 100000 in
theorem warmer_lifted (os : Os) (started : os.Started) (X : Type) (enc : TypeId × Value → X) :
    ReturnsInHanded {} Try.checked os 11 .any (Rows.copperWarmerSpec.pre6 enc Try.checked.prog Try.f11 Rows.copperWarmerRow.domain false) (Rows.copperWarmerSpec.post enc Try.checked.prog Try.f11 false true false false) :=
  lifted_cwwuu started (by kernel_rfl) Try.func11 (ChangeSpec.witness6 (enc := enc) (C := Try.checked) false ⟨#[], #[.agg #[.int .i64 0, .int .i64 0, .int .i64 0, .int .i64 0, .int .i64 0, .slice none 0 0, .slice none 0 0, .int .i64 0, .int .i64 0, .slice none 0 0, .slice none 0 0], .int .u16 0, .int .u16 0, .int .u8 0, .int .u8 0], []⟩ 8 (by kernel_rfl) (by kernel_rfl) (by kernel_rfl) (by kernel_rfl)) (by kernel_rfl) (by kernel_rfl) rfl (fun _ _ _ _ _ => rfl)
    (fun H m s1 s2 s3 s4 a b c d hm ha hb hc hd => warmer_law trivE () H m s1 s2 s3 s4 a b c d hm ha hb hc hd)
theorem warmer_closed : joinedFacts Try.prog 11 Try.f11 Rows.copperWarmerSpec Rows.copperWarmerRow = true := by
  unfold joinedFacts
  refine band (band (band (band (band (band (band ?_ enter_t) ?_) ?_) ?_) ?_) ?_) ?_
  · kernel_rfl
  · rw [lifts_t]; kernel_rfl
  · rw [make_t]; kernel_rfl
  · kernel_rfl
  · kernel_rfl
  · kernel_rfl
  · kernel_rfl
theorem warmer_holds : Rows.CopperWarmerSaid :=
  OpenClaim.holds_of_wide 11 Try.f11 rfl rfl rfl rfl rfl rfl rfl ⟨rfl, rfl, rfl, rfl, rfl⟩ rfl rfl rfl rfl rfl (by kernel_rfl) Try.func11 warmer_closed
    (of_decide_eq_true (by kernel_rfl)) (by unfold Func.isWrapper; first | (rw [if_pos (by decide +kernel)]; kernel_rfl) | (rw [if_neg (by decide +kernel)]; exact ⟨rfl, rfl⟩))
    (fun os started H enc _ => warmer_lifted os started H enc)
end Go.Proofs.Ytjbiidlmpaibkaa
