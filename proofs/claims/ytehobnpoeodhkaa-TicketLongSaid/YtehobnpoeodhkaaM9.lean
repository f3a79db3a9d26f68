/- TicketLong: for every house, the law returns true, and its arguments read as they did. No condition. -/
import Derived.Test.YtehobnpoeodhkaaR9
import Derived.Test.YtehobnpoeodhkaaV10
namespace Go.Proofs.Ytehobnpoeodhkaa
open Go Go.Abs Go.Proofs Go.ChangeShapes Go.WideShapes Go.ChangeAt Go.RowKit
set_option maxHeartbeats 4000000

set_option maxRecDepth 100000 in
theorem long_lifted (os : Os) (started : os.Started) (X : Type) (enc : TypeId × Value → X) :
    ReturnsInHanded {} Try.checked os 5 .any (Rows.ticketLongSpec.pre6 enc Try.checked.prog Try.f5 Rows.ticketLongRow.domain false) (Rows.ticketLongSpec.post enc Try.checked.prog Try.f5 false true false false) :=
  lifted_h started (by kernel_rfl) Try.func5 (ChangeSpec.witness6 (enc := enc) (C := Try.checked) false ⟨#[], #[.agg #[.int .i64 0, .int .i64 0, .slice none 0 0, .slice none 0 0, .slice none 0 0]], []⟩ 8 (by kernel_rfl) (by kernel_rfl) (by kernel_rfl) (by kernel_rfl)) (by kernel_rfl) (by kernel_rfl) rfl (fun _ => rfl)
    (fun H m s1 s2 s3 hm => long_law trivE () H m s1 s2 s3 hm)
theorem long_closed : joinedFacts Try.prog 5 Try.f5 Rows.ticketLongSpec Rows.ticketLongRow = true := by
  unfold joinedFacts
  refine band (band (band (band (band (band (band ?_ enter_t) ?_) ?_) ?_) ?_) ?_) ?_
  · kernel_rfl
  · rw [lifts_t]; kernel_rfl
  · rw [make_t]; kernel_rfl
  · kernel_rfl
  · kernel_rfl
  · kernel_rfl
  · kernel_rfl
theorem long_holds : Rows.TicketLongSaid :=
  OpenClaim.holds_of_wide 5 Try.f5 rfl rfl rfl rfl rfl rfl rfl ⟨rfl, rfl, rfl, rfl, rfl⟩ rfl rfl rfl rfl rfl (by kernel_rfl) Try.func5 long_closed
    (of_decide_eq_true (by kernel_rfl)) (by unfold Func.isWrapper; first | (rw [if_pos (by decide +kernel)]; kernel_rfl) | (rw [if_neg (by decide +kernel)]; exact ⟨rfl, rfl⟩))
    (fun os started H enc _ => long_lifted os started H enc)
end Go.Proofs.Ytehobnpoeodhkaa
