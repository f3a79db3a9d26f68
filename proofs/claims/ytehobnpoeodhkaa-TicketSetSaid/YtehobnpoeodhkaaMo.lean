/- TicketSet: for every house and all further arguments, the law returns true, and its arguments read as they did. No condition. -/
import Derived.Test.YtehobnpoeodhkaaUj
import Derived.Test.YtehobnpoeodhkaaKyi
namespace Go.Proofs.Ytehobnpoeodhkaa
open Go Go.Abs Go.Proofs Go.ChangeShapes Go.WideShapes Go.ChangeAt Go.RowKit
set_option maxHeartbeats 4000000

set_option maxRecDepth 100000 in
theorem set_lifted (os : Os) (started : os.Started) (X : Type) (enc : TypeId × Value → X) :
    ReturnsInHanded {} Try.checked os 14 .any (Rows.ticketSetSpec.pre6 enc Try.checked.prog Try.f14 Rows.ticketSetRow.domain false) (Rows.ticketSetSpec.post enc Try.checked.prog Try.f14 false true false false) :=
  lifted_huu started (by kernel_rfl) Try.func14 (ChangeSpec.witness6 (enc := enc) (C := Try.checked) false ⟨#[], #[.agg #[.int .i64 0, .int .i64 0, .slice none 0 0, .slice none 0 0, .slice none 0 0], .int .u8 0, .int .u8 0], []⟩ 8 (by kernel_rfl) (by kernel_rfl) (by kernel_rfl) (by kernel_rfl)) (by kernel_rfl) (by kernel_rfl) rfl (fun _ _ _ => rfl)
    (fun H m s1 s2 s3 a b hm ha hb => set_law trivE () H m s1 s2 s3 a b hm ha hb)
theorem set_closed : joinedFacts Try.prog 14 Try.f14 Rows.ticketSetSpec Rows.ticketSetRow = true := by
  unfold joinedFacts
  refine band (band (band (band (band (band (band ?_ enter_t) ?_) ?_) ?_) ?_) ?_) ?_
  · kernel_rfl
  · rw [lifts_t]; kernel_rfl
  · rw [make_t]; kernel_rfl
  · kernel_rfl
  · kernel_rfl
  · kernel_rfl
  · kernel_rfl
theorem set_holds : Rows.TicketSetSaid :=
  OpenClaim.holds_of_wide 14 Try.f14 rfl rfl rfl rfl rfl rfl rfl ⟨rfl, rfl, rfl, rfl, rfl⟩ rfl rfl rfl rfl rfl (by kernel_rfl) Try.func14 set_closed
    (of_decide_eq_true (by kernel_rfl)) (by unfold Func.isWrapper; first | (rw [if_pos (by decide +kernel)]; kernel_rfl) | (rw [if_neg (by decide +kernel)]; exact ⟨rfl, rfl⟩))
    (fun os started H enc _ => set_lifted os started H enc)
end Go.Proofs.Ytehobnpoeodhkaa
