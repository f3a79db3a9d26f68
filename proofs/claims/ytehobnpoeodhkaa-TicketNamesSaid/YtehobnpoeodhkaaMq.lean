/- TicketNames: always, the law returns true, and its arguments read as they did. No condition. -/
import Derived.Test.YtehobnpoeodhkaaUn
import Derived.Test.YtehobnpoeodhkaaKyo
namespace Go.Proofs.Ytehobnpoeodhkaa
open Go Go.Abs Go.Proofs Go.ChangeShapes Go.WideShapes Go.ChangeAt Go.RowKit
set_option maxHeartbeats 4000000

set_option maxRecDepth 100000 in
theorem names_lifted (os : Os) (started : os.Started) (X : Type) (enc : TypeId × Value → X) :
    ReturnsInHanded {} Try.checked os 10 .any (Rows.ticketNamesSpec.pre6 enc Try.checked.prog Try.f10 Rows.ticketNamesRow.domain false) (Rows.ticketNamesSpec.post enc Try.checked.prog Try.f10 false true false false) :=
  lifted_o started (by kernel_rfl) Try.func10 (ChangeSpec.witness6 (enc := enc) (C := Try.checked) false ⟨#[], #[], []⟩ 8 (by kernel_rfl) (by kernel_rfl) (by kernel_rfl) (by kernel_rfl)) (by kernel_rfl) (by kernel_rfl) rfl rfl
    (fun H => names_law trivE () H)
theorem names_closed : joinedFacts Try.prog 10 Try.f10 Rows.ticketNamesSpec Rows.ticketNamesRow = true := by
  unfold joinedFacts
  refine band (band (band (band (band (band (band ?_ enter_t) ?_) ?_) ?_) ?_) ?_) ?_
  · kernel_rfl
  · rw [lifts_t]; kernel_rfl
  · rw [make_t]; kernel_rfl
  · kernel_rfl
  · kernel_rfl
  · kernel_rfl
  · kernel_rfl
theorem names_holds : Rows.TicketNamesSaid :=
  OpenClaim.holds_of_wide 10 Try.f10 rfl rfl rfl rfl rfl rfl rfl ⟨rfl, rfl, rfl, rfl, rfl⟩ rfl rfl rfl rfl rfl (by kernel_rfl) Try.func10 names_closed
    (of_decide_eq_true (by kernel_rfl)) (by unfold Func.isWrapper; first | (rw [if_pos (by decide +kernel)]; kernel_rfl) | (rw [if_neg (by decide +kernel)]; exact ⟨rfl, rfl⟩))
    (fun os started H enc _ => names_lifted os started H enc)
end Go.Proofs.Ytehobnpoeodhkaa
