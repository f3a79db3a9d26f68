/- TicketMemory: for every house and every list, the law returns true, and its arguments read as they did. No condition. -/
import Derived.Test.YtehobnpoeodhkaaXe
import Derived.Test.YtehobnpoeodhkaaKyl
namespace Go.Proofs.Ytehobnpoeodhkaa
open Go Go.Abs Go.Proofs Go.ChangeShapes Go.WideShapes Go.ChangeAt Go.RowKit
set_option maxHeartbeats 4000000

set_option maxRecDepth 100000 in
theorem memory_lifted (os : Os) (started : os.Started) (X : Type) (enc : TypeId × Value → X) :
    ReturnsInHanded {} Try.checked os 22 .any (Rows.ticketMemorySpec.pre6 enc Try.checked.prog Try.f22 Rows.ticketMemoryRow.domain false) (Rows.ticketMemorySpec.post enc Try.checked.prog Try.f22 false true false false) :=
  lifted_hl started (by kernel_rfl) Try.func22 (ChangeSpec.witness6 (enc := enc) (C := Try.checked) false ⟨#[], #[.agg #[.int .i64 0, .int .i64 0, .slice none 0 0, .slice none 0 0, .slice none 0 0], .slice none 0 0], []⟩ 8 (by kernel_rfl) (by kernel_rfl) (by kernel_rfl) (by kernel_rfl)) (by kernel_rfl) (by kernel_rfl) rfl (fun _ _ => rfl)
    (fun H m s1 s2 s3 lv l hm hr hl => memory_law trivE () H m s1 s2 s3 lv l hm hr hl)
theorem memory_closed : joinedFacts Try.prog 22 Try.f22 Rows.ticketMemorySpec Rows.ticketMemoryRow = true := by
  unfold joinedFacts
  refine band (band (band (band (band (band (band ?_ enter_t) ?_) ?_) ?_) ?_) ?_) ?_
  · kernel_rfl
  · rw [lifts_t]; kernel_rfl
  · rw [make_t]; kernel_rfl
  · kernel_rfl
  · kernel_rfl
  · kernel_rfl
  · kernel_rfl
theorem memory_holds : Rows.TicketMemorySaid :=
  OpenClaim.holds_of_wide 22 Try.f22 rfl rfl rfl rfl rfl rfl rfl ⟨rfl, rfl, rfl, rfl, rfl⟩ rfl rfl rfl rfl rfl (by kernel_rfl) Try.func22 memory_closed
    (of_decide_eq_true (by kernel_rfl)) (by unfold Func.isWrapper; first | (rw [if_pos (by decide +kernel)]; kernel_rfl) | (rw [if_neg (by decide +kernel)]; exact ⟨rfl, rfl⟩))
    (fun os started H enc _ => memory_lifted os started H enc)
end Go.Proofs.Ytehobnpoeodhkaa
