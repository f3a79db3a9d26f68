import Derived.Test.YtjbiidlmpaibkaaU6
namespace Go.Proofs.Ytjbiidlmpaibkaa
open Go Go.Abs Go.Proofs Go.ChangeShapes Go.RowKit Go.WideShapes Go.ChangeAt
set_option maxHeartbeats 800000
theorem u8_bd {n : Int} (h : (Lit.int .u8 n).wf = true) : 0 ≤ n ∧ n ≤ 255 := by
  simp only [Lit.wf, Bool.and_eq_true, decide_eq_true_eq, show IntKind.u8.min = 0 by decide, show IntKind.u8.max = 255 by decide] at h
  exact h
theorem rd5 : Try.prog.readableRec 5 = true := by kernel_rfl
theorem sz5 : 5 < Try.prog.types.size := of_decide_eq_true (by kernel_rfl)
theorem und5' : Try.prog.underlying 5 = some (.int .u8) := by kernel_rfl
theorem und79' : Try.prog.underlying 79 = some (.int .u16) := by kernel_rfl
end Go.Proofs.Ytjbiidlmpaibkaa
