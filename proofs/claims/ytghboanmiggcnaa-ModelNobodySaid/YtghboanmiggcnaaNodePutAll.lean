/-
  Package node: another node's octets; Put.
-/
import Derived.Test.YtghboanmiggcnaaNodePut
import Derived.LoopN
namespace Go.Proofs.Ytghboanmiggcnaa
open Go.RowKit
set_option linter.unusedVariables false
set_option linter.unusedSimpArgs false

@[go_sem high] theorem index_arr0 (a0 a1 a2 a3 : Int) (w : World) : (Instr.index 27 (.agg #[.int .i64 a0, .int .i64 a1, .int .i64 a2, .int .i64 a3]) (.int .i64 0)).run Try.prog w = .ok (.int .i64 a0) w := by
  first | kernel_rfl | rfl
@[go_sem high] theorem index_arr1 (a0 a1 a2 a3 : Int) (w : World) : (Instr.index 27 (.agg #[.int .i64 a0, .int .i64 a1, .int .i64 a2, .int .i64 a3]) (.int .i64 1)).run Try.prog w = .ok (.int .i64 a1) w := by
  first | kernel_rfl | rfl
@[go_sem high] theorem index_arr2 (a0 a1 a2 a3 : Int) (w : World) : (Instr.index 27 (.agg #[.int .i64 a0, .int .i64 a1, .int .i64 a2, .int .i64 a3]) (.int .i64 2)).run Try.prog w = .ok (.int .i64 a2) w := by
  first | kernel_rfl | rfl
@[go_sem high] theorem index_arr3 (a0 a1 a2 a3 : Int) (w : World) : (Instr.index 27 (.agg #[.int .i64 a0, .int .i64 a1, .int .i64 a2, .int .i64 a3]) (.int .i64 3)).run Try.prog w = .ok (.int .i64 a3) w := by
  first | kernel_rfl | rfl

end Go.Proofs.Ytghboanmiggcnaa
