/-
  Layer 22: nodes that nobody made are none.
-/
import Derived.Test.YtgjdngpninpgmaaGroveNil
import Derived.Test.YtgjdngpninpgmaaNodeDef
import Derived.BigQuiet
import Derived.WideKeyElems
namespace Go.Proofs.Ytgjdngpninpgmaa
open Go.RowKit Go.MapKept
set_option linter.unusedVariables false
set_option linter.unusedSimpArgs false

theorem gzero (w : World) : (zeroValue 62).run Try.prog w = .ok gnode0 w := by
  first | kernel_rfl | rfl
theorem glookup_empty (b : Nat) (k : Int) (w : World) (hb : w.heap[b]? = some (.map #[] 0)) : (Instr.lookup 82 (.map (some b)) (.int .i64 k) true).run Try.prog w = .ok (.tuple #[gnode0, .bool false]) w := by
  have hz := gzero w
  have hkey : IsKey (.int .i64) (.int .i64 k) := by simp [IsKey]
  simp [Instr.lookup, run_underlying Try.underlying82, Go.MapKept.run_getObj_map hb, run_checkKey Try.underlying3 hkey, hz, Result.andThen, Instr.findKey, Instr.findNow, Instr.findAsking]

set_option maxRecDepth 100000 in
theorem gnew (w : World) : Calls Try.prog 28 #[] w fun e w' => e = .returned (.pointer (some ⟨w.heap.size + 1, 0, none⟩)) ∧ w' = (w.alloc (.map #[] 0)).alloc (.cells #[.map (some w.heap.size)] 84) := by
  have hmm := @run_makeMap Try.prog
  go_enter Try.func28, Try.ntmps28
  go_wp2_with fail
  go_ret
  exact ⟨by simp, rfl⟩
end Go.Proofs.Ytgjdngpninpgmaa
