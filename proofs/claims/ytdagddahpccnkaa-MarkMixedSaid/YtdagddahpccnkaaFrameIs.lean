/-
  Package frame: Is; the example of layer 9.
-/
import Derived.Test.YtdagddahpccnkaaFrameOpen
import Derived.Test.YtdagddahpccnkaaFrameSeal
import Derived.WalkSpells
namespace Go.Proofs.Ytdagddahpccnkaa
open Go.RowKit
set_option linter.unusedVariables false
set_option linter.unusedSimpArgs false

def stEq (a b c a' b' c' : Int) : Bool := decide (a = a') && decide (b = b') && decide (c = c')
@[go_sem high] theorem eql_st (a b c a' b' c' : Int) (w : World) : (binOp .eql 54 (.agg #[.int .i64 a, .int .i64 b, .int .i64 c]) (.agg #[.int .i64 a', .int .i64 b', .int .i64 c'])).run Try.prog w = .ok (.bool (stEq a b c a' b' c')) w := by
  rw [run_eql_struct]
  by_cases h1 : a = a' <;> by_cases h2 : b = b' <;> by_cases h3 : c = c' <;> simp [go_sem, stEq, h1, h2, h3]
def isB (l : List UInt8) (kind : Int) (t : Stp) : Bool := goodB l && (openK l == kind && stEq (openS l).e (openS l).s (openS l).a t.e t.s t.a)
theorem stEq_iff (s t : Stp) : stEq s.e s.s s.a t.e t.s t.a = true ↔ s = t := by
  cases s; cases t
  simp [stEq, and_assoc]

end Go.Proofs.Ytdagddahpccnkaa
