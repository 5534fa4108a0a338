/-
  Package little: Pad of an Out, whichever way.
-/
import Derived.Test.YtghboanmiggcnaaLittleDone
namespace Go.Proofs.Ytghboanmiggcnaa
open Go.RowKit
set_option linter.unusedVariables false
set_option linter.unusedSimpArgs false

theorem zeros_bytes (n : Nat) : List.replicate n (.int .u8 0) = Lib.byteCells (List.replicate n 0) := by simp [Lib.byteCells]
end Go.Proofs.Ytghboanmiggcnaa
