/-
  Package little: numbers and texts of what nobody made.
-/
import Derived.Test.YtghboanmiggcnaaLittleNil
import Derived.Lib.BufferRead
namespace Go.Proofs.Ytghboanmiggcnaa
open Go.RowKit
set_option linter.unusedVariables false
set_option linter.unusedSimpArgs false

theorem size_bd (n : Int) : 1 ≤ min (max n 1) 6 ∧ min (max n 1) 6 ≤ 6 := by omega
theorem six (s : Int) (h1 : 1 ≤ s) (h2 : s ≤ 6) : s = 1 ∨ s = 2 ∨ s = 3 ∨ s = 4 ∨ s = 5 ∨ s = 6 := by omega

end Go.Proofs.Ytghboanmiggcnaa
