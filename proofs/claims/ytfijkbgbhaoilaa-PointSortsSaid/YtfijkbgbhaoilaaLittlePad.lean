/-
  Package little: Pad, of an Out that was made.
-/
import Derived.Test.YtfijkbgbhaoilaaLittleLend0
namespace Go.Proofs.Ytfijkbgbhaoilaa
open Go.RowKit
set_option linter.unusedVariables false
set_option linter.unusedSimpArgs false

end Go.Proofs.Ytfijkbgbhaoilaa
