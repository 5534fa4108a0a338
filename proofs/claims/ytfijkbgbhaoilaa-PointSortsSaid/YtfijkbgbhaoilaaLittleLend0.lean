/-
  Package little: lend of nothing.
-/
import Derived.Test.YtfijkbgbhaoilaaLittleLend
namespace Go.Proofs.Ytfijkbgbhaoilaa
open Go.RowKit
set_option linter.unusedVariables false
set_option linter.unusedSimpArgs false

end Go.Proofs.Ytfijkbgbhaoilaa
