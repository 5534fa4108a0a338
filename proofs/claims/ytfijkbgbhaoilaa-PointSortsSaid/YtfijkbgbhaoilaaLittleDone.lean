/-
  Package little: Done of an Out.
-/
import Derived.Test.YtfijkbgbhaoilaaLittleNumErr
import Derived.Test.YtfijkbgbhaoilaaOctClone
namespace Go.Proofs.Ytfijkbgbhaoilaa
open Go.RowKit
set_option linter.unusedVariables false
set_option linter.unusedSimpArgs false

end Go.Proofs.Ytfijkbgbhaoilaa
