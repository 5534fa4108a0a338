/-
  Package little: Pad, of an Out that was made.
-/
import Derived.Test.YtgjdngpninpgmaaLittleLend0
namespace Go.Proofs.Ytgjdngpninpgmaa
open Go.RowKit
set_option linter.unusedVariables false
set_option linter.unusedSimpArgs false

end Go.Proofs.Ytgjdngpninpgmaa
