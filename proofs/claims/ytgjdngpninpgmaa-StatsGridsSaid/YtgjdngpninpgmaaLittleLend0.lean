/-
  Package little: lend of nothing.
-/
import Derived.Test.YtgjdngpninpgmaaLittleLend
namespace Go.Proofs.Ytgjdngpninpgmaa
open Go.RowKit
set_option linter.unusedVariables false
set_option linter.unusedSimpArgs false

end Go.Proofs.Ytgjdngpninpgmaa
