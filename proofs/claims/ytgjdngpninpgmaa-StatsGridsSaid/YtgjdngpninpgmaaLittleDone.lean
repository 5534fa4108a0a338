/-
  Package little: Done of an Out.
-/
import Derived.Test.YtgjdngpninpgmaaLittleNumErr
import Derived.Test.YtgjdngpninpgmaaOctClone
namespace Go.Proofs.Ytgjdngpninpgmaa
open Go.RowKit
set_option linter.unusedVariables false
set_option linter.unusedSimpArgs false

end Go.Proofs.Ytgjdngpninpgmaa
