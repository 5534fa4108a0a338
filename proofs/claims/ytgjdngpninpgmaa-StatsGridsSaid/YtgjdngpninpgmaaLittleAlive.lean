/-
  Layer 1: the page's example: 258 in three octets.
-/
import Derived.Test.YtgjdngpninpgmaaLittleNobody
import Derived.OwnWalk
import Derived.Lib.BufferMore
import Derived.Test.YtgjdngpninpgmaaBig
import Derived.Lib.SlBytesRow
namespace Go.Proofs.Ytgjdngpninpgmaa
open Go.RowKit
set_option linter.unusedVariables false
set_option linter.unusedSimpArgs false

end Go.Proofs.Ytgjdngpninpgmaa
