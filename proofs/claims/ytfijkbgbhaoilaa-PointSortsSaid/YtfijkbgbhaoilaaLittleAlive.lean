/-
  Layer 1: the page's example: 258 in three octets.
-/
import Derived.Test.YtfijkbgbhaoilaaLittleNobody
import Derived.OwnWalk
import Derived.Lib.BufferMore
import Derived.Test.YtfijkbgbhaoilaaBig
import Derived.Lib.SlBytesRow
namespace Go.Proofs.Ytfijkbgbhaoilaa
open Go.RowKit
set_option linter.unusedVariables false
set_option linter.unusedSimpArgs false

end Go.Proofs.Ytfijkbgbhaoilaa
