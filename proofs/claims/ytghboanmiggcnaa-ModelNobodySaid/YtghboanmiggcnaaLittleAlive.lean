/-
  Layer 1: the page's example: 258 in three octets.
-/
import Derived.Test.YtghboanmiggcnaaLittleNobody
import Derived.OwnWalk
import Derived.Lib.BufferMore
import Derived.Test.YtghboanmiggcnaaBig
import Derived.Lib.SlBytesRow
namespace Go.Proofs.Ytghboanmiggcnaa
open Go.RowKit
set_option linter.unusedVariables false
set_option linter.unusedSimpArgs false

end Go.Proofs.Ytghboanmiggcnaa
