/-
  Package little: lend of nothing.
-/
import Derived.Test.YtghboanmiggcnaaLittleLend
namespace Go.Proofs.Ytghboanmiggcnaa
open Go.RowKit
set_option linter.unusedVariables false
set_option linter.unusedSimpArgs false

end Go.Proofs.Ytghboanmiggcnaa
