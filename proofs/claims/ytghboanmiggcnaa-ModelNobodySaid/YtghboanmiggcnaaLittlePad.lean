/-
  Package little: Pad, of an Out that was made.
-/
import Derived.Test.YtghboanmiggcnaaLittleLend0
namespace Go.Proofs.Ytghboanmiggcnaa
open Go.RowKit
set_option linter.unusedVariables false
set_option linter.unusedSimpArgs false

end Go.Proofs.Ytghboanmiggcnaa
