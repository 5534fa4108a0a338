/-
  Package little: Done of an Out.
-/
import Derived.Test.YtghboanmiggcnaaLittleNumErr
import Derived.Test.YtghboanmiggcnaaOctClone
namespace Go.Proofs.Ytghboanmiggcnaa
open Go.RowKit
set_option linter.unusedVariables false
set_option linter.unusedSimpArgs false

end Go.Proofs.Ytghboanmiggcnaa
