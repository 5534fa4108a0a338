/-
  Package little: Done of an Out.
-/
import Derived.Test.YtghcfidmhabfhaaLittleNumErr
import Derived.Test.YtghcfidmhabfhaaOctClone
namespace Go.Proofs.Ytghcfidmhabfhaa
open Go.RowKit
set_option linter.unusedVariables false
set_option linter.unusedSimpArgs false

end Go.Proofs.Ytghcfidmhabfhaa
