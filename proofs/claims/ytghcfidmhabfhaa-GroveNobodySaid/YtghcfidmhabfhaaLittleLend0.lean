/-
  Package little: lend of nothing.
-/
import Derived.Test.YtghcfidmhabfhaaLittleLend
namespace Go.Proofs.Ytghcfidmhabfhaa
open Go.RowKit
set_option linter.unusedVariables false
set_option linter.unusedSimpArgs false

end Go.Proofs.Ytghcfidmhabfhaa
