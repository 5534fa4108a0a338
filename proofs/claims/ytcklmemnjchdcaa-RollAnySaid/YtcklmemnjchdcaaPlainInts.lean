/-
  The document's own: are two lists of numbers one? Here of one and the same.
-/
import Derived.Test.YtcklmemnjchdcaaSlices
import Derived.Deep.QuietTactic
import Derived.BigQuiet
import Derived.LoopTactic
import Derived.WalkKit
namespace Go.Proofs.Ytcklmemnjchdcaa
open Go.RowKit
set_option linter.unusedVariables false
set_option linter.unusedSimpArgs false

end Go.Proofs.Ytcklmemnjchdcaa
