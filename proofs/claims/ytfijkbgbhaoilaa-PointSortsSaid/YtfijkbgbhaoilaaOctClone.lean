/-
  slices.Clone of octets.
-/
import Derived.Test.YtfijkbgbhaoilaaOctAppend
import Derived.Test.YtfijkbgbhaoilaaAidMore
import Derived.WalkKit
namespace Go.Proofs.Ytfijkbgbhaoilaa
open Go.RowKit
set_option linter.unusedVariables false
set_option linter.unusedSimpArgs false

end Go.Proofs.Ytfijkbgbhaoilaa
