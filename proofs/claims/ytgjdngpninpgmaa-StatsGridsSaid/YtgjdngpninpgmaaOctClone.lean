/-
  slices.Clone of octets.
-/
import Derived.Test.YtgjdngpninpgmaaOctAppend
import Derived.Test.YtgjdngpninpgmaaAidMore
import Derived.WalkKit
namespace Go.Proofs.Ytgjdngpninpgmaa
open Go.RowKit
set_option linter.unusedVariables false
set_option linter.unusedSimpArgs false

end Go.Proofs.Ytgjdngpninpgmaa
