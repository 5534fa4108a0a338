/-
  slices.Clone of octets.
-/
import Derived.Test.YtghboanmiggcnaaOctAppend
import Derived.Test.YtghboanmiggcnaaAidMore
import Derived.WalkKit
namespace Go.Proofs.Ytghboanmiggcnaa
open Go.RowKit
set_option linter.unusedVariables false
set_option linter.unusedSimpArgs false

end Go.Proofs.Ytghboanmiggcnaa
