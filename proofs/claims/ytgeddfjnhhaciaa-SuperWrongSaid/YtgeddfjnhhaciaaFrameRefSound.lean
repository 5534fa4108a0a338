/-
  The document's own sectors: Sound, Read.
-/
import Derived.Test.YtgeddfjnhhaciaaFrameOpen
import Derived.Test.YtgeddfjnhhaciaaRegion
namespace Go.Proofs.Ytgeddfjnhhaciaa
open Go.RowKit
set_option linter.unusedVariables false
set_option linter.unusedSimpArgs false

end Go.Proofs.Ytgeddfjnhhaciaa
