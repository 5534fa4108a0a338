/-
  Package little: an Out that was made: fail, and lend where it lends nothing.
-/
import Derived.Test.YtghboanmiggcnaaLittleNobody
namespace Go.Proofs.Ytghboanmiggcnaa
open Go.RowKit
set_option linter.unusedVariables false
set_option linter.unusedSimpArgs false

/-- An Out's cells: its room, what was written (n octets), its error. -/
abbrev outC (room : Int) (a : Option Addr) (n cap : Nat) (e : Int) : Array Value := #[.bool true, .int .i64 room, .slice a n cap, .int .i64 e]

end Go.Proofs.Ytghboanmiggcnaa
