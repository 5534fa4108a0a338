/-
  Package little: what nobody made.
-/
import Derived.Test.YtghboanmiggcnaaProg
import Derived.Test.YtghboanmiggcnaaAid
import Derived.Test.YtghboanmiggcnaaAidMore
namespace Go.Proofs.Ytghboanmiggcnaa
open Go.RowKit
set_option linter.unusedVariables false
set_option linter.unusedSimpArgs false

/-- An Out, and an In, that nobody made. -/
abbrev out0 (e : Int) : Array Value := #[.bool false, .int .i64 0, .slice none 0 0, .int .i64 e]
abbrev in0 (e : Int) : Array Value := #[.bool false, .slice none 0 0, .int .i64 e]
abbrev at' (p : Nat) : Value := .pointer (some ⟨p, 0, none⟩)

end Go.Proofs.Ytghboanmiggcnaa
