/-
  package heap: Less.
-/
import Derived.Test.YtgjdngpninpgmaaOrThree
import Derived.Test.YtgjdngpninpgmaaRegion
namespace Go.Proofs.Ytgjdngpninpgmaa
open Go.RowKit
set_option linter.unusedVariables false
set_option linter.unusedSimpArgs false

structure It where
  h : Int
  l : Int
  o : Int
  i : Int
def icells (a : It) : List Value := [.int .u64 a.h, .int .u64 a.l, .int .i64 a.o, .int .i64 a.i]
abbrev itval (a : It) : Value := .agg #[.int .u64 a.h, .int .u64 a.l, .int .i64 a.o, .int .i64 a.i]
def lessI (a b : It) : Int := or3I (cmpD a.h a.l b.h b.l) (cmpI a.o b.o) (cmpI a.i b.i)
def lessB (a b : It) : Bool := decide (lessI a b < 0)

end Go.Proofs.Ytgjdngpninpgmaa
