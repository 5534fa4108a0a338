/-
  LittleNobody: the walk, and the page's example.
-/
import Derived.Test.YtohdhbamdeenlaaLittleNone
import Derived.Test.YtohdhbamdeenlaaLittleAlive
namespace Go.Proofs.Ytohdhbamdeenlaa
open Go.RowKit
theorem littleNobody (n : Int) (h1 : -9223372036854775808 ≤ n) (h2 : n ≤ 9223372036854775807) (s : ByteArray) (w : World) :
    Calls Try.prog 5 #[.int .i64 n, .string s] w fun e w' => e = .returned (.bool true) ∧ Below w.heap.size w w' :=
  nobody_of alive01 n (IntWalk.i64_in _ (by omega)) s w
end Go.Proofs.Ytohdhbamdeenlaa
