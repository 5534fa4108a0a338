/-
  Of two numbers: less, alike, greater: -1, 0, 1.
-/
import Derived.Test.YtdepmoocjnmbeaaProg
namespace Go.Proofs.Ytdepmoocjnmbeaa
def cmpI (a b : Int) : Int := if a < b then -1 else if b < a then 1 else 0
end Go.Proofs.Ytdepmoocjnmbeaa
