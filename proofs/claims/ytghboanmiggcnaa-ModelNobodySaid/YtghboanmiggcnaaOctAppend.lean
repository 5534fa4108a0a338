/-
  append(s, t...) of octets: s a row of the call's own, t any octets; where the new row lies.
-/
import Derived.Test.YtghboanmiggcnaaOct
import Derived.Test.YtghboanmiggcnaaLittleZeros
namespace Go.Proofs.Ytghboanmiggcnaa
open Go.RowKit
set_option linter.unusedVariables false
set_option linter.unusedSimpArgs false

/-- The row is where it was, or new. -/
def Moved (w : World) (v v' : Value) : Prop := v'.ownBlock = v.ownBlock ∨ ∃ g, v'.ownBlock = some g ∧ w.heap.size ≤ g

theorem Moved.refl (w : World) (v : Value) : Moved w v v := .inl rfl
theorem Moved.trans {w w1 : World} {v v1 v2 : Value} (h : Moved w v v1) (k : Moved w1 v1 v2) (hs : w.heap.size ≤ w1.heap.size) : Moved w v v2 := by
  rcases k with k | ⟨g, k, hg⟩
  · rcases h with h | ⟨g, h, hg⟩
    · exact .inl (k.trans h)
    · exact .inr ⟨g, k.trans h, hg⟩
  · exact .inr ⟨g, k, by omega⟩

/-- The value of a slice of the call's own: these octets. -/
def Fresh (w w' : World) (v : Value) (l : List UInt8) : Prop := ∃ a cap, v = .slice a l.length cap ∧ w'.ownsRow w.heap.size 5 1 (.slice a l.length cap) l.length (Lib.byteCells l) ∧ Below w.heap.size w w'

end Go.Proofs.Ytghboanmiggcnaa
