/-
  The octet at a place of a row.
-/
import Derived.Test.YtcklmemnjchdcaaOct
namespace Go.Proofs.Ytcklmemnjchdcaa
open Go.RowKit
set_option linter.unusedVariables false
set_option linter.unusedSimpArgs false

def byteAt (l : List UInt8) (i : Nat) : Nat := (l.getD i 0).toNat
theorem byteAt_lt (l : List UInt8) (i : Nat) : byteAt l i < 256 := (l.getD i 0).toNat_lt
theorem byteAt_get (l : List UInt8) (i : Nat) (h : i < l.length) : byteAt l i = l[i].toNat := by simp [byteAt, h]
theorem byteAt_app (l m : List UInt8) (i : Nat) : byteAt (l ++ m) i = if i < l.length then byteAt l i else byteAt m (i - l.length) := by
  unfold byteAt
  by_cases h : i < l.length
  · rw [if_pos h]; simp [List.getElem?_append_left h]
  · rw [if_neg h]; simp [List.getElem?_append_right (by omega : l.length ≤ i)]
end Go.Proofs.Ytcklmemnjchdcaa
