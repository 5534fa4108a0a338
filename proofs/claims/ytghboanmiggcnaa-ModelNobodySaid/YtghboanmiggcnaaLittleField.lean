/-
  Layer 1's fields: as they come in; of which kind one is.
-/
import Derived.Test.YtghboanmiggcnaaLittleInNum
import Derived.Test.YtghboanmiggcnaaLittlePads
import Derived.Test.YtghboanmiggcnaaRefNum
import Derived.Test.YtghboanmiggcnaaSlices
namespace Go.Proofs.Ytghboanmiggcnaa
open Go.ChangeShapes Go.WideShapes Go.ChangeAt Go.RowKit Go.Joins Go.Deep
set_option linter.unusedVariables false
set_option linter.unusedSimpArgs false

structure Fd where
  k : Int
  n : Int
  z : Int
  s : ByteArray
def Fd.ok (p : Fd) : Prop := -9223372036854775808 ≤ p.k ∧ p.k ≤ 9223372036854775807 ∧ -9223372036854775808 ≤ p.n ∧ p.n ≤ 9223372036854775807 ∧ -9223372036854775808 ≤ p.z ∧ p.z ≤ 9223372036854775807 ∧ p.s.size ≤ maxLen
def fcells (p : Fd) : List Value := [.int .i64 p.k, .int .i64 p.n, .int .i64 p.z, .string p.s]

/-- Of which kind. -/
def kindI (k : Int) : Int := (k.tmod 3 + 3) % 3
theorem kind_bd (k : Int) : 0 ≤ kindI k ∧ kindI k ≤ 2 := by unfold kindI; omega
/-- What is read: of what is left, or of nothing. -/
def RS (w : World) (p : Nat) (l : List UInt8) (bad : Bool) : Prop := InS w p l (if bad then 16 else 0) ∧ (bad = true → l = [])
theorem RS.more {w w' : World} {p : Nat} {l : List UInt8} {bad : Bool} (h : RS w p l bad) (hb : Below w.heap.size w w') : RS w' p l bad := ⟨h.1.more hb, h.2⟩
end Go.Proofs.Ytghboanmiggcnaa
