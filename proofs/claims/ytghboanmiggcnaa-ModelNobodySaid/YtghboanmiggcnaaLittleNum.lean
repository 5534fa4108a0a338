/-
  Package little: Num of an Out.
-/
import Derived.Test.YtghboanmiggcnaaLittlePut
namespace Go.Proofs.Ytghboanmiggcnaa
open Go.RowKit
set_option linter.unusedVariables false
set_option linter.unusedSimpArgs false

/-- What the walk asks of a number that fits in s octets. -/
theorem shr_zero (n s : Nat) (h : n < 256 ^ s) : ((n : Int) / 2 ^ (8 * s) != 0) = false := by
  have : (n : Int) / 2 ^ (8 * s) = ((n / 2 ^ (8 * s) : Nat) : Int) := by simp
  rw [this, show 2 ^ (8 * s) = (2 ^ 8) ^ s from Nat.pow_mul 2 8 s, Nat.div_eq_of_lt h]
  rfl
theorem shr_octet (n k : Nat) : ((UInt8.ofNat (n / 256 ^ k)).toNat : Int) = (n : Int) / 2 ^ (8 * k) % 256 := by
  have : (n : Int) / 2 ^ (8 * k) = ((n / 2 ^ (8 * k) : Nat) : Int) := by simp
  rw [this, byte_ofNat, show 2 ^ (8 * k) = (2 ^ 8) ^ k from Nat.pow_mul 2 8 k]
/-- The row, k octets in. -/
def numRow (l : List UInt8) (n s k : Nat) : List Value := Lib.byteCells (l ++ leB n k) ++ List.replicate (s - k) (.int .u8 0)
theorem numRow_zero (l : List UInt8) (n s : Nat) : numRow l n s 0 = Lib.byteCells l ++ List.replicate s (.int .u8 0) := by simp [numRow, leB]
theorem numRow_all (l : List UInt8) (n s : Nat) : numRow l n s s = Lib.byteCells (l ++ leB n s) := by simp [numRow]
theorem numRow_get (l : List UInt8) (n s k : Nat) (h : k < s) : (numRow l n s k)[l.length + k]? = some (.int .u8 0) := by
  have e : (Lib.byteCells (l ++ leB n k)).length = l.length + k := by rw [Lib.byteCells_length, List.length_append, leB_length]
  unfold numRow
  rw [List.getElem?_append_right (by rw [e]; exact Nat.le_refl _), e, Nat.sub_self, List.getElem?_replicate, if_pos (by omega)]
theorem numRow_set (l : List UInt8) (n s k : Nat) (h : k < s) : (numRow l n s k).set (l.length + k) (.int .u8 ((n : Int) / 2 ^ (8 * k) % 256)) = numRow l n s (k + 1) := by
  have e : (Lib.byteCells (l ++ leB n k)).length = l.length + k := by rw [Lib.byteCells_length, List.length_append, leB_length]
  unfold numRow
  rw [List.set_append_right _ _ (by rw [e]; exact Nat.le_refl _), e, Nat.sub_self, show s - k = (s - (k + 1)) + 1 by omega, List.replicate_succ, List.set_cons_zero, leB_snoc, ← List.append_assoc, Lib.byteCells_append _ [_], ← shr_octet]
  simp [Lib.byteCells]

end Go.Proofs.Ytghboanmiggcnaa
