/-
  The document's own numbers as octets, and back.
-/
import Derived.Test.YtghboanmiggcnaaOctClone
import Derived.Test.YtghboanmiggcnaaLittleNum
namespace Go.Proofs.Ytghboanmiggcnaa
open Go.RowKit
set_option linter.unusedVariables false
set_option linter.unusedSimpArgs false

theorem neg_tdiv (q : Int) (h1 : -9223372036854775808 ≤ q) (h2 : q ≤ 0) : -9223372036854775808 ≤ q.tdiv 256 ∧ q.tdiv 256 ≤ 0 := by
  have e : q.tdiv 256 = -((-q) / 256) := by
    have := Int.neg_tdiv (-q) 256
    rw [Int.neg_neg] at this
    rw [this, Int.tdiv_eq_ediv_of_nonneg (by omega)]
  omega
theorem neg_octet (m : Int) : ((UInt8.ofNat (m % 256).toNat).toNat : Int) = m % 256 := by
  rw [byte_ofNat]; omega
theorem numOf_drop (l : List UInt8) (j : Nat) (h : j < l.length) : numOf (l.drop j) = numOf (l.drop (j + 1)) * 256 + l[j].toNat := by
  rw [List.drop_eq_getElem_cons h]
  simp only [numOf]
  omega
end Go.Proofs.Ytghboanmiggcnaa
