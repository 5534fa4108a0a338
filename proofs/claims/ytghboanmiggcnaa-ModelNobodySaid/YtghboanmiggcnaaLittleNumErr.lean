/-
  Package little: Num of an Out, where it writes nothing.
-/
import Derived.Test.YtghboanmiggcnaaLittleNum
namespace Go.Proofs.Ytghboanmiggcnaa
open Go.RowKit
set_option linter.unusedVariables false
set_option linter.unusedSimpArgs false

theorem shr_some (n : Int) (s : Nat) (h0 : 0 ≤ n) (h : (256 : Int) ^ s ≤ n) : (n / 2 ^ (8 * s) != 0) = true := by
  have e : (2 : Int) ^ (8 * s) = 256 ^ s := by rw [Int.pow_mul]; rfl
  rw [e]
  have hp : (0 : Int) < 256 ^ s := Int.pow_pos (by omega)
  have : 1 ≤ n / 256 ^ s := by
    apply Int.le_ediv_of_mul_le hp
    omega
  simp
  omega
end Go.Proofs.Ytghboanmiggcnaa
