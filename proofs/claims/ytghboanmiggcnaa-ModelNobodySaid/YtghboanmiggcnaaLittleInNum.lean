/-
  Package little: Num and Text of an In; Open, Left, Err.
-/
import Derived.Test.YtghboanmiggcnaaLittleIn
namespace Go.Proofs.Ytghboanmiggcnaa
open Go.RowKit
set_option linter.unusedVariables false
set_option linter.unusedSimpArgs false

theorem wrap_64 (x : Int) : wrap64 x = IntKind.i64.wrap x := by unfold wrap64; exact (IntKind.wrap_i64 x).symm
theorem i64_or_nat (a b : Nat) (ha : a < 2 ^ 63) (hb : b < 2 ^ 63) : bits .or .i64 (a : Int) (b : Int) = ((a ||| b : Nat) : Int) := by
  have hx : a ||| b < 2 ^ 63 := Nat.or_lt_two_pow ha hb
  have e : ∀ c : Nat, c < 2 ^ 63 → (BitVec.ofInt 64 (c : Int)).toNat = c := fun c hc => by
    rw [BitVec.ofInt_natCast, BitVec.toNat_ofNat]; exact Nat.mod_eq_of_lt (by omega)
  show IntKind.i64.wrap ((BitVec.ofInt 64 (a : Int) ||| BitVec.ofInt 64 (b : Int)).toNat : Int) = _
  rw [BitVec.toNat_or, e a ha, e b hb, IntKind.wrap_i64]
  omega
theorem or_octet (m c k : Nat) (hk : k < 6) (hm : m < 256 ^ k) (hc : c < 256) : bits .or .i64 (m : Int) (IntKind.i64.wrap (IntKind.i64.wrap (c : Int) * 2 ^ (8 * k))) = ((m + 256 ^ k * c : Nat) : Int) := by
  have e : (256 : Nat) ^ k = 2 ^ (8 * k) := by rw [Nat.pow_mul]
  have hp : (2 : Nat) ^ (8 * k) ≤ 2 ^ 40 := Nat.pow_le_pow_right (by omega) (by omega)
  have hc1 : c * 2 ^ (8 * k) ≤ 255 * 2 ^ 40 := Nat.mul_le_mul (by omega) hp
  have w1 : IntKind.i64.wrap (c : Int) = c := IntWalk.i64_in _ (by omega)
  have w2 : IntKind.i64.wrap ((c : Int) * 2 ^ (8 * k)) = ((c * 2 ^ (8 * k) : Nat) : Int) := by
    have : ((c : Int) * 2 ^ (8 * k)) = ((c * 2 ^ (8 * k) : Nat) : Int) := by simp
    rw [this]
    exact IntWalk.i64_in _ (by omega)
  rw [e] at hm ⊢
  rw [w1, w2, i64_or_nat _ _ (by omega) (by omega), ← Nat.shiftLeft_eq, Nat.or_comm, ← Nat.shiftLeft_add_eq_or_of_lt hm, Nat.shiftLeft_eq, Nat.mul_comm c]
  omega
theorem numOf_snoc (t : List UInt8) (k : Nat) (h : k < t.length) : numOf (t.take (k + 1)) = numOf (t.take k) + 256 ^ k * t[k].toNat := by
  rw [List.take_succ_eq_append_getElem h, numOf_append, List.length_take, Nat.min_eq_left (by omega)]
  simp [numOf]

end Go.Proofs.Ytghboanmiggcnaa
