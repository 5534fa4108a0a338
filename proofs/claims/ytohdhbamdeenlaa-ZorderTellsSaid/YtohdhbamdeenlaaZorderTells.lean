/-
  Layer 5: both are joined bit by bit, and split again; of two places the least cell with both is told. The walk of ZorderTells.
-/
import Derived.Test.YtohdhbamdeenlaaZorderRows
import Derived.Lib.ItoaNum
namespace Go.Proofs.Ytohdhbamdeenlaa
open Go.RowKit
set_option linter.unusedVariables false
set_option linter.unusedSimpArgs false

theorem join_mod4 {x y : Nat} (hx : x < 2 ^ 32) (hy : y < 2 ^ 32) : joinN x y = 4 * joinN (x / 2) (y / 2) + x % 2 + 2 * (y % 2) := by
  have d := join_div hx hy 1
  rw [show 2 ^ (2 * 1) = 4 from rfl, show 2 ^ 1 = 2 from rfl] at d
  have b0 := join_even hx hy 0
  have b1 := join_odd hx hy 0
  simp only [Nat.mul_zero, Nat.zero_add] at b0 b1
  rw [Nat.testBit_zero, Nat.testBit_zero] at b0
  rw [Nat.testBit_zero, Nat.testBit_succ, Nat.testBit_zero] at b1
  have c0 := decide_eq_decide.1 b0
  have c1 := decide_eq_decide.1 b1
  omega

theorem row_step {X Y m : Nat} (hX : X < 2 ^ 32) (hY : Y < 2 ^ 32) (hm : 1 ≤ m) :
    IntKind.u64.wrap (IntKind.u64.wrap (IntKind.u64.wrap ((joinN (X / 2 ^ m) (Y / 2 ^ m) : Int) * 4) + IntKind.u64.wrap (((X : Int) / 2 ^ (m - 1)).tmod 2)) + IntKind.u64.wrap (2 * IntKind.u64.wrap (((Y : Int) / 2 ^ (m - 1)).tmod 2))) = ((joinN (X / 2 ^ (m - 1)) (Y / 2 ^ (m - 1)) : Nat) : Int) := by
  have hx := pow_div hX (m - 1)
  have hy := pow_div hY (m - 1)
  have e := join_mod4 hx hy
  rw [Nat.div_div_eq_div_mul, Nat.div_div_eq_div_mul, ← Nat.pow_succ, show (m - 1).succ = m from by omega] at e
  have lt := join_lt (x := X / 2 ^ (m - 1)) (y := Y / 2 ^ (m - 1))
  have ex : ((X : Int) / 2 ^ (m - 1)) = ((X / 2 ^ (m - 1) : Nat) : Int) := by rw [Int.natCast_ediv, Int.natCast_pow]; rfl
  have ey : ((Y : Int) / 2 ^ (m - 1)) = ((Y / 2 ^ (m - 1) : Nat) : Int) := by rw [Int.natCast_ediv, Int.natCast_pow]; rfl
  rw [ex, ey]
  generalize X / 2 ^ (m - 1) = x at *
  generalize Y / 2 ^ (m - 1) = y at *
  generalize joinN (X / 2 ^ m) (Y / 2 ^ m) = J at *
  generalize joinN x y = K at *
  rw [Int.tmod_eq_emod_of_nonneg (by omega), Int.tmod_eq_emod_of_nonneg (by omega)]
  have u1 : IntKind.u64.wrap ((x : Int) % 2) = (x : Int) % 2 := IntWalk.u64_in _ (by omega)
  have u2 : IntKind.u64.wrap ((y : Int) % 2) = (y : Int) % 2 := IntWalk.u64_in _ (by omega)
  have u3 : IntKind.u64.wrap (2 * ((y : Int) % 2)) = 2 * ((y : Int) % 2) := IntWalk.u64_in _ (by omega)
  have u4 : IntKind.u64.wrap ((J : Int) * 4) = (J : Int) * 4 := IntWalk.u64_in _ (by omega)
  have u5 : IntKind.u64.wrap ((J : Int) * 4 + (x : Int) % 2) = (J : Int) * 4 + (x : Int) % 2 := IntWalk.u64_in _ (by omega)
  rw [u1, u2, u3, u4, u5, IntWalk.u64_in _ (by omega)]
  omega

/-- The first m bits of both are one. -/
theorem level_of {Z A n : Nat} (hZ : Z < 2 ^ 64) (hA : A < 2 ^ 64) (hn : n ≤ 32) (h1 : Z / 2 ^ (2 * (32 - n)) = A / 2 ^ (2 * (32 - n))) (h2 : n < 32 → Z / 2 ^ (2 * (31 - n)) ≠ A / 2 ^ (2 * (31 - n))) : levelN Z A = n := by
  have key : ∀ s, Z / 2 ^ s = A / 2 ^ s ↔ (Z ^^^ A) < 2 ^ s := by
    intro s
    have e : (Z ^^^ A) / 2 ^ s = Z / 2 ^ s ^^^ A / 2 ^ s := by
      apply Nat.eq_of_testBit_eq
      intro i
      rw [← Nat.shiftRight_eq_div_pow, ← Nat.shiftRight_eq_div_pow, ← Nat.shiftRight_eq_div_pow, Nat.testBit_shiftRight, Nat.testBit_xor, Nat.testBit_xor, Nat.testBit_shiftRight, Nat.testBit_shiftRight]
    have p := Nat.two_pow_pos s
    constructor
    · intro h
      rw [h, Nat.xor_self] at e
      exact (Nat.div_eq_zero_iff_lt p).1 e
    · intro h
      rw [Nat.div_eq_of_lt h] at e
      have : Z / 2 ^ s ^^^ A / 2 ^ s ^^^ (A / 2 ^ s) = A / 2 ^ s := by rw [← e, Nat.zero_xor]
      rwa [Nat.xor_assoc, Nat.xor_self, Nat.xor_zero] at this
  have hc : Z ^^^ A < 2 ^ 64 := Nat.xor_lt_two_pow hZ hA
  rw [key] at h1
  have h2' : n < 32 → 2 ^ (2 * (31 - n)) ≤ Z ^^^ A := fun h => by have := h2 h; rw [Ne, key] at this; omega
  clear h2 key
  unfold levelN
  generalize Z ^^^ A = c at *
  have up := Lib.bitLen_le c (2 * (32 - n)) (by omega) h1
  by_cases h : n < 32
  · have lo := h2' h
    have p := Nat.two_pow_pos (2 * (31 - n))
    have b := (Lib.bitLenAux_bounds 64 c hc (by omega)).2.2
    have lt : 2 * (31 - n) < Lib.bitLen c := by
      rcases Nat.lt_or_ge (2 * (31 - n)) (Lib.bitLen c) with g | g
      · exact g
      · exfalso
        have := Nat.pow_le_pow_right (show 0 < 2 by decide) g
        unfold Lib.bitLen at this
        omega
    omega
  · have : n = 32 := by omega
    subst this
    omega
end Go.Proofs.Ytohdhbamdeenlaa
