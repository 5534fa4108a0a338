/-
  Layer 5: a cell's places are side by side in the row. The walk of ZorderRows.
-/
import Derived.Test.YtohdhbamdeenlaaZorderFns
import Derived.Test.YtohdhbamdeenlaaCellQ
import Derived.Test.YtohdhbamdeenlaaRegionAlloc
namespace Go.Proofs.Ytohdhbamdeenlaa
open Go.RowKit
set_option linter.unusedVariables false
set_option linter.unusedSimpArgs false

theorem mul_add_bit {q k i : Nat} (hi : i < k) : (q * 2 ^ k + (2 ^ k - 1)).testBit i = true := by
  have h0 := Nat.two_pow_pos k
  rw [Nat.mul_comm, Nat.testBit_two_pow_mul_add q (by omega), if_pos hi, Nat.testBit_two_pow_sub_one]
  simp [hi]

/-- Low bits all one: the last of the row. -/
theorem join_ones {X Y k : Nat} (hx : X < 2 ^ 32) (hy : Y < 2 ^ 32) (h1 : ∀ i, i < k → X.testBit i = true) (h2 : ∀ i, i < k → Y.testBit i = true) : joinN X Y % 2 ^ (2 * k) = 2 ^ (2 * k) - 1 := by
  apply Nat.eq_of_testBit_eq
  intro p
  rw [Nat.testBit_mod_two_pow, Nat.testBit_two_pow_sub_one]
  by_cases hp : p < 2 * k
  · by_cases h : p % 2 = 0
    · obtain ⟨i, rfl⟩ : ∃ i, p = 2 * i := ⟨p / 2, by omega⟩
      rw [join_even hx hy, h1 i (by omega)]; simp
    · obtain ⟨i, rfl⟩ : ∃ i, p = 2 * i + 1 := ⟨p / 2, by omega⟩
      rw [join_odd hx hy, h2 i (by omega)]; simp
  · simp [hp]
theorem join_zeros {X Y k : Nat} (hx : X < 2 ^ 32) (hy : Y < 2 ^ 32) (h1 : ∀ i, i < k → X.testBit i = false) (h2 : ∀ i, i < k → Y.testBit i = false) : joinN X Y % 2 ^ (2 * k) = 0 := by
  apply Nat.eq_of_testBit_eq
  intro p
  rw [Nat.testBit_mod_two_pow, Nat.zero_testBit]
  by_cases hp : p < 2 * k
  · by_cases h : p % 2 = 0
    · obtain ⟨i, rfl⟩ : ∃ i, p = 2 * i := ⟨p / 2, by omega⟩
      rw [join_even hx hy, h1 i (by omega)]; simp
    · obtain ⟨i, rfl⟩ : ∃ i, p = 2 * i + 1 := ⟨p / 2, by omega⟩
      rw [join_odd hx hy, h2 i (by omega)]; simp
  · simp [hp]

/-- The row of a cell: q, r its first bits, k how many are free. -/
theorem row_of {q r k u v : Nat} (hX : q * 2 ^ k + (2 ^ k - 1) < 2 ^ 32) (hY : r * 2 ^ k + (2 ^ k - 1) < 2 ^ 32) (hu : u < 2 ^ 32) (hv : v < 2 ^ 32) :
    (u / 2 ^ k = q ∧ v / 2 ^ k = r) ↔ (joinN (q * 2 ^ k) (r * 2 ^ k) ≤ joinN u v ∧ joinN u v ≤ joinN (q * 2 ^ k + (2 ^ k - 1)) (r * 2 ^ k + (2 ^ k - 1))) := by
  have h0 := Nat.two_pow_pos k
  have h2 := Nat.two_pow_pos (2 * k)
  have hx0 : q * 2 ^ k < 2 ^ 32 := by omega
  have hy0 : r * 2 ^ k < 2 ^ 32 := by omega
  have a1 := join_div hx0 hy0 k
  have a2 := join_div hX hY k
  have a3 := join_div hu hv k
  have m1 : joinN (q * 2 ^ k) (r * 2 ^ k) % 2 ^ (2 * k) = 0 := join_zeros hx0 hy0 (fun i hi => by rw [Nat.mul_comm, Nat.testBit_two_pow_mul]; simp; omega) (fun i hi => by rw [Nat.mul_comm, Nat.testBit_two_pow_mul]; simp; omega)
  have m2 := join_ones hX hY (fun i hi => mul_add_bit (q := q) hi) (fun i hi => mul_add_bit (q := r) hi)
  have e1 : q * 2 ^ k / 2 ^ k = q := Nat.mul_div_cancel _ h0
  have e2 : r * 2 ^ k / 2 ^ k = r := Nat.mul_div_cancel _ h0
  have e3 : ∀ q, (q * 2 ^ k + (2 ^ k - 1)) / 2 ^ k = q := fun q => by rw [Nat.mul_comm, Nat.mul_add_div h0, Nat.div_eq_of_lt (by omega)]; omega
  rw [e1, e2] at a1
  rw [e3, e3] at a2
  have hq : q < 2 ^ 32 := Nat.lt_of_le_of_lt (Nat.le_mul_of_pos_right q h0) hx0
  have hr : r < 2 ^ 32 := Nat.lt_of_le_of_lt (Nat.le_mul_of_pos_right r h0) hy0
  have inj := join_inj (pow_div hu k) (pow_div hv k) hq hr
  rw [← inj, ← a3, ← a1]
  rw [← a1] at a2
  generalize joinN (q * 2 ^ k) (r * 2 ^ k) = A at *
  generalize joinN (q * 2 ^ k + (2 ^ k - 1)) (r * 2 ^ k + (2 ^ k - 1)) = B at *
  generalize joinN u v = Z at *
  generalize 2 ^ (2 * k) = P at *
  have dA := Nat.div_add_mod A P
  have dB := Nat.div_add_mod B P
  have dZ := Nat.div_add_mod Z P
  have lZ := Nat.mod_lt Z h2
  rw [m1] at dA
  rw [m2, a2] at dB
  constructor
  · intro h
    rw [h] at dZ
    omega
  · rintro ⟨g1, g2⟩
    have c1 : A / P ≤ Z / P := Nat.div_le_div_right g1
    have c2 : Z / P ≤ B / P := Nat.div_le_div_right g2
    omega
end Go.Proofs.Ytohdhbamdeenlaa
