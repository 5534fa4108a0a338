/-
  Places in one row: what the halvings of package zorder come to, bit by bit.
-/
import Derived.Test.YtdepmoocjnmbeaaAid
import Derived.Laws.BitsAllLaws
import Derived.Laws.ShiftsVarLaws
namespace Go.Proofs.Ytdepmoocjnmbeaa
open Go.RowKit
set_option linter.unusedVariables false
set_option linter.unusedSimpArgs false

/-- One halving. -/
def stp (z h M : Nat) : Nat := (z ||| (z <<< h % 2 ^ 64)) &&& M
/-- One doubling back. -/
def bck (z h M : Nat) : Nat := (z &&& M) ||| ((z &&& M) >>> h)

theorem stp_lt {z h M : Nat} (hM : M < 2 ^ 64) : stp z h M < 2 ^ 64 := Nat.lt_of_le_of_lt Nat.and_le_right hM
theorem bck_lt {z h M : Nat} (hM : M < 2 ^ 64) : bck z h M < 2 ^ 64 := by
  unfold bck
  refine Nat.or_lt_two_pow (Nat.lt_of_le_of_lt Nat.and_le_right hM) ?_
  rw [Nat.shiftRight_eq_div_pow]
  exact Nat.lt_of_le_of_lt (Nat.div_le_self _ _) (Nat.lt_of_le_of_lt Nat.and_le_right hM)

theorem mask16 (p : Nat) : Nat.testBit 281470681808895 p = (decide (p < 64) && decide (p % 32 < 16)) := by
  by_cases hp : p < 64
  · have key : ∀ q : Fin 64, Nat.testBit 281470681808895 q.val = (decide (q.val < 64) && decide (q.val % 32 < 16)) := by decide
    exact key ⟨p, hp⟩
  · rw [Nat.testBit_lt_two_pow (Nat.lt_of_lt_of_le (show 281470681808895 < 2 ^ 64 by decide) (Nat.pow_le_pow_right (by decide) (by omega)))]
    simp [hp]
theorem mask8 (p : Nat) : Nat.testBit 71777214294589695 p = (decide (p < 64) && decide (p % 16 < 8)) := by
  by_cases hp : p < 64
  · have key : ∀ q : Fin 64, Nat.testBit 71777214294589695 q.val = (decide (q.val < 64) && decide (q.val % 16 < 8)) := by decide
    exact key ⟨p, hp⟩
  · rw [Nat.testBit_lt_two_pow (Nat.lt_of_lt_of_le (show 71777214294589695 < 2 ^ 64 by decide) (Nat.pow_le_pow_right (by decide) (by omega)))]
    simp [hp]
theorem mask4 (p : Nat) : Nat.testBit 1085102592571150095 p = (decide (p < 64) && decide (p % 8 < 4)) := by
  by_cases hp : p < 64
  · have key : ∀ q : Fin 64, Nat.testBit 1085102592571150095 q.val = (decide (q.val < 64) && decide (q.val % 8 < 4)) := by decide
    exact key ⟨p, hp⟩
  · rw [Nat.testBit_lt_two_pow (Nat.lt_of_lt_of_le (show 1085102592571150095 < 2 ^ 64 by decide) (Nat.pow_le_pow_right (by decide) (by omega)))]
    simp [hp]
theorem mask2 (p : Nat) : Nat.testBit 3689348814741910323 p = (decide (p < 64) && decide (p % 4 < 2)) := by
  by_cases hp : p < 64
  · have key : ∀ q : Fin 64, Nat.testBit 3689348814741910323 q.val = (decide (q.val < 64) && decide (q.val % 4 < 2)) := by decide
    exact key ⟨p, hp⟩
  · rw [Nat.testBit_lt_two_pow (Nat.lt_of_lt_of_le (show 3689348814741910323 < 2 ^ 64 by decide) (Nat.pow_le_pow_right (by decide) (by omega)))]
    simp [hp]
theorem mask1 (p : Nat) : Nat.testBit 6148914691236517205 p = (decide (p < 64) && decide (p % 2 < 1)) := by
  by_cases hp : p < 64
  · have key : ∀ q : Fin 64, Nat.testBit 6148914691236517205 q.val = (decide (q.val < 64) && decide (q.val % 2 < 1)) := by decide
    exact key ⟨p, hp⟩
  · rw [Nat.testBit_lt_two_pow (Nat.lt_of_lt_of_le (show 6148914691236517205 < 2 ^ 64 by decide) (Nat.pow_le_pow_right (by decide) (by omega)))]
    simp [hp]

theorem ite_bit {c d : Bool} {m n : Nat} {x : Nat} (hc : c = d) (hn : d = true → m = n) : (c && x.testBit m) = (d && x.testBit n) := by
  subst hc
  cases c
  · rfl
  · rw [hn rfl]

theorem half16 {n z : Nat} (hz : ∀ p, z.testBit p = (decide (p < 64 ∧ p % 64 < 32) && n.testBit (p / 64 * 32 + p % 32))) (p : Nat) : (stp z 16 281470681808895).testBit p = (decide (p < 64 ∧ p % 32 < 16) && n.testBit (p / 32 * 16 + p % 16)) := by
  unfold stp
  rw [Nat.testBit_and, Nat.testBit_or, Nat.testBit_mod_two_pow, Nat.testBit_shiftLeft, mask16, hz, hz]
  by_cases h1 : p < 64
  · by_cases h2 : p % 32 < 16
    · by_cases h3 : p % 64 < 32
      · have e1 : decide (p < 64 ∧ p % 64 < 32) = true := decide_eq_true ⟨h1, h3⟩
        have e2 : (decide (p ≥ 16) && (decide (p - 16 < 64 ∧ (p - 16) % 64 < 32) && n.testBit ((p - 16) / 64 * 32 + (p - 16) % 32))) = false := by
          by_cases h4 : p ≥ 16
          · have : decide (p - 16 < 64 ∧ (p - 16) % 64 < 32) = false := decide_eq_false (by omega)
            rw [this]; simp
          · simp [h4]
        rw [e1, e2, show p / 64 * 32 + p % 32 = p / 32 * 16 + p % 16 by omega]
        simp [h1, h2]
      · have e1 : decide (p < 64 ∧ p % 64 < 32) = false := decide_eq_false (by omega)
        have e2 : decide (p - 16 < 64 ∧ (p - 16) % 64 < 32) = true := decide_eq_true (by omega)
        have e3 : decide (p ≥ 16) = true := decide_eq_true (by omega)
        rw [e1, e2, e3, show (p - 16) / 64 * 32 + (p - 16) % 32 = p / 32 * 16 + p % 16 by omega]
        simp [h1, h2]
    · simp [h2]
  · simp [h1]
theorem half8 {n z : Nat} (hz : ∀ p, z.testBit p = (decide (p < 64 ∧ p % 32 < 16) && n.testBit (p / 32 * 16 + p % 16))) (p : Nat) : (stp z 8 71777214294589695).testBit p = (decide (p < 64 ∧ p % 16 < 8) && n.testBit (p / 16 * 8 + p % 8)) := by
  unfold stp
  rw [Nat.testBit_and, Nat.testBit_or, Nat.testBit_mod_two_pow, Nat.testBit_shiftLeft, mask8, hz, hz]
  by_cases h1 : p < 64
  · by_cases h2 : p % 16 < 8
    · by_cases h3 : p % 32 < 16
      · have e1 : decide (p < 64 ∧ p % 32 < 16) = true := decide_eq_true ⟨h1, h3⟩
        have e2 : (decide (p ≥ 8) && (decide (p - 8 < 64 ∧ (p - 8) % 32 < 16) && n.testBit ((p - 8) / 32 * 16 + (p - 8) % 16))) = false := by
          by_cases h4 : p ≥ 8
          · have : decide (p - 8 < 64 ∧ (p - 8) % 32 < 16) = false := decide_eq_false (by omega)
            rw [this]; simp
          · simp [h4]
        rw [e1, e2, show p / 32 * 16 + p % 16 = p / 16 * 8 + p % 8 by omega]
        simp [h1, h2]
      · have e1 : decide (p < 64 ∧ p % 32 < 16) = false := decide_eq_false (by omega)
        have e2 : decide (p - 8 < 64 ∧ (p - 8) % 32 < 16) = true := decide_eq_true (by omega)
        have e3 : decide (p ≥ 8) = true := decide_eq_true (by omega)
        rw [e1, e2, e3, show (p - 8) / 32 * 16 + (p - 8) % 16 = p / 16 * 8 + p % 8 by omega]
        simp [h1, h2]
    · simp [h2]
  · simp [h1]
theorem half4 {n z : Nat} (hz : ∀ p, z.testBit p = (decide (p < 64 ∧ p % 16 < 8) && n.testBit (p / 16 * 8 + p % 8))) (p : Nat) : (stp z 4 1085102592571150095).testBit p = (decide (p < 64 ∧ p % 8 < 4) && n.testBit (p / 8 * 4 + p % 4)) := by
  unfold stp
  rw [Nat.testBit_and, Nat.testBit_or, Nat.testBit_mod_two_pow, Nat.testBit_shiftLeft, mask4, hz, hz]
  by_cases h1 : p < 64
  · by_cases h2 : p % 8 < 4
    · by_cases h3 : p % 16 < 8
      · have e1 : decide (p < 64 ∧ p % 16 < 8) = true := decide_eq_true ⟨h1, h3⟩
        have e2 : (decide (p ≥ 4) && (decide (p - 4 < 64 ∧ (p - 4) % 16 < 8) && n.testBit ((p - 4) / 16 * 8 + (p - 4) % 8))) = false := by
          by_cases h4 : p ≥ 4
          · have : decide (p - 4 < 64 ∧ (p - 4) % 16 < 8) = false := decide_eq_false (by omega)
            rw [this]; simp
          · simp [h4]
        rw [e1, e2, show p / 16 * 8 + p % 8 = p / 8 * 4 + p % 4 by omega]
        simp [h1, h2]
      · have e1 : decide (p < 64 ∧ p % 16 < 8) = false := decide_eq_false (by omega)
        have e2 : decide (p - 4 < 64 ∧ (p - 4) % 16 < 8) = true := decide_eq_true (by omega)
        have e3 : decide (p ≥ 4) = true := decide_eq_true (by omega)
        rw [e1, e2, e3, show (p - 4) / 16 * 8 + (p - 4) % 8 = p / 8 * 4 + p % 4 by omega]
        simp [h1, h2]
    · simp [h2]
  · simp [h1]
theorem half2 {n z : Nat} (hz : ∀ p, z.testBit p = (decide (p < 64 ∧ p % 8 < 4) && n.testBit (p / 8 * 4 + p % 4))) (p : Nat) : (stp z 2 3689348814741910323).testBit p = (decide (p < 64 ∧ p % 4 < 2) && n.testBit (p / 4 * 2 + p % 2)) := by
  unfold stp
  rw [Nat.testBit_and, Nat.testBit_or, Nat.testBit_mod_two_pow, Nat.testBit_shiftLeft, mask2, hz, hz]
  by_cases h1 : p < 64
  · by_cases h2 : p % 4 < 2
    · by_cases h3 : p % 8 < 4
      · have e1 : decide (p < 64 ∧ p % 8 < 4) = true := decide_eq_true ⟨h1, h3⟩
        have e2 : (decide (p ≥ 2) && (decide (p - 2 < 64 ∧ (p - 2) % 8 < 4) && n.testBit ((p - 2) / 8 * 4 + (p - 2) % 4))) = false := by
          by_cases h4 : p ≥ 2
          · have : decide (p - 2 < 64 ∧ (p - 2) % 8 < 4) = false := decide_eq_false (by omega)
            rw [this]; simp
          · simp [h4]
        rw [e1, e2, show p / 8 * 4 + p % 4 = p / 4 * 2 + p % 2 by omega]
        simp [h1, h2]
      · have e1 : decide (p < 64 ∧ p % 8 < 4) = false := decide_eq_false (by omega)
        have e2 : decide (p - 2 < 64 ∧ (p - 2) % 8 < 4) = true := decide_eq_true (by omega)
        have e3 : decide (p ≥ 2) = true := decide_eq_true (by omega)
        rw [e1, e2, e3, show (p - 2) / 8 * 4 + (p - 2) % 4 = p / 4 * 2 + p % 2 by omega]
        simp [h1, h2]
    · simp [h2]
  · simp [h1]
theorem half1 {n z : Nat} (hz : ∀ p, z.testBit p = (decide (p < 64 ∧ p % 4 < 2) && n.testBit (p / 4 * 2 + p % 2))) (p : Nat) : (stp z 1 6148914691236517205).testBit p = (decide (p < 64 ∧ p % 2 < 1) && n.testBit (p / 2 * 1 + p % 1)) := by
  unfold stp
  rw [Nat.testBit_and, Nat.testBit_or, Nat.testBit_mod_two_pow, Nat.testBit_shiftLeft, mask1, hz, hz]
  by_cases h1 : p < 64
  · by_cases h2 : p % 2 < 1
    · by_cases h3 : p % 4 < 2
      · have e1 : decide (p < 64 ∧ p % 4 < 2) = true := decide_eq_true ⟨h1, h3⟩
        have e2 : (decide (p ≥ 1) && (decide (p - 1 < 64 ∧ (p - 1) % 4 < 2) && n.testBit ((p - 1) / 4 * 2 + (p - 1) % 2))) = false := by
          by_cases h4 : p ≥ 1
          · have : decide (p - 1 < 64 ∧ (p - 1) % 4 < 2) = false := decide_eq_false (by omega)
            rw [this]; simp
          · simp [h4]
        rw [e1, e2, show p / 4 * 2 + p % 2 = p / 2 * 1 + p % 1 by omega]
        simp [h1, h2]
      · have e1 : decide (p < 64 ∧ p % 4 < 2) = false := decide_eq_false (by omega)
        have e2 : decide (p - 1 < 64 ∧ (p - 1) % 4 < 2) = true := decide_eq_true (by omega)
        have e3 : decide (p ≥ 1) = true := decide_eq_true (by omega)
        rw [e1, e2, e3, show (p - 1) / 4 * 2 + (p - 1) % 2 = p / 2 * 1 + p % 1 by omega]
        simp [h1, h2]
    · simp [h2]
  · simp [h1]
theorem join1 {F : Nat → Bool} {z : Nat} (hz : ∀ p, p < 64 → p % 2 < 1 → z.testBit p = F (p / 2 * 1 + p % 1)) (p : Nat) (hp : p < 64) (hq : p % 4 < 2) : (bck z 1 6148914691236517205).testBit p = F (p / 4 * 2 + p % 2) := by
  unfold bck
  rw [Nat.testBit_or, Nat.testBit_shiftRight, Nat.testBit_and, Nat.testBit_and, mask1, mask1]
  by_cases h2 : p % 2 < 1
  · have e1 : decide ((1 + p) % 2 < 1) = false := decide_eq_false (by omega)
    rw [e1, hz p hp h2, show p / 4 * 2 + p % 2 = p / 2 * 1 + p % 1 by omega]
    simp [hp, h2]
  · have e1 : decide ((1 + p) % 2 < 1) = true := decide_eq_true (by omega)
    have e2 : decide (1 + p < 64) = true := decide_eq_true (by omega)
    have e3 : decide (p % 2 < 1) = false := decide_eq_false h2
    rw [e1, e2, e3, hz (1 + p) (by omega) (by omega), show (1 + p) / 2 * 1 + (1 + p) % 1 = p / 4 * 2 + p % 2 by omega]
    simp
theorem join2 {F : Nat → Bool} {z : Nat} (hz : ∀ p, p < 64 → p % 4 < 2 → z.testBit p = F (p / 4 * 2 + p % 2)) (p : Nat) (hp : p < 64) (hq : p % 8 < 4) : (bck z 2 3689348814741910323).testBit p = F (p / 8 * 4 + p % 4) := by
  unfold bck
  rw [Nat.testBit_or, Nat.testBit_shiftRight, Nat.testBit_and, Nat.testBit_and, mask2, mask2]
  by_cases h2 : p % 4 < 2
  · have e1 : decide ((2 + p) % 4 < 2) = false := decide_eq_false (by omega)
    rw [e1, hz p hp h2, show p / 8 * 4 + p % 4 = p / 4 * 2 + p % 2 by omega]
    simp [hp, h2]
  · have e1 : decide ((2 + p) % 4 < 2) = true := decide_eq_true (by omega)
    have e2 : decide (2 + p < 64) = true := decide_eq_true (by omega)
    have e3 : decide (p % 4 < 2) = false := decide_eq_false h2
    rw [e1, e2, e3, hz (2 + p) (by omega) (by omega), show (2 + p) / 4 * 2 + (2 + p) % 2 = p / 8 * 4 + p % 4 by omega]
    simp
theorem join4 {F : Nat → Bool} {z : Nat} (hz : ∀ p, p < 64 → p % 8 < 4 → z.testBit p = F (p / 8 * 4 + p % 4)) (p : Nat) (hp : p < 64) (hq : p % 16 < 8) : (bck z 4 1085102592571150095).testBit p = F (p / 16 * 8 + p % 8) := by
  unfold bck
  rw [Nat.testBit_or, Nat.testBit_shiftRight, Nat.testBit_and, Nat.testBit_and, mask4, mask4]
  by_cases h2 : p % 8 < 4
  · have e1 : decide ((4 + p) % 8 < 4) = false := decide_eq_false (by omega)
    rw [e1, hz p hp h2, show p / 16 * 8 + p % 8 = p / 8 * 4 + p % 4 by omega]
    simp [hp, h2]
  · have e1 : decide ((4 + p) % 8 < 4) = true := decide_eq_true (by omega)
    have e2 : decide (4 + p < 64) = true := decide_eq_true (by omega)
    have e3 : decide (p % 8 < 4) = false := decide_eq_false h2
    rw [e1, e2, e3, hz (4 + p) (by omega) (by omega), show (4 + p) / 8 * 4 + (4 + p) % 4 = p / 16 * 8 + p % 8 by omega]
    simp
theorem join8 {F : Nat → Bool} {z : Nat} (hz : ∀ p, p < 64 → p % 16 < 8 → z.testBit p = F (p / 16 * 8 + p % 8)) (p : Nat) (hp : p < 64) (hq : p % 32 < 16) : (bck z 8 71777214294589695).testBit p = F (p / 32 * 16 + p % 16) := by
  unfold bck
  rw [Nat.testBit_or, Nat.testBit_shiftRight, Nat.testBit_and, Nat.testBit_and, mask8, mask8]
  by_cases h2 : p % 16 < 8
  · have e1 : decide ((8 + p) % 16 < 8) = false := decide_eq_false (by omega)
    rw [e1, hz p hp h2, show p / 32 * 16 + p % 16 = p / 16 * 8 + p % 8 by omega]
    simp [hp, h2]
  · have e1 : decide ((8 + p) % 16 < 8) = true := decide_eq_true (by omega)
    have e2 : decide (8 + p < 64) = true := decide_eq_true (by omega)
    have e3 : decide (p % 16 < 8) = false := decide_eq_false h2
    rw [e1, e2, e3, hz (8 + p) (by omega) (by omega), show (8 + p) / 16 * 8 + (8 + p) % 8 = p / 32 * 16 + p % 16 by omega]
    simp
theorem join16 {F : Nat → Bool} {z : Nat} (hz : ∀ p, p < 64 → p % 32 < 16 → z.testBit p = F (p / 32 * 16 + p % 16)) (p : Nat) (hp : p < 64) (hq : p % 64 < 32) : (bck z 16 281470681808895).testBit p = F (p / 64 * 32 + p % 32) := by
  unfold bck
  rw [Nat.testBit_or, Nat.testBit_shiftRight, Nat.testBit_and, Nat.testBit_and, mask16, mask16]
  by_cases h2 : p % 32 < 16
  · have e1 : decide ((16 + p) % 32 < 16) = false := decide_eq_false (by omega)
    rw [e1, hz p hp h2, show p / 64 * 32 + p % 32 = p / 32 * 16 + p % 16 by omega]
    simp [hp, h2]
  · have e1 : decide ((16 + p) % 32 < 16) = true := decide_eq_true (by omega)
    have e2 : decide (16 + p < 64) = true := decide_eq_true (by omega)
    have e3 : decide (p % 32 < 16) = false := decide_eq_false h2
    rw [e1, e2, e3, hz (16 + p) (by omega) (by omega), show (16 + p) / 32 * 16 + (16 + p) % 16 = p / 64 * 32 + p % 32 by omega]
    simp

def spreadN (n : Nat) : Nat := stp (stp (stp (stp (stp n 16 281470681808895) 8 71777214294589695) 4 1085102592571150095) 2 3689348814741910323) 1 6148914691236517205
def gatherN (z : Nat) : Nat := bck (bck (bck (bck (bck z 1 6148914691236517205) 2 3689348814741910323) 4 1085102592571150095) 8 71777214294589695) 16 281470681808895 % 2 ^ 32

theorem spread_bit {n : Nat} (hn : n < 2 ^ 32) (p : Nat) : (spreadN n).testBit p = (decide (p < 64 ∧ p % 2 = 0) && n.testBit (p / 2)) := by
  have h0 : ∀ p, n.testBit p = (decide (p < 64 ∧ p % 64 < 32) && n.testBit (p / 64 * 32 + p % 32)) := by
    intro p
    by_cases h1 : p < 64 ∧ p % 64 < 32
    · rw [decide_eq_true h1, show p / 64 * 32 + p % 32 = p by omega]; rfl
    · rw [decide_eq_false h1, Bool.false_and]
      exact Nat.testBit_lt_two_pow (Nat.lt_of_lt_of_le hn (Nat.pow_le_pow_right (by decide) (by omega)))
  unfold spreadN
  rw [half1 (half2 (half4 (half8 (half16 h0)))) p]
  exact ite_bit (by rw [decide_eq_decide]; omega) (fun _ => by omega)

theorem gather_bit (z : Nat) (i : Nat) : (gatherN z).testBit i = (decide (i < 32) && z.testBit (2 * i)) := by
  unfold gatherN
  rw [Nat.testBit_mod_two_pow]
  by_cases hi : i < 32
  · have h0 : ∀ p, p < 64 → p % 2 < 1 → z.testBit p = (fun i => z.testBit (2 * i)) (p / 2 * 1 + p % 1) := by
      intro p hp hq
      show z.testBit p = z.testBit (2 * (p / 2 * 1 + p % 1))
      rw [show 2 * (p / 2 * 1 + p % 1) = p by omega]
    have h1 := fun p (a : p < 64) (b : p % 4 < 2) => join1 (F := fun i => z.testBit (2 * i)) h0 p a b
    have h2 := fun p (a : p < 64) (b : p % 8 < 4) => join2 (F := fun i => z.testBit (2 * i)) h1 p a b
    have h4 := fun p (a : p < 64) (b : p % 16 < 8) => join4 (F := fun i => z.testBit (2 * i)) h2 p a b
    have h8 := fun p (a : p < 64) (b : p % 32 < 16) => join8 (F := fun i => z.testBit (2 * i)) h4 p a b
    have h16 := join16 (F := fun i => z.testBit (2 * i)) h8 i (by omega) (by omega)
    rw [h16, show i / 64 * 32 + i % 32 = i by omega]
  · simp [hi]

theorem spread_lt {n : Nat} : spreadN n < 2 ^ 64 := stp_lt (by decide)
theorem gather_lt {z : Nat} : gatherN z < 2 ^ 32 := Nat.mod_lt _ (by decide)

/-- Where a place stands in the row. -/
def joinN (x y : Nat) : Nat := spreadN x ||| (spreadN y <<< 1 % 2 ^ 64)
theorem join_lt {x y : Nat} : joinN x y < 2 ^ 64 := Nat.or_lt_two_pow spread_lt (Nat.mod_lt _ (by decide))

theorem join_bit {x y : Nat} (hx : x < 2 ^ 32) (hy : y < 2 ^ 32) (p : Nat) : (joinN x y).testBit p = (decide (p < 64) && if p % 2 = 0 then x.testBit (p / 2) else y.testBit (p / 2)) := by
  unfold joinN
  rw [Nat.testBit_or, Nat.testBit_mod_two_pow, Nat.testBit_shiftLeft, spread_bit hx, spread_bit hy]
  by_cases h1 : p < 64
  · by_cases h2 : p % 2 = 0
    · have e : decide (p - 1 < 64 ∧ (p - 1) % 2 = 0) = true ∨ decide (p - 1 < 64 ∧ (p - 1) % 2 = 0) = false := by cases decide (p - 1 < 64 ∧ (p - 1) % 2 = 0) <;> simp
      by_cases h3 : p ≥ 1
      · have e2 : decide (p - 1 < 64 ∧ (p - 1) % 2 = 0) = false := decide_eq_false (by omega)
        simp [h1, h2, e2]
      · simp [h1, h2, h3]
    · have e2 : decide (p - 1 < 64 ∧ (p - 1) % 2 = 0) = true := decide_eq_true (by omega)
      have e3 : decide (p ≥ 1) = true := decide_eq_true (by omega)
      rw [e2, e3, show (p - 1) / 2 = p / 2 by omega]
      simp [h1, h2]
  · have e1 : decide (p < 64 ∧ p % 2 = 0) = false := decide_eq_false (by omega)
    simp [h1, e1]

theorem join_even {x y : Nat} (hx : x < 2 ^ 32) (hy : y < 2 ^ 32) (i : Nat) : (joinN x y).testBit (2 * i) = x.testBit i := by
  rw [join_bit hx hy, show 2 * i % 2 = 0 by omega, show 2 * i / 2 = i by omega, if_pos rfl]
  by_cases h : i < 32
  · rw [decide_eq_true (by omega)]; rfl
  · rw [decide_eq_false (by omega), Nat.testBit_lt_two_pow (Nat.lt_of_lt_of_le hx (Nat.pow_le_pow_right (by decide) (by omega)))]; rfl
theorem join_odd {x y : Nat} (hx : x < 2 ^ 32) (hy : y < 2 ^ 32) (i : Nat) : (joinN x y).testBit (2 * i + 1) = y.testBit i := by
  rw [join_bit hx hy, show (2 * i + 1) % 2 = 1 by omega, show (2 * i + 1) / 2 = i by omega, if_neg (by decide)]
  by_cases h : i < 32
  · rw [decide_eq_true (by omega)]; rfl
  · rw [decide_eq_false (by omega), Nat.testBit_lt_two_pow (Nat.lt_of_lt_of_le hy (Nat.pow_le_pow_right (by decide) (by omega)))]; rfl

theorem join_inj {x y u v : Nat} (hx : x < 2 ^ 32) (hy : y < 2 ^ 32) (hu : u < 2 ^ 32) (hv : v < 2 ^ 32) : joinN x y = joinN u v ↔ x = u ∧ y = v := by
  constructor
  · intro h
    constructor
    · apply Nat.eq_of_testBit_eq
      intro i
      rw [← join_even hx hy, h, join_even hu hv]
    · apply Nat.eq_of_testBit_eq
      intro i
      rw [← join_odd hx hy, h, join_odd hu hv]
  · rintro ⟨rfl, rfl⟩; rfl

theorem pow_div {x : Nat} (hx : x < 2 ^ 32) (k : Nat) : x / 2 ^ k < 2 ^ 32 := Nat.lt_of_le_of_lt (Nat.div_le_self _ _) hx

theorem join_div {x y : Nat} (hx : x < 2 ^ 32) (hy : y < 2 ^ 32) (k : Nat) : joinN x y / 2 ^ (2 * k) = joinN (x / 2 ^ k) (y / 2 ^ k) := by
  apply Nat.eq_of_testBit_eq
  intro p
  rw [← Nat.shiftRight_eq_div_pow, Nat.testBit_shiftRight]
  by_cases h : p % 2 = 0
  · obtain ⟨i, rfl⟩ : ∃ i, p = 2 * i := ⟨p / 2, by omega⟩
    rw [join_even (pow_div hx k) (pow_div hy k), show 2 * k + 2 * i = 2 * (k + i) by omega, join_even hx hy, ← Nat.shiftRight_eq_div_pow, Nat.testBit_shiftRight]
  · obtain ⟨i, rfl⟩ : ∃ i, p = 2 * i + 1 := ⟨p / 2, by omega⟩
    rw [join_odd (pow_div hx k) (pow_div hy k), show 2 * k + (2 * i + 1) = 2 * (k + i) + 1 by omega, join_odd hx hy, ← Nat.shiftRight_eq_div_pow, Nat.testBit_shiftRight]

theorem gather_join {x y : Nat} (hx : x < 2 ^ 32) (hy : y < 2 ^ 32) : gatherN (joinN x y) = x ∧ gatherN (joinN x y >>> 1) = y := by
  have low : ∀ z i, z < 2 ^ 32 → ¬ i < 32 → z.testBit i = false := fun z i hz hi => Nat.testBit_lt_two_pow (Nat.lt_of_lt_of_le hz (Nat.pow_le_pow_right (by decide) (by omega)))
  constructor
  · apply Nat.eq_of_testBit_eq
    intro i
    rw [gather_bit, join_even hx hy]
    by_cases h : i < 32
    · simp [h]
    · simp [h, low x i hx h]
  · apply Nat.eq_of_testBit_eq
    intro i
    rw [gather_bit, Nat.testBit_shiftRight, Nat.add_comm 1, join_odd hx hy]
    by_cases h : i < 32
    · simp [h]
    · simp [h, low y i hy h]
theorem join_gather {z : Nat} (hz : z < 2 ^ 64) : joinN (gatherN z) (gatherN (z >>> 1)) = z := by
  apply Nat.eq_of_testBit_eq
  intro p
  rw [join_bit gather_lt gather_lt, gather_bit, gather_bit, Nat.testBit_shiftRight]
  by_cases h : p < 64
  · by_cases h2 : p % 2 = 0
    · have e : 2 * (p / 2) = p := by omega
      have e2 : decide (p / 2 < 32) = true := decide_eq_true (by omega)
      simp [h, h2, e, e2]
    · have e : 1 + 2 * (p / 2) = p := by omega
      have e2 : decide (p / 2 < 32) = true := decide_eq_true (by omega)
      simp [h, h2, e, e2]
  · have e : z.testBit p = false := Nat.testBit_lt_two_pow (Nat.lt_of_lt_of_le hz (Nat.pow_le_pow_right (by decide) (by omega)))
    rw [e]
    simp [h]
end Go.Proofs.Ytdepmoocjnmbeaa
