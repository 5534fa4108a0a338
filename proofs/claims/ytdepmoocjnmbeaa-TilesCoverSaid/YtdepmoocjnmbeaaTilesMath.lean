/-
  Cells and the window of a smaller one.
-/
import Derived.Test.YtdepmoocjnmbeaaRect
import Derived.Test.YtdepmoocjnmbeaaCellKid
namespace Go.Proofs.Ytdepmoocjnmbeaa
open Go.RowKit
set_option linter.unusedVariables false

theorem pw_le {k n : Int} (h : 0 ≤ k) (hk : k < n) (hn : n ≤ 32) : 2 * pw n ≤ pw k := by
  obtain ⟨r, hr, e⟩ := pw_mul (show (0 : Int) ≤ k + 1 by omega) (show k + 1 ≤ n by omega) hn
  have h2 := pw_next h (show k < 32 by omega)
  have hp := pw_bd (show (0 : Int) ≤ n by omega) hn
  rw [h2, e]
  have : pw n * 1 ≤ pw n * r := Int.mul_le_mul_of_nonneg_left hr (by omega)
  omega
/-- Where the cell of a place lies within the cell of a level above it. -/
theorem floor_in {x k n : Int} (hx : 0 ≤ x) (h : 0 ≤ k) (hk : k ≤ n) (hn : n ≤ 32) : floorI x k ≤ floorI x n ∧ floorI x n + pw n ≤ floorI x k + pw k := by
  obtain ⟨r, hr, e⟩ := pw_mul h hk hn
  have hp := pw_bd (show (0 : Int) ≤ n by omega) hn
  have hf := floor_floor (x := x) h hk hn
  have hff : floorI x k = floorI (floorI x n) k := hf.symm
  generalize hq : floorI x n = y at *
  have hy0 : y = x / pw n * pw n := hq.symm
  have hyk : floorI y k = y / pw k * pw k := rfl
  rw [hff, hyk]
  have hpk : 1 ≤ pw k := by rw [e]; have : pw n * 1 ≤ pw n * r := Int.mul_le_mul_of_nonneg_left hr (by omega); omega
  have h1 := Int.ediv_mul_le y (show pw k ≠ 0 by omega)
  have h2 := Int.lt_ediv_add_one_mul_self y (show 0 < pw k by omega)
  refine ⟨h1, ?_⟩
  have h3 : (y / pw k + 1) * pw k = y / pw k * pw k + pw k := by rw [Int.add_mul, Int.one_mul]
  rw [h3] at h2
  have hd1 : ∃ a : Int, y / pw k * pw k + pw k = pw n * a := ⟨(y / pw k + 1) * r, by rw [← h3, e, Int.mul_comm (pw n) r, ← Int.mul_assoc, Int.mul_comm]⟩
  have hd2 : ∃ b : Int, y = pw n * b := ⟨x / pw n, by rw [hy0, Int.mul_comm]⟩
  obtain ⟨a, ha⟩ := hd1
  obtain ⟨b, hb⟩ := hd2
  rw [ha] at h2 ⊢
  rw [hb] at h2 ⊢
  have hab : b < a := by
    by_cases hh : b < a
    · exact hh
    · have : pw n * a ≤ pw n * b := Int.mul_le_mul_of_nonneg_left (by omega) (by omega)
      omega
  have h4 : pw n * (b + 1) ≤ pw n * a := Int.mul_le_mul_of_nonneg_left (by omega) (by omega)
  rw [Int.mul_add, Int.mul_one] at h4
  exact h4
/-- Windows a to c, with e to f within: meets, within. -/
theorem meets_iff (a b c d a' b' c' d' : Int) : meetsB a b c d a' b' c' d' = (decide (max a a' ≤ min c c') && decide (max b b' ≤ min d d')) := by
  unfold meetsB noCut emptyB
  by_cases h1 : max a a' ≤ min c c' <;> by_cases h2 : max b b' ≤ min d d' <;> simp [h1, h2] <;> omega
theorem within_self (a b c d : Int) (h1 : a ≤ c) (h2 : b ≤ d) : withinB a b c d a b c d = true := by
  unfold withinB
  have e1 : noCut a b c d a b c d = false := by
    unfold noCut emptyB
    simp
    omega
  unfold cutP cutQ cutR cutS
  rw [e1]
  unfold emptyB eq4
  simp
theorem within_wide (a b c d a' b' c' d' : Int) (h1 : a ≤ c) (h2 : b ≤ d) (h3 : c' - a' < c - a) (h4 : a ≤ a' ∧ c' ≤ c ∧ b ≤ b' ∧ d' ≤ d ∧ a' ≤ c' ∧ b' ≤ d') : withinB a b c d a' b' c' d' = false := by
  unfold withinB
  have e1 : noCut a b c d a' b' c' d' = false := by
    unfold noCut emptyB
    simp
    omega
  unfold cutP cutQ cutR cutS
  rw [e1]
  unfold emptyB eq4
  simp
  omega

theorem floor_zero {x : Int} (h : 0 ≤ x) (h' : x ≤ 4294967295) : floorI x 0 = 0 := by
  unfold floorI
  rw [show pw 0 = 4294967296 by decide]
  omega
theorem tfloor_top {x k : Int} (h : 0 ≤ x) (h' : x ≤ 4294967295) (h0 : 0 ≤ k) (hk : k ≤ 32) : 0 ≤ floorI x k ∧ floorI x k + pw k ≤ 4294967296 := by
  have h1 := floor_in h (Int.le_refl 0) h0 hk
  rw [floor_zero h h', show pw 0 = 4294967296 by decide] at h1
  omega
/-- A quarter's corner. -/
theorem kid_floor {x k b : Int} (h0 : 0 ≤ k) (hk : k < 32) : floorI (floorI x k + b * pw (k + 1)) (k + 1) = floorI x k + b * pw (k + 1) := by
  have hp := pw_bd (show (0 : Int) ≤ k + 1 by omega) (show k + 1 ≤ 32 by omega)
  have h2 := pw_next h0 hk
  have e : floorI x k + b * pw (k + 1) = (2 * (x / pw k) + b) * pw (k + 1) := by
    unfold floorI
    rw [h2]
    generalize x / (2 * pw (k + 1)) = q
    generalize pw (k + 1) = D
    rw [Int.add_mul, ← Int.mul_assoc, Int.mul_comm q 2]
  rw [e]
  show (2 * (x / pw k) + b) * pw (k + 1) / pw (k + 1) * pw (k + 1) = _
  rw [Int.mul_ediv_cancel _ (by omega)]
/-- Which quarters a smaller cell's window meets. -/
theorem kid_meets {x k n b : Int} (h : 0 ≤ x) (h' : x ≤ 4294967295) (h0 : 0 ≤ k) (hk : k < n) (hn : n ≤ 32) (hb : b = 0 ∨ b = 1) :
    decide (max (floorI x k + b * pw (k + 1)) (floorI x n) ≤ min (floorI x k + b * pw (k + 1) + (pw (k + 1) - 1)) (floorI x n + (pw n - 1))) = decide (b = x / pw (k + 1) % 2) := by
  have hp := pw_bd (show (0 : Int) ≤ n by omega) hn
  have h1 := floor_in h (show (0 : Int) ≤ k + 1 by omega) (show k + 1 ≤ n by omega) hn
  have h2 := floor_next (x := x) h0 (show k < 32 by omega)
  have hbx : x / pw (k + 1) % 2 = 0 ∨ x / pw (k + 1) % 2 = 1 := by omega
  have hD := pw_bd (show (0 : Int) ≤ k + 1 by omega) (show k + 1 ≤ 32 by omega)
  rw [h2] at h1
  generalize x / pw (k + 1) % 2 = bx at *
  generalize pw (k + 1) = D at *
  generalize floorI x k = X at *
  generalize floorI x n = F at *
  generalize pw n = p at *
  clear h2
  rcases hb with rfl | rfl <;> rcases hbx with rfl | rfl <;> simp <;> omega
end Go.Proofs.Ytdepmoocjnmbeaa
