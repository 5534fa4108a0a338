/-
  What the functions of package layout come to: which geometries may be, and where segments and their places are.
-/
import Derived.Test.YtibjccfillhfpaaProg
import Derived.Test.YtibjccfillhfpaaAid
import Derived.Test.YtibjccfillhfpaaRegion
namespace Go.Proofs.Ytibjccfillhfpaa
open Go.RowKit
set_option linter.unusedVariables false

abbrev geo (n z : Int) : Value := .agg #[.int .i64 n, .int .i64 z]
def okB (n z : Int) : Bool := decide (6 ≤ n) && decide (n ≤ 32) && decide (4 ≤ z) && decide (z ≤ 32)
def chkI (n z : Int) : Int := if okB n z = true then 0 else 4
def secI (n z : Int) : Int := if okB n z = true then 9 + n * z else 0
def segB (n z k : Int) : Bool := okB n z && decide (0 ≤ k) && decide (k < n)
def segI (n z k : Int) : Int := if segB n z k = true then 9 + k * z else 0
def adB (n z k o : Int) : Bool := segB n z k && decide (0 ≤ o) && decide (o < z)
def adI (n z k o : Int) : Int := if adB n z k o = true then 9 + k * z + o else 0

theorem ok_true {n z : Int} (h : okB n z = true) : 6 ≤ n ∧ n ≤ 32 ∧ 4 ≤ z ∧ z ≤ 32 := by
  simp only [okB, Bool.and_eq_true, decide_eq_true_eq] at h; omega
theorem ok_ways (n z : Int) : (okB n z = true ∧ ¬ n < 6 ∧ ¬ 32 < n ∧ ¬ z < 4 ∧ ¬ 32 < z) ∨ (okB n z = false ∧ n < 6) ∨ (okB n z = false ∧ ¬ n < 6 ∧ 32 < n) ∨ (okB n z = false ∧ ¬ n < 6 ∧ ¬ 32 < n ∧ z < 4) ∨ (okB n z = false ∧ ¬ n < 6 ∧ ¬ 32 < n ∧ ¬ z < 4 ∧ 32 < z) := by
  have h : okB n z = true ↔ (6 ≤ n ∧ n ≤ 32 ∧ 4 ≤ z ∧ z ≤ 32) := by simp only [okB, Bool.and_eq_true, decide_eq_true_eq]; omega
  cases hb : okB n z
  · have : ¬ (6 ≤ n ∧ n ≤ 32 ∧ 4 ≤ z ∧ z ≤ 32) := fun x => by rw [h.2 x] at hb; cases hb
    simp only [Bool.false_eq_true, false_and, true_and, false_or]
    omega
  · have := h.1 hb
    left
    refine ⟨rfl, ?_, ?_, ?_, ?_⟩ <;> omega

theorem check_any (n z : Int) (w : World) :
    Calls Try.prog 28 #[geo n z] w fun e w' => e = .returned (.int .i64 (chkI n z)) ∧ Below w.heap.size w w' := by
  unfold chkI
  rcases ok_ways n z with ⟨e, h1, h2, h3, h4⟩ | ⟨e, h1⟩ | ⟨e, h1, h2⟩ | ⟨e, h1, h2, h3⟩ | ⟨e, h1, h2, h3, h4⟩
  all_goals
    rw [e]
    clear e
    go_enter Try.func28, Try.ntmps28
    go_wp2
    go_ret
    exact ⟨rfl, by go_grown⟩

theorem mul_in {k z : Int} (hk : 0 ≤ k) (hk' : k ≤ 32) (hz : 4 ≤ z) (hz' : z ≤ 32) : 0 ≤ k * z ∧ k * z ≤ 1024 := by
  exact ⟨Int.mul_nonneg hk (by omega), by have := Int.mul_le_mul hk' hz' (by omega) (by omega); omega⟩

theorem segment_any (n z k : Int) (w : World) :
    Calls Try.prog 27 #[geo n z, .int .i64 k] w fun e w' => e = .returned (.int .i64 (segI n z k)) ∧ Below w.heap.size w w' := by
  have K := fun w => check_any n z w
  unfold chkI at K
  unfold segI segB
  cases h : okB n z
  · rw [h] at K
    have K := hid K
    go_enter Try.func27, Try.ntmps27
    go_wp2_with fail
    refine (K.out _).mono ?_
    rintro e w1 ⟨rfl, hb1⟩
    obtain ⟨B0, H⟩ := boxed1 hb1
    clear hb1
    go_wp2
    go_ret
    exact ⟨rfl, H⟩
  · have o := ok_true h
    rw [h] at K
    have K := hid K
    by_cases hin : 0 ≤ k ∧ k < n
    · have b := mul_in (k := k) (z := z) (by omega) (by omega) (by omega) (by omega)
      have m1 : IntKind.i64.wrap (k * z) = k * z := IntWalk.i64_in _ (by omega)
      have m2 : IntKind.i64.wrap (9 + k * z) = 9 + k * z := IntWalk.i64_in _ (by omega)
      have h1 : ¬ k < 0 := by omega
      have h2 : ¬ n ≤ k := by omega
      have d1 : decide (0 ≤ k) = true := decide_eq_true hin.1
      have d2 : decide (k < n) = true := decide_eq_true hin.2
      rw [d1, d2]
      clear b o h hin d1 d2
      go_enter Try.func27, Try.ntmps27
      go_wp2_with fail
      refine (K.out _).mono ?_
      rintro e w1 ⟨rfl, hb1⟩
      obtain ⟨B0, H⟩ := boxed1 hb1
      obtain ⟨l0, k0, f0⟩ := B0
      clear hb1
      go_wp2
      go_ret
      exact ⟨rfl, H⟩
    · have e : (true && decide (0 ≤ k) && decide (k < n)) = false := by
        simp only [Bool.true_and, Bool.and_eq_false_iff, decide_eq_false_iff_not]; omega
      rw [e]
      have ways : k < 0 ∨ (¬ k < 0 ∧ n ≤ k) := by omega
      clear o h hin e
      rcases ways with h1 | ⟨h1, h2⟩
      all_goals
        go_enter Try.func27, Try.ntmps27
        go_wp2_with fail
        refine (K.out _).mono ?_
        rintro e w1 ⟨rfl, hb1⟩
        obtain ⟨B0, H⟩ := boxed1 hb1
        obtain ⟨l0, k0, f0⟩ := B0
        clear hb1
        go_wp2
        go_ret
        exact ⟨rfl, H⟩

end Go.Proofs.Ytibjccfillhfpaa
