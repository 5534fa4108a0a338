/-
  What the functions of package layout come to: which geometries may be, and where segments and their places are.
-/
import Derived.Test.YtcklmemnjchdcaaProg
import Derived.Test.YtcklmemnjchdcaaAid
import Derived.Test.YtcklmemnjchdcaaRegion
namespace Go.Proofs.Ytcklmemnjchdcaa
open Go.RowKit
set_option linter.unusedVariables false

abbrev geo (n z : Int) : Value := .agg #[.int .i64 n, .int .i64 z]
def okB (n z : Int) : Bool := decide (6 ≤ n) && decide (n ≤ 32) && decide (4 ≤ z) && decide (z ≤ 32)
def chkI (n z : Int) : Int := if okB n z = true then 0 else 4
def secI (n z : Int) : Int := if okB n z = true then 9 + n * z else 0
def segB (n z k : Int) : Bool := okB n z && decide (0 ≤ k) && decide (k < n)
def segI (n z k : Int) : Int := if segB n z k = true then 9 + k * z else 0
def adB (n z k o : Int) : Bool := segB n z k && decide (0 ≤ o) && decide (o < z)
def adI (n z k o : Int) : Int := if adB n z k o = true then 9 + k * z + o else 0

theorem ok_true {n z : Int} (h : okB n z = true) : 6 ≤ n ∧ n ≤ 32 ∧ 4 ≤ z ∧ z ≤ 32 := by
  simp only [okB, Bool.and_eq_true, decide_eq_true_eq] at h; omega
theorem ok_ways (n z : Int) : (okB n z = true ∧ ¬ n < 6 ∧ ¬ 32 < n ∧ ¬ z < 4 ∧ ¬ 32 < z) ∨ (okB n z = false ∧ n < 6) ∨ (okB n z = false ∧ ¬ n < 6 ∧ 32 < n) ∨ (okB n z = false ∧ ¬ n < 6 ∧ ¬ 32 < n ∧ z < 4) ∨ (okB n z = false ∧ ¬ n < 6 ∧ ¬ 32 < n ∧ ¬ z < 4 ∧ 32 < z) := by
  have h : okB n z = true ↔ (6 ≤ n ∧ n ≤ 32 ∧ 4 ≤ z ∧ z ≤ 32) := by simp only [okB, Bool.and_eq_true, decide_eq_true_eq]; omega
  cases hb : okB n z
  · have : ¬ (6 ≤ n ∧ n ≤ 32 ∧ 4 ≤ z ∧ z ≤ 32) := fun x => by rw [h.2 x] at hb; cases hb
    simp only [Bool.false_eq_true, false_and, true_and, false_or]
    omega
  · have := h.1 hb
    left
    refine ⟨rfl, ?_, ?_, ?_, ?_⟩ <;> omega

theorem lcheck_any (n z : Int) (w : World) :
    Calls Try.prog 18 #[geo n z] w fun e w' => e = .returned (.int .i64 (chkI n z)) ∧ Below w.heap.size w w' := by
  unfold chkI
  rcases ok_ways n z with ⟨e, h1, h2, h3, h4⟩ | ⟨e, h1⟩ | ⟨e, h1, h2⟩ | ⟨e, h1, h2, h3⟩ | ⟨e, h1, h2, h3, h4⟩
  all_goals
    rw [e]
    clear e
    go_enter Try.func18, Try.ntmps18
    go_wp2
    go_ret
    exact ⟨rfl, by go_grown⟩

theorem mul_in {k z : Int} (hk : 0 ≤ k) (hk' : k ≤ 32) (hz : 4 ≤ z) (hz' : z ≤ 32) : 0 ≤ k * z ∧ k * z ≤ 1024 := by
  exact ⟨Int.mul_nonneg hk (by omega), by have := Int.mul_le_mul hk' hz' (by omega) (by omega); omega⟩

theorem lsectors_any (n z : Int) (w : World) :
    Calls Try.prog 8 #[geo n z] w fun e w' => e = .returned (.int .i64 (secI n z)) ∧ Below w.heap.size w w' := by
  have K := fun w => lcheck_any n z w
  unfold chkI at K
  unfold secI
  cases h : okB n z
  · rw [h] at K
    have K := hid K
    go_enter Try.func8, Try.ntmps8
    go_wp2_with fail
    refine (K.out _).mono ?_
    rintro e w1 ⟨rfl, hb1⟩
    obtain ⟨B0, H⟩ := boxed1 hb1
    clear hb1
    go_wp2
    go_ret
    exact ⟨rfl, H⟩
  · have o := ok_true h
    rw [h] at K
    have K := hid K
    have b := mul_in (k := n) (z := z) (by omega) (by omega) (by omega) (by omega)
    have m1 : IntKind.i64.wrap (n * z) = n * z := IntWalk.i64_in _ (by omega)
    have m2 : IntKind.i64.wrap (9 + n * z) = 9 + n * z := IntWalk.i64_in _ (by omega)
    clear b o h
    go_enter Try.func8, Try.ntmps8
    go_wp2_with fail
    refine (K.out _).mono ?_
    rintro e w1 ⟨rfl, hb1⟩
    obtain ⟨B0, H⟩ := boxed1 hb1
    obtain ⟨l0, k0, f0⟩ := B0
    clear hb1
    go_wp2
    go_ret
    exact ⟨rfl, H⟩

theorem segment_any (n z k : Int) (w : World) :
    Calls Try.prog 37 #[geo n z, .int .i64 k] w fun e w' => e = .returned (.int .i64 (segI n z k)) ∧ Below w.heap.size w w' := by
  have K := fun w => lcheck_any n z w
  unfold chkI at K
  unfold segI segB
  cases h : okB n z
  · rw [h] at K
    have K := hid K
    go_enter Try.func37, Try.ntmps37
    go_wp2_with fail
    refine (K.out _).mono ?_
    rintro e w1 ⟨rfl, hb1⟩
    obtain ⟨B0, H⟩ := boxed1 hb1
    clear hb1
    go_wp2
    go_ret
    exact ⟨rfl, H⟩
  · have o := ok_true h
    rw [h] at K
    have K := hid K
    by_cases hin : 0 ≤ k ∧ k < n
    · have b := mul_in (k := k) (z := z) (by omega) (by omega) (by omega) (by omega)
      have m1 : IntKind.i64.wrap (k * z) = k * z := IntWalk.i64_in _ (by omega)
      have m2 : IntKind.i64.wrap (9 + k * z) = 9 + k * z := IntWalk.i64_in _ (by omega)
      have h1 : ¬ k < 0 := by omega
      have h2 : ¬ n ≤ k := by omega
      have d1 : decide (0 ≤ k) = true := decide_eq_true hin.1
      have d2 : decide (k < n) = true := decide_eq_true hin.2
      rw [d1, d2]
      clear b o h hin d1 d2
      go_enter Try.func37, Try.ntmps37
      go_wp2_with fail
      refine (K.out _).mono ?_
      rintro e w1 ⟨rfl, hb1⟩
      obtain ⟨B0, H⟩ := boxed1 hb1
      obtain ⟨l0, k0, f0⟩ := B0
      clear hb1
      go_wp2
      go_ret
      exact ⟨rfl, H⟩
    · have e : (true && decide (0 ≤ k) && decide (k < n)) = false := by
        simp only [Bool.true_and, Bool.and_eq_false_iff, decide_eq_false_iff_not]; omega
      rw [e]
      have ways : k < 0 ∨ (¬ k < 0 ∧ n ≤ k) := by omega
      clear o h hin e
      rcases ways with h1 | ⟨h1, h2⟩
      all_goals
        go_enter Try.func37, Try.ntmps37
        go_wp2_with fail
        refine (K.out _).mono ?_
        rintro e w1 ⟨rfl, hb1⟩
        obtain ⟨B0, H⟩ := boxed1 hb1
        obtain ⟨l0, k0, f0⟩ := B0
        clear hb1
        go_wp2
        go_ret
        exact ⟨rfl, H⟩

theorem address_any (n z k o : Int) (w : World) :
    Calls Try.prog 22 #[geo n z, .int .i64 k, .int .i64 o] w fun e w' => e = .returned (.tuple #[.int .i64 (adI n z k o), .bool (adB n z k o)]) ∧ Below w.heap.size w w' := by
  have K := fun w => segment_any n z k w
  unfold segI at K
  unfold adI adB
  cases h : segB n z k
  · rw [h] at K
    have K := hid K
    go_enter Try.func22, Try.ntmps22
    go_wp2_with fail
    refine (K.out _).mono ?_
    rintro e w1 ⟨rfl, hb1⟩
    obtain ⟨B0, H⟩ := boxed1 hb1
    clear hb1
    go_wp2
    go_ret2
    exact ⟨rfl, H⟩
  · have g : okB n z = true ∧ 0 ≤ k ∧ k < n := by
      unfold segB at h
      simpa only [Bool.and_eq_true, decide_eq_true_eq, and_assoc] using h
    have q := ok_true g.1
    have b := mul_in (k := k) (z := z) (by omega) (by omega) (by omega) (by omega)
    rw [h] at K
    have hf : 9 ≤ 9 + k * z ∧ 9 + k * z ≤ 1033 := by omega
    simp only [if_pos] at K
    have zz := q.2.2
    generalize 9 + k * z = f at *
    have K := hid K
    have f0 : (f == 0) = false := by simp; omega
    have f1 : f ≠ 0 := by omega
    clear b q g h
    by_cases hin : 0 ≤ o ∧ o < z
    · have h1 : ¬ o < 0 := by omega
      have h2 : ¬ z ≤ o := by omega
      have d1 : decide (0 ≤ o) = true := decide_eq_true hin.1
      have d2 : decide (o < z) = true := decide_eq_true hin.2
      have m1 : IntKind.i64.wrap (f + o) = f + o := IntWalk.i64_in _ (by omega)
      rw [d1, d2]
      clear hin d1 d2
      go_enter Try.func22, Try.ntmps22
      go_wp2_with fail
      refine (K.out _).mono ?_
      rintro e w1 ⟨rfl, hb1⟩
      obtain ⟨B0, H⟩ := boxed1 hb1
      obtain ⟨l0, k0, f0⟩ := B0
      clear hb1
      go_wp2
      go_ret2
      exact ⟨rfl, H⟩
    · have e : (true && decide (0 ≤ o) && decide (o < z)) = false := by
        simp only [Bool.true_and, Bool.and_eq_false_iff, decide_eq_false_iff_not]; omega
      rw [e]
      have ways : o < 0 ∨ (¬ o < 0 ∧ z ≤ o) := by omega
      clear hin e
      rcases ways with h1 | ⟨h1, h2⟩
      all_goals
        go_enter Try.func22, Try.ntmps22
        go_wp2_with fail
        refine (K.out _).mono ?_
        rintro e w1 ⟨rfl, hb1⟩
        obtain ⟨B0, H⟩ := boxed1 hb1
        obtain ⟨l0, k0, f0⟩ := B0
        clear hb1
        go_wp2
        go_ret2
        exact ⟨rfl, H⟩

end Go.Proofs.Ytcklmemnjchdcaa
