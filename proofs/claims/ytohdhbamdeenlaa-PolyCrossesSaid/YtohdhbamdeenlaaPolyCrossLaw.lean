/-
  Layer 34: sides that cross: what stays the same whichever way they are told.
-/
import Derived.Test.YtohdhbamdeenlaaPolyCross
import Derived.Test.YtohdhbamdeenlaaPolyLawOn
namespace Go.Proofs.Ytohdhbamdeenlaa
open Go.RowKit
set_option linter.unusedVariables false
set_option linter.unusedSimpArgs false

theorem tn_swap (a b p : P2) : tn b a p = -tn a b p := by
  unfold tn turnI cmpI
  have e : (a.x - b.x) * (p.y - b.y) - (a.y - b.y) * (p.x - b.x) = -((b.x - a.x) * (p.y - a.y) - (b.y - a.y) * (p.x - a.x)) := by
    simp only [Int.sub_mul, Int.mul_sub]
    have e1 := Int.mul_comm a.x b.y
    have e2 := Int.mul_comm b.x a.y
    have e3 := Int.mul_comm a.x a.y
    have e4 := Int.mul_comm b.x b.y
    omega
  split <;> split <;> (try split) <;> (try split) <;> omega
theorem btw_swap (n a b : Int) : btw n b a = btw n a b := by unfold btw; rw [Int.min_comm b, Int.max_comm b]
theorem onB_swap (a b p : P2) : onB b a p = onB a b p := by unfold onB; rw [btw_swap p.x a.x b.x, btw_swap p.y a.y b.y, tn_swap0 a b p]
theorem onB_first (a b : P2) : onB a b a = true := by
  unfold onB tn turnI cmpI btw
  simp
  omega
theorem onB_last (a b : P2) : onB a b b = true := by rw [← onB_swap]; exact onB_first b a
theorem crossB_swap (a b c d : P2) : crossB b a c d = crossB a b c d := by
  unfold crossB
  rw [onB_swap a b c, onB_swap a b d, tn_swap a b c, tn_swap a b d, Int.neg_mul_neg, Int.mul_comm (tn c d b)]
  cases onB a b c <;> cases onB a b d <;> cases onB c d a <;> cases onB c d b <;> rfl
theorem crossB_turn (a b c d : P2) : crossB c d a b = crossB a b c d := by
  unfold crossB
  rw [Bool.and_comm (decide (tn c d a * tn c d b < 0))]
  cases onB a b c <;> cases onB a b d <;> cases onB c d a <;> cases onB c d b <;> rfl
theorem crossB_self (a b : P2) : crossB a b a b = true := by unfold crossB; rw [onB_first]; rfl
theorem crossB_meet (a b c : P2) : crossB a b b c = true := by unfold crossB; rw [onB_last]; rfl
theorem crossB_steps (a b c d : P2) : crossB a b c d = ((((decide (tn a b c * tn a b d < 0) && decide (tn c d a * tn c d b < 0)) || onB a b c) || onB c d a) || onB a b d || onB c d b) := by
  unfold crossB
  cases onB a b c <;> cases onB a b d <;> cases onB c d a <;> cases onB c d b <;> cases (decide (tn a b c * tn a b d < 0) && decide (tn c d a * tn c d b < 0)) <;> rfl

/-- Two elements of four cells each. -/
theorem row2 {w : World} {g o : Nat} {v0 v1 v2 v3 v4 v5 v6 v7 : Value} (hlt : g < w.heap.size) (h : ∀ j v, [v0, v1, v2, v3, v4, v5, v6, v7][j]? = some v → w.cell? ⟨g, o + j, none⟩ = some v) :
    Row w g o 4 2 (fun i => if i = 0 then [v0, v1, v2, v3] else [v4, v5, v6, v7]) :=
  ⟨hlt, fun i hi j v hv => by
    match i, hi with
    | 0, _ =>
      rw [Nat.zero_mul, Nat.add_zero]
      match j, hv with
      | 0, hv => exact h 0 v hv
      | 1, hv => exact h 1 v hv
      | 2, hv => exact h 2 v hv
      | 3, hv => exact h 3 v hv
    | 1, _ =>
      rw [Nat.one_mul, Nat.add_assoc]
      match j, hv with
      | 0, hv => exact h 4 v hv
      | 1, hv => exact h 5 v hv
      | 2, hv => exact h 6 v hv
      | 3, hv => exact h 7 v hv⟩
end Go.Proofs.Ytohdhbamdeenlaa
