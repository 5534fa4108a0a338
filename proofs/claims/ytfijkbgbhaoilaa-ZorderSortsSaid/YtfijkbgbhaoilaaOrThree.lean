/-
  cmp.Compare of two whole numbers; cmp.Or of three.
-/
import Derived.Test.YtfijkbgbhaoilaaWide
namespace Go.Proofs.Ytfijkbgbhaoilaa
open Go.RowKit
set_option linter.unusedVariables false
set_option linter.unusedSimpArgs false

theorem compare_i64 (a b : Int) (w : World) :
    Calls Try.prog 22 #[.int .i64 a, .int .i64 b] w fun e w' => e = .returned (.int .i64 (cmpI a b)) ∧ w' = w := by
  by_cases h1 : a < b
  · have e : cmpI a b = -1 := by simp [cmpI, h1]
    rw [e]
    clear e
    go_enter Try.func22, Try.ntmps22
    go_wp2
    go_ret
    exact ⟨rfl, rfl⟩
  · by_cases h2 : b < a
    · have e : cmpI a b = 1 := by simp [cmpI, h1, h2]
      rw [e]
      clear e
      go_enter Try.func22, Try.ntmps22
      go_wp2
      go_ret
      exact ⟨rfl, rfl⟩
    · have e : cmpI a b = 0 := by simp [cmpI, h1, h2]
      rw [e]
      clear e
      go_enter Try.func22, Try.ntmps22
      go_wp2
      go_ret
      exact ⟨rfl, rfl⟩

def or3I (a b c : Int) : Int := orI a (orI b c)

theorem or3 (a b c : Int) (x o : Nat) (w : World)
    (c0 : w.cell? ⟨x, o, none⟩ = some (.int .i64 a)) (c1 : w.cell? ⟨x, o+1, none⟩ = some (.int .i64 b)) (c2 : w.cell? ⟨x, o+2, none⟩ = some (.int .i64 c)) :
    Calls Try.prog 27 #[.slice (some ⟨x, o, none⟩) 3 3] w fun e w' => e = .returned (.int .i64 (or3I a b c)) ∧ w' = w := by
  unfold or3I
  by_cases h1 : a = 0
  · subst h1
    rw [show orI 0 (orI b c) = orI b c from rfl]
    by_cases h2 : b = 0
    · subst h2
      rw [show orI 0 c = c from rfl]
      by_cases h3 : c = 0
      · subst h3
        go_enter Try.func27, Try.ntmps27
        go_wp2
        go_rounds 4
        go_ret
        exact ⟨rfl, rfl⟩
      · have hb : (c != 0) = true := by simp [h3]
        go_enter Try.func27, Try.ntmps27
        go_wp2
        go_rounds 4
        go_ret
        exact ⟨rfl, rfl⟩
    · have hb : (b != 0) = true := by simp [h2]
      rw [show orI b c = b from if_neg h2]
      clear h2
      go_enter Try.func27, Try.ntmps27
      go_wp2
      go_rounds 4
      go_ret
      exact ⟨rfl, rfl⟩
  · have hb : (a != 0) = true := by simp [h1]
    rw [show orI a (orI b c) = a from if_neg h1]
    clear h1
    go_enter Try.func27, Try.ntmps27
    go_wp2
    go_rounds 4
    go_ret
    exact ⟨rfl, rfl⟩
end Go.Proofs.Ytfijkbgbhaoilaa
