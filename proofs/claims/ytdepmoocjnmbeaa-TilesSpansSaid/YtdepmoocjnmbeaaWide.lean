/-
  What the functions of package wide come to: distances, sums with their carry, comparison.
-/
import Derived.Test.YtdepmoocjnmbeaaProg
import Derived.Test.YtdepmoocjnmbeaaCmp
import Derived.Test.YtdepmoocjnmbeaaAid
import Derived.Test.YtdepmoocjnmbeaaRegion
namespace Go.Proofs.Ytdepmoocjnmbeaa
open Go.RowKit
set_option maxRecDepth 100000
set_option linter.unusedVariables false

/-- What the sum of two comes to. -/
def loS (b d : Int) : Int := (b + d) % 18446744073709551616
def caS (b d : Int) : Int := (b + d) / 18446744073709551616
def hiS (a b c d : Int) : Int := (a + c + caS b d) % 18446744073709551616
def orI (a b : Int) : Int := if a = 0 then b else a
def cmpD (a b c d : Int) : Int := orI (cmpI a c) (cmpI b d)
def apartI (a b : Int) : Int := max a b - min a b
def clampI (n a b : Int) : Int := min (max n (min a b)) (max a b)
def sqI (n : Int) : Int := n * n

theorem sq_bd (a : Int) (ha : 0 ≤ a) (ha2 : a ≤ 4294967295) : 0 ≤ sqI a ∧ sqI a ≤ 18446744065119617025 := by
  unfold sqI
  exact ⟨Int.mul_nonneg ha ha, by have := Int.mul_le_mul ha2 ha2 ha (by omega); omega⟩
theorem clamp_bd (n a b : Int) (hn : 0 ≤ n) (hn2 : n ≤ 4294967295) (ha : 0 ≤ a) (ha2 : a ≤ 4294967295) (hb : 0 ≤ b) (hb2 : b ≤ 4294967295) : 0 ≤ clampI n a b ∧ clampI n a b ≤ 4294967295 := by
  unfold clampI; omega
theorem apartI_bd (a b : Int) (ha : 0 ≤ a) (ha2 : a ≤ 4294967295) (hb : 0 ≤ b) (hb2 : b ≤ 4294967295) : 0 ≤ apartI a b ∧ apartI a b ≤ 4294967295 := by
  unfold apartI; omega

theorem compare_u64 (a b : Int) (w : World) :
    Calls Try.prog 34 #[.int .u64 a, .int .u64 b] w fun e w' => e = .returned (.int .i64 (cmpI a b)) ∧ w' = w := by
  by_cases h1 : a < b
  · have e : cmpI a b = -1 := by simp [cmpI, h1]
    rw [e]
    clear e
    go_enter Try.func34, Try.ntmps34
    go_wp2
    go_ret
    exact ⟨rfl, rfl⟩
  · by_cases h2 : b < a
    · have e : cmpI a b = 1 := by simp [cmpI, h1, h2]
      rw [e]
      clear e
      go_enter Try.func34, Try.ntmps34
      go_wp2
      go_ret
      exact ⟨rfl, rfl⟩
    · have e : cmpI a b = 0 := by simp [cmpI, h1, h2]
      rw [e]
      clear e
      go_enter Try.func34, Try.ntmps34
      go_wp2
      go_ret
      exact ⟨rfl, rfl⟩

theorem or2 (a b : Int) (x o : Nat) (w : World)
    (c0 : w.cell? ⟨x, o, none⟩ = some (.int .i64 a)) (c1 : w.cell? ⟨x, o+1, none⟩ = some (.int .i64 b)) :
    Calls Try.prog 33 #[.slice (some ⟨x, o, none⟩) 2 2] w fun e w' => e = .returned (.int .i64 (orI a b)) ∧ w' = w := by
  by_cases h1 : a = 0
  · subst h1
    rw [show orI 0 b = b from rfl]
    by_cases h2 : b = 0
    · subst h2
      go_enter Try.func33, Try.ntmps33
      go_wp2
      go_rounds 3
      go_ret
      exact ⟨rfl, rfl⟩
    · have hb : (b != 0) = true := by simp [h2]
      go_enter Try.func33, Try.ntmps33
      go_wp2
      go_rounds 3
      go_ret
      exact ⟨rfl, rfl⟩
  · have hb : (a != 0) = true := by simp [h1]
    rw [show orI a b = a from if_neg h1]
    clear h1
    go_enter Try.func33, Try.ntmps33
    go_wp2
    go_rounds 3
    go_ret
    exact ⟨rfl, rfl⟩

/-- Two squares, added, behind whatever ways. -/
theorem two_bd {p q : Int} (h1 : 0 ≤ p ∧ p ≤ 4294967295) (h2 : 0 ≤ q ∧ q ≤ 4294967295) : (0 ≤ sqI p ∧ sqI p < 18446744073709551616) ∧ 0 ≤ sqI q ∧ sqI q < 18446744073709551616 := by
  have a := sq_bd p h1.1 h1.2
  have b := sq_bd q h2.1 h2.2
  omega

end Go.Proofs.Ytdepmoocjnmbeaa
