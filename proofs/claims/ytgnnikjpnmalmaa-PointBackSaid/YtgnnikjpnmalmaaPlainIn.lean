/-
  The document's own: is a number one of some?
-/
import Derived.Test.YtgnnikjpnmalmaaSlices
import Derived.LoopTactic
import Derived.WalkKit
namespace Go.Proofs.Ytgnnikjpnmalmaa
open Go.RowKit
set_option linter.unusedVariables false
set_option linter.unusedSimpArgs false

/-- Is x one of the first k? -/
def inB (g : Nat → Int) (x : Int) : Nat → Bool
  | 0 => false
  | k + 1 => inB g x k || (g k == x)
theorem inB_iff (g : Nat → Int) (x : Int) : ∀ k, inB g x k = true ↔ ∃ i, i < k ∧ g i = x
  | 0 => by simp [inB]
  | k + 1 => by
    simp only [inB, Bool.or_eq_true, beq_iff_eq, inB_iff g x k]
    constructor
    · rintro (⟨i, hi, e⟩ | e)
      · exact ⟨i, by omega, e⟩
      · exact ⟨k, by omega, e⟩
    · rintro ⟨i, hi, e⟩
      by_cases h : i < k
      · exact .inl ⟨i, h, e⟩
      · obtain rfl : i = k := by omega
        exact .inr e
theorem inB_more (g : Nat → Int) (x : Int) (k : Nat) (h : inB g x k = true) : ∀ m, k ≤ m → inB g x m = true := fun m hm => by
  obtain ⟨i, hi, e⟩ := (inB_iff g x k).1 h
  exact (inB_iff g x m).2 ⟨i, by omega, e⟩

set_option maxRecDepth 100000 in
theorem plainIn_any (p : Option Addr) (n cap : Nat) (g : Nat → Int) (x : Int) (h1 : n ≤ cap) (h2 : cap ≤ maxLen) (w : World) (HR : RowP w p 1 n (fun i => [.int .i64 (g i)])) :
    Calls Try.prog 84 #[.slice p n cap, .int .i64 x] w fun e w' => e = .returned (.bool (inB g x n)) ∧ w' = w := by
  unfold maxLen at h2
  replace HR := hid HR
  go_enter Try.func84, Try.ntmps84
  go_wp2_with fail
  go_loop [5] (fun i => ∃ k : Nat, k ≤ n ∧ i = .int .i64 (k : Int) ∧ inB g x k = false) (fun i => n - (intOf i).toNat)
  case atStart => exact ⟨0, by omega, rfl, rfl⟩
  case round =>
    obtain ⟨k, hk, rfl, hno⟩ := hrel
    replace hno := hid hno
    by_cases hlt : k < n
    · obtain ⟨b, o, rfl, R⟩ := HR.out.row (by omega)
      have z := R.at0 hlt (v := .int .i64 (g k)) rfl
      rw [Nat.mul_one] at z
      have st : inB g x (k + 1) = (inB g x k || (g k == x)) := rfl
      clear R
      by_cases he : g k = x
      · have yes := hid (inB_more g x (k + 1) (by rw [st, he]; simp) n (by omega))
        clear st
        have he' : (g k == x) = true := by simpa using he
        clear he
        go_wp2_with fail
        go_ret
        exact ⟨by rw [yes.out]; rfl, rfl⟩
      · have he' : (g k == x) = false := by simpa using he
        have no2 := hid (show inB g x (k + 1) = false by rw [st, hno.out, he']; rfl)
        clear st he
        go_wp2_with fail
        go_round
        case rel => exact ⟨k + 1, by omega, by go_num, no2.out⟩
        case measure => simp [intOf]; omega
    · obtain rfl : k = n := by omega
      go_wp2
      go_ret
      exact ⟨by rw [hno.out]; rfl, rfl⟩
end Go.Proofs.Ytgnnikjpnmalmaa
