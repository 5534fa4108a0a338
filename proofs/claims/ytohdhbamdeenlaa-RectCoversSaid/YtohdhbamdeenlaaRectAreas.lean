/-
  Layer 6: how many places a window has; cut in two it has as many as both. The walk of RectAreas.
-/
import Derived.Test.YtohdhbamdeenlaaRect
namespace Go.Proofs.Ytohdhbamdeenlaa
open Go.RowKit
set_option linter.unusedVariables false

theorem alive6 (w : World) : Calls Try.prog 45 #[] w fun e w' => e = .returned (.bool true) ∧ Below w.heap.size w w' := by
  have K := fun w => area_any 0 0 1 1 (by omega) (by omega) (by omega) (by omega) (by omega) (by omega) (by omega) (by omega) w
  rw [show areaI 0 0 1 1 = 4 from by decide, show areaB 0 0 1 1 = true from by decide] at K
  have M := fun w => empty_any 1 0 0 0 w
  rw [show emptyB 1 0 0 0 = true from by decide] at M
  have HK := hid K
  have HM := hid M
  clear K M
  go_enter Try.func45, Try.ntmps45
  go_wp2_with fail
  refine (HK.out _).mono ?_
  rintro e w1 ⟨rfl, hb1⟩
  have H1 := hid hb1
  clear hb1
  go_wp2_with fail
  refine (HM.out _).mono ?_
  rintro e w2 ⟨rfl, hb2⟩
  have H2 := hid (below2 H1.out hb2 H1.out.size)
  clear hb2
  go_wp2
  go_ret
  exact ⟨by simp, H2.out⟩

theorem mul_lt {p q : Int} (hp : 1 ≤ p) (hp' : p ≤ 4294967296) (hq : 1 ≤ q) (hq' : q ≤ 4294967296) : 1 ≤ p * q ∧ p * q ≤ 18446744073709551616 ∧ (p * q = 18446744073709551616 → p = 4294967296 ∧ q = 4294967296) ∧ (p ≤ 4294967295 → p * q ≤ 18446744069414584320) := by
  have h1 : 1 * 1 ≤ p * q := Int.mul_le_mul hp hq (by omega) (by omega)
  have h2 : p * q ≤ 4294967296 * 4294967296 := Int.mul_le_mul hp' hq' (by omega) (by omega)
  refine ⟨by omega, by omega, fun h => ?_, fun h => ?_⟩
  · by_cases e1 : p = 4294967296
    · subst e1; omega
    · exfalso
      have : p * q ≤ 4294967295 * 4294967296 := Int.mul_le_mul (by omega) hq' (by omega) (by omega)
      omega
  · have : p * q ≤ 4294967295 * 4294967296 := Int.mul_le_mul h hq' (by omega) (by omega)
    omega

/-- Of a window that has places: how many, and whether they fit. -/
theorem area_some {a b c d : Int} (ha : 0 ≤ a) (hb : 0 ≤ b) (hc' : c ≤ 4294967295) (hd' : d ≤ 4294967295) (h1 : a ≤ c) (h2 : b ≤ d) :
    areaI a b c d = ((c - a + 1) * (d - b + 1)) % 18446744073709551616 ∧ areaB a b c d = !(eq4 a b c d 0 0 4294967295 4294967295) := by
  have hn : emptyB a b c d = false := by simp [emptyB]; omega
  refine ⟨by simp [areaI, hn], ?_⟩
  obtain ⟨m1, m2, m3, _⟩ := mul_lt (p := c - a + 1) (q := d - b + 1) (by omega) (by omega) (by omega) (by omega)
  unfold areaB
  rw [hn, Bool.false_or]
  by_cases hw : a = 0 ∧ b = 0 ∧ c = 4294967295 ∧ d = 4294967295
  · obtain ⟨rfl, rfl, rfl, rfl⟩ := hw
    rfl
  · have e : eq4 a b c d 0 0 4294967295 4294967295 = false := by
      simp only [eq4, Bool.and_eq_false_iff, decide_eq_false_iff_not]; omega
    rw [e]
    have : (c - a + 1) * (d - b + 1) < 18446744073709551616 := by
      rcases Int.lt_or_eq_of_le m2 with h | h
      · exact h
      · have := m3 h; omega
    rw [Int.emod_eq_of_lt (by omega) this]
    simp; omega
theorem area_none {a b c d : Int} (h : c < a ∨ d < b) : areaI a b c d = 0 ∧ areaB a b c d = true := by
  have hn : emptyB a b c d = true := by simp [emptyB]; exact h
  exact ⟨by simp [areaI, hn], by simp [areaB, hn]⟩

theorem cut_sum (a b c d x : Int) (ha : 0 ≤ a) (hb : 0 ≤ b) (hc' : c ≤ 4294967295) (hd' : d ≤ 4294967295) (h1 : a ≤ x) (h2 : x < c) (h3 : b ≤ d) :
    IntKind.u64.wrap (areaI a b x d + areaI (x + 1) b c d) = areaI a b c d := by
  rw [(area_some ha hb (by omega) hd' h1 h3).1, (area_some (by omega) hb hc' hd' (by omega) h3).1, (area_some ha hb hc' hd' (by omega) h3).1]
  have e : (c - a + 1) * (d - b + 1) = (x - a + 1) * (d - b + 1) + (c - (x + 1) + 1) * (d - b + 1) := by
    rw [← Int.add_mul]; congr 1; omega
  rw [e, IntKind.wrap_u64]
  generalize (x - a + 1) * (d - b + 1) = p
  generalize (c - (x + 1) + 1) * (d - b + 1) = q
  omega

end Go.Proofs.Ytohdhbamdeenlaa
