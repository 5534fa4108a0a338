/-
  What the first functions of package poly come to: which way it goes, of three places.
-/
import Derived.Test.YtahdhgaoofpefaaProg
import Derived.Test.YtahdhgaoofpefaaCmp
import Derived.Test.YtahdhgaoofpefaaAid
import Derived.Test.YtahdhgaoofpefaaRegion
namespace Go.Proofs.Ytahdhgaoofpefaa
open Go.RowKit
set_option linter.unusedVariables false
set_option linter.unusedSimpArgs false

def sgnI (n : Int) : Int := cmpI n 0
def sizeI (n : Int) : Int := max n (-n)

theorem sgn_sign (n : Int) : sgnI n = n.sign := by
  unfold sgnI cmpI
  by_cases h1 : n < 0
  · rw [if_pos h1, Int.sign_eq_neg_one_of_neg h1]
  · by_cases h2 : 0 < n
    · rw [if_neg h1, if_pos h2, Int.sign_eq_one_of_pos h2]
    · have : n = 0 := by omega
      subst this; rfl
theorem sgn_mul (a b : Int) : sgnI a * sgnI b = sgnI (a * b) := by rw [sgn_sign, sgn_sign, sgn_sign, Int.sign_mul]
theorem size_abs (n : Int) : sizeI n = (n.natAbs : Int) := by unfold sizeI; omega
theorem size_mul (a b : Int) : sizeI a * sizeI b = sizeI (a * b) := by rw [size_abs, size_abs, size_abs, Int.natAbs_mul, Int.natCast_mul]
theorem sgn_cases (p : Int) : (sgnI p = -1 ∧ p < 0) ∨ (sgnI p = 0 ∧ p = 0) ∨ (sgnI p = 1 ∧ 0 < p) := by
  unfold sgnI cmpI; split <;> (try split) <;> omega
theorem cmp_apart {p q : Int} (h : sgnI p ≠ sgnI q) : cmpI (sgnI p) (sgnI q) = cmpI p q := by
  rcases sgn_cases p with ⟨e1, h1⟩ | ⟨e1, h1⟩ | ⟨e1, h1⟩ <;> rcases sgn_cases q with ⟨e2, h2⟩ | ⟨e2, h2⟩ | ⟨e2, h2⟩ <;> rw [e1, e2] at h ⊢ <;> first | (exfalso; exact h rfl) | (unfold cmpI; split <;> split <;> (try split) <;> (try split) <;> omega)
theorem cmp_same {p q : Int} (h : sgnI p = sgnI q) : sgnI p * cmpI (sizeI p) (sizeI q) = cmpI p q := by
  rcases sgn_cases p with ⟨e1, h1⟩ | ⟨e1, h1⟩ | ⟨e1, h1⟩ <;> rcases sgn_cases q with ⟨e2, h2⟩ | ⟨e2, h2⟩ | ⟨e2, h2⟩ <;> rw [e1, e2] at h <;> first | (exfalso; omega) | skip
  all_goals
    rw [e1]
    unfold cmpI sizeI
    split <;> (try split) <;> (try split) <;> (try split) <;> omega

theorem compare_int64 (a b : Int) (w : World) :
    Calls Try.prog 64 #[.int .i64 a, .int .i64 b] w fun e w' => e = .returned (.int .i64 (cmpI a b)) ∧ w' = w := by
  have ways : (a < b ∧ cmpI a b = -1) ∨ (¬ a < b ∧ b < a ∧ cmpI a b = 1) ∨ (¬ a < b ∧ ¬ b < a ∧ cmpI a b = 0) := by unfold cmpI; split <;> (try split) <;> omega
  rcases ways with ⟨h1, e⟩ | ⟨h1, h2, e⟩ | ⟨h1, h2, e⟩
  all_goals
    rw [e]
    clear e
    go_enter Try.func64, Try.ntmps64
    go_wp2
    go_ret
    exact ⟨rfl, rfl⟩
theorem compare_int (a b : Int) (w : World) :
    Calls Try.prog 37 #[.int .i64 a, .int .i64 b] w fun e w' => e = .returned (.int .i64 (cmpI a b)) ∧ w' = w := by
  have ways : (a < b ∧ cmpI a b = -1) ∨ (¬ a < b ∧ b < a ∧ cmpI a b = 1) ∨ (¬ a < b ∧ ¬ b < a ∧ cmpI a b = 0) := by unfold cmpI; split <;> (try split) <;> omega
  rcases ways with ⟨h1, e⟩ | ⟨h1, h2, e⟩ | ⟨h1, h2, e⟩
  all_goals
    rw [e]
    clear e
    go_enter Try.func37, Try.ntmps37
    go_wp2
    go_ret
    exact ⟨rfl, rfl⟩
theorem compare_uint64 (a b : Int) (w : World) :
    Calls Try.prog 38 #[.int .u64 a, .int .u64 b] w fun e w' => e = .returned (.int .i64 (cmpI a b)) ∧ w' = w := by
  have ways : (a < b ∧ cmpI a b = -1) ∨ (¬ a < b ∧ b < a ∧ cmpI a b = 1) ∨ (¬ a < b ∧ ¬ b < a ∧ cmpI a b = 0) := by unfold cmpI; split <;> (try split) <;> omega
  rcases ways with ⟨h1, e⟩ | ⟨h1, h2, e⟩ | ⟨h1, h2, e⟩
  all_goals
    rw [e]
    clear e
    go_enter Try.func38, Try.ntmps38
    go_wp2
    go_ret
    exact ⟨rfl, rfl⟩

theorem sign_any (a : Int) (w : World) :
    Calls Try.prog 59 #[.int .i64 a] w fun e w' => e = .returned (.int .i64 (sgnI a)) ∧ w' = w := by
  have K := hid (fun w => compare_int64 a 0 w)
  unfold sgnI
  generalize cmpI a 0 = r at *
  go_enter Try.func59, Try.ntmps59
  go_wp2_with fail
  refine (K.out _).mono ?_
  rintro e w1 ⟨rfl, rfl⟩
  go_wp2
  go_ret
  exact ⟨rfl, rfl⟩
theorem size_any (a : Int) (h : -4294967296 ≤ a) (h' : a ≤ 4294967296) (w : World) :
    Calls Try.prog 60 #[.int .i64 a] w fun e w' => e = .returned (.int .u64 (sizeI a)) ∧ w' = w := by
  have m1 : IntKind.i64.wrap (-a) = -a := IntWalk.i64_in _ (by omega)
  have m2 : IntKind.u64.wrap (max a (-a)) = max a (-a) := IntWalk.u64_in _ (by omega)
  unfold sizeI
  go_enter Try.func60, Try.ntmps60
  go_wp2
  go_ret
  exact ⟨rfl, rfl⟩
theorem papart_any (a b : Int) (ha : 0 ≤ a) (ha' : a ≤ 4294967295) (hb : 0 ≤ b) (hb' : b ≤ 4294967295) (w : World) :
    Calls Try.prog 54 #[.int .u32 a, .int .u32 b] w fun e w' => e = .returned (.int .i64 (b - a)) ∧ w' = w := by
  go_enter Try.func54, Try.ntmps54
  go_wp2
  go_ret
  exact ⟨rfl, rfl⟩

theorem sgn_bd (n : Int) : -1 ≤ sgnI n ∧ sgnI n ≤ 1 := by rcases sgn_cases n with ⟨e, _⟩ | ⟨e, _⟩ | ⟨e, _⟩ <;> omega
theorem prod_in {a b : Int} (h : -4294967295 ≤ a) (h' : a ≤ 4294967295) (g : -4294967295 ≤ b) (g' : b ≤ 4294967295) : 0 ≤ sizeI (a * b) ∧ sizeI (a * b) ≤ 18446744065119617025 := by
  rw [← size_mul]
  have e1 : 0 ≤ sizeI a ∧ sizeI a ≤ 4294967295 := by unfold sizeI; omega
  have e2 : 0 ≤ sizeI b ∧ sizeI b ≤ 4294967295 := by unfold sizeI; omega
  exact ⟨Int.mul_nonneg e1.1 e2.1, by have := Int.mul_le_mul e1.2 e2.2 e2.1 (by omega); omega⟩

set_option maxHeartbeats 2000000 in
theorem products_any (a b c d : Int) (ha : -4294967295 ≤ a) (ha' : a ≤ 4294967295) (hb : -4294967295 ≤ b) (hb' : b ≤ 4294967295) (hc : -4294967295 ≤ c) (hc' : c ≤ 4294967295) (hd : -4294967295 ≤ d) (hd' : d ≤ 4294967295) (w : World) :
    Calls Try.prog 53 #[.int .i64 a, .int .i64 b, .int .i64 c, .int .i64 d] w fun e w' => e = .returned (.int .i64 (cmpI (a * b) (c * d))) ∧ w' = w := by
  have K1 := hid (fun w => sign_any a w)
  have K2 := hid (fun w => sign_any b w)
  have K3 := hid (fun w => sign_any c w)
  have K4 := hid (fun w => sign_any d w)
  have Z1 := hid (fun w => size_any a (by omega) (by omega) w)
  have Z2 := hid (fun w => size_any b (by omega) (by omega) w)
  have Z3 := hid (fun w => size_any c (by omega) (by omega) w)
  have Z4 := hid (fun w => size_any d (by omega) (by omega) w)
  have CI := hid (fun w => compare_int (sgnI (a * b)) (sgnI (c * d)) w)
  have CU := hid (fun w => compare_uint64 (sizeI (a * b)) (sizeI (c * d)) w)
  have b1 := sgn_bd (a * b)
  have b2 := sgn_bd (c * d)
  have m1 : IntKind.i64.wrap (sgnI a * sgnI b) = sgnI (a * b) := by rw [sgn_mul]; exact IntWalk.i64_in _ (by omega)
  have m2 : IntKind.i64.wrap (sgnI c * sgnI d) = sgnI (c * d) := by rw [sgn_mul]; exact IntWalk.i64_in _ (by omega)
  have i1 := prod_in ha ha' hb hb'
  have i2 := prod_in hc hc' hd hd'
  have m3 : IntKind.u64.wrap (sizeI a * sizeI b) = sizeI (a * b) := by rw [size_mul]; exact IntWalk.u64_in _ (by omega)
  have m4 : IntKind.u64.wrap (sizeI c * sizeI d) = sizeI (c * d) := by rw [size_mul]; exact IntWalk.u64_in _ (by omega)
  have ways : ((sgnI (a * b) != sgnI (c * d)) = true ∧ cmpI (sgnI (a * b)) (sgnI (c * d)) = cmpI (a * b) (c * d)) ∨
      ((sgnI (a * b) != sgnI (c * d)) = false ∧ IntKind.i64.wrap (sgnI (a * b) * cmpI (sizeI (a * b)) (sizeI (c * d))) = cmpI (a * b) (c * d)) := by
    by_cases h : sgnI (a * b) = sgnI (c * d)
    · refine .inr ⟨by simp [h], ?_⟩
      rw [cmp_same h]
      exact IntWalk.i64_in _ (by unfold cmpI; split <;> (try split) <;> omega)
    · exact .inl ⟨by simpa using h, cmp_apart h⟩
  clear i1 i2 b1 b2
  generalize sgnI (a * b) = s at *
  generalize sgnI (c * d) = t at *
  generalize cmpI (a * b) (c * d) = r at *
  generalize sizeI (a * b) = P at *
  generalize sizeI (c * d) = Q at *
  generalize cmpI P Q = pq at *
  generalize cmpI s t = st at *
  generalize sgnI a = s1 at *
  generalize sgnI b = s2 at *
  generalize sgnI c = s3 at *
  generalize sgnI d = s4 at *
  generalize sizeI a = z1 at *
  generalize sizeI b = z2 at *
  generalize sizeI c = z3 at *
  generalize sizeI d = z4 at *
  rcases ways with ⟨g, rfl⟩ | ⟨g, e⟩
  · go_enter Try.func53, Try.ntmps53
    go_wp2_with fail
    refine (K1.out _).mono ?_
    rintro e w1 ⟨rfl, rfl⟩
    go_wp2_with fail
    refine (K2.out _).mono ?_
    rintro e w1 ⟨rfl, rfl⟩
    go_wp2_with fail
    refine (K3.out _).mono ?_
    rintro e w1 ⟨rfl, rfl⟩
    go_wp2_with fail
    refine (K4.out _).mono ?_
    rintro e w1 ⟨rfl, rfl⟩
    go_wp2_with fail
    refine (CI.out _).mono ?_
    rintro e w1 ⟨rfl, rfl⟩
    go_wp2
    go_ret
    exact ⟨rfl, rfl⟩
  · go_enter Try.func53, Try.ntmps53
    go_wp2_with fail
    refine (K1.out _).mono ?_
    rintro e w1 ⟨rfl, rfl⟩
    go_wp2_with fail
    refine (K2.out _).mono ?_
    rintro e w1 ⟨rfl, rfl⟩
    go_wp2_with fail
    refine (K3.out _).mono ?_
    rintro e w1 ⟨rfl, rfl⟩
    go_wp2_with fail
    refine (K4.out _).mono ?_
    rintro e w1 ⟨rfl, rfl⟩
    go_wp2_with fail
    refine (Z1.out _).mono ?_
    rintro e w1 ⟨rfl, rfl⟩
    go_wp2_with fail
    refine (Z2.out _).mono ?_
    rintro e w1 ⟨rfl, rfl⟩
    go_wp2_with fail
    refine (Z3.out _).mono ?_
    rintro e w1 ⟨rfl, rfl⟩
    go_wp2_with fail
    refine (Z4.out _).mono ?_
    rintro e w1 ⟨rfl, rfl⟩
    go_wp2_with fail
    refine (CU.out _).mono ?_
    rintro e w1 ⟨rfl, rfl⟩
    go_wp2
    go_ret
    exact ⟨rfl, rfl⟩
end Go.Proofs.Ytahdhgaoofpefaa
