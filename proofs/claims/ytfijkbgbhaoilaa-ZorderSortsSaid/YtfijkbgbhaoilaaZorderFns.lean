/-
  Package zorder: Join, Split, Level.
-/
import Derived.Test.YtfijkbgbhaoilaaZorder
import Derived.Test.YtfijkbgbhaoilaaShelf
namespace Go.Proofs.Ytfijkbgbhaoilaa
open Go.RowKit
set_option linter.unusedVariables false
set_option linter.unusedSimpArgs false

set_option maxRecDepth 100000 in
theorem join_nat (x y : Nat) (hx : x < 2 ^ 32) (hy : y < 2 ^ 32) (w : World) : Calls Try.prog 14 #[.int .u32 (x : Int), .int .u32 (y : Int)] w fun e w' => e = .returned (.int .u64 ((joinN x y : Nat) : Int)) ∧ Below w.heap.size w w' := by
  have K1 := hid (fun w => spread_nat x hx w)
  have K2 := hid (fun w => spread_nat y hy w)
  have h1 := spread_lt (n := x)
  have h2 := spread_lt (n := y)
  have e1 : bits .or .u64 (spreadN x : Int) (IntKind.u64.wrap ((spreadN y : Int) * 2)) = ((joinN x y : Nat) : Int) := by
    have := wrap_shl (spreadN y) 1
    rw [show ((2 ^ 1 : Nat) : Int) = 2 from by decide] at this
    rw [this, u64_or_nat _ _ (by omega) (by have := Nat.mod_lt (spreadN y <<< 1) (show 0 < 2 ^ 64 by decide); omega)]
    rfl
  generalize spreadN x = a at *
  generalize spreadN y = b at *
  generalize joinN x y = c at *
  go_enter Try.func14, Try.ntmps14
  go_wp2_with fail
  refine (K1.out _).mono ?_
  rintro e w1 ⟨rfl, hb1⟩
  replace hb1 := hid hb1
  go_wp2_with fail
  refine (K2.out _).mono ?_
  rintro e w2 ⟨rfl, hb2⟩
  have H2 := hid (below2 hb1.out hb2 hb1.out.size)
  clear hb2 hb1
  go_wp2
  go_ret
  exact ⟨rfl, H2.out⟩

/-- The greatest level of a cell with both places. -/
def levelN (a b : Nat) : Int := (64 - (Lib.bitLen (a ^^^ b) : Int)) / 2

set_option maxRecDepth 100000 in
theorem level_nat (a b : Nat) (ha : a < 2 ^ 64) (hb : b < 2 ^ 64) (w : World) : Calls Try.prog 15 #[.int .u64 (a : Int), .int .u64 (b : Int)] w fun e w' => e = .returned (.int .i64 (levelN a b)) ∧ Below w.heap.size w w' := by
  have e1 : bits .xor .u64 (a : Int) (b : Int) = ((a ^^^ b : Nat) : Int) := u64_xor_nat a b (by omega) (by omega)
  have h1 : a ^^^ b < 2 ^ 64 := Nat.xor_lt_two_pow ha hb
  unfold levelN
  generalize a ^^^ b = c at *
  have K := fun w => Try.bits_LeadingZeros64 (c : Int) w (by omega) (by omega)
  rw [Int.toNat_natCast] at K
  have l1 : Lib.bitLen c ≤ 64 := Lib.bitLen_le c 64 (by omega) (by omega)
  replace K := hid K
  generalize Lib.bitLen c = n at *
  have g0 : (0 : Int) ≤ 64 - (n : Int) := by omega
  have e2 : (64 - (n : Int)).tdiv 2 = (64 - (n : Int)) / 2 := Int.tdiv_eq_ediv_of_nonneg g0
  clear h1 ha hb
  go_enter Try.func15, Try.ntmps15
  go_wp2_with fail
  refine (K.out _).mono ?_
  rintro e w1 ⟨rfl, rfl⟩
  go_wp2
  go_ret
  exact ⟨rfl, Below.refl _ _⟩

theorem alive5 (w : World) : Calls Try.prog 5 #[] w fun e w' => e = .returned (.bool true) ∧ Below w.heap.size w w' := by
  have K1 := fun w => join_nat 1 1 (by decide) (by decide) w
  rw [show joinN 1 1 = 3 from by decide] at K1
  have K2 := fun w => level_nat 0 3 (by decide) (by decide) w
  rw [show levelN 0 3 = 31 from by decide] at K2
  replace K1 := hid K1
  replace K2 := hid K2
  go_enter Try.func5, Try.ntmps5
  go_wp2_with fail
  refine (K1.out _).mono ?_
  rintro e w1 ⟨rfl, hb1⟩
  replace hb1 := hid hb1
  go_wp2_with fail
  refine (K2.out _).mono ?_
  rintro e w2 ⟨rfl, hb2⟩
  have H2 := hid (below2 hb1.out hb2 hb1.out.size)
  clear hb2 hb1
  go_wp2
  go_ret
  exact ⟨by simp, H2.out⟩
end Go.Proofs.Ytfijkbgbhaoilaa
