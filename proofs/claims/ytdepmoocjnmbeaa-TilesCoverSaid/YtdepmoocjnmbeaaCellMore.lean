/-
  More of package cell: a cell's window, and which quarter of it a place is in; the law's own side.
-/
import Derived.Test.YtdepmoocjnmbeaaCell
import Derived.LoopTactic
namespace Go.Proofs.Ytdepmoocjnmbeaa
open Go.RowKit
set_option linter.unusedVariables false

theorem or_floor {x L : Int} (hx : 0 ≤ x) (hx' : x ≤ 4294967295) (h : 0 ≤ L) (h' : L ≤ 32) : bits .or .u32 (floorI x L) (pw L - 1) = floorI x L + (pw L - 1) := by
  have b := pw_bd h h'
  have f := floor_bd hx hx' h h'
  rw [u32_or (floorI x L) (pw L - 1) f.1 (by omega) (by omega) (by omega)]
  have e : (pw L - 1).toNat = 2 ^ (32 - L).toNat - 1 := by unfold pw at *; omega
  have e2 : (floorI x L).toNat = (x.toNat / 2 ^ (32 - L).toNat) <<< (32 - L).toNat := by
    rw [Nat.shiftLeft_eq]
    have : floorI x L = ((x.toNat / 2 ^ (32 - L).toNat * 2 ^ (32 - L).toNat : Nat) : Int) := by
      unfold floorI pw
      have ex : ((x.toNat : Nat) : Int) = x := by omega
      rw [Int.natCast_mul, Int.natCast_ediv, ex]
    omega
  have k := Nat.two_pow_pos (32 - L).toNat
  rw [e, e2, ← Nat.shiftLeft_add_eq_or_of_lt (by omega), ← e2, ← e]
  omega

theorem pw_next {n : Int} (h : 0 ≤ n) (h' : n < 32) : pw n = 2 * pw (n + 1) := by
  unfold pw
  have e : (32 - n).toNat = (32 - (n + 1)).toNat + 1 := by omega
  rw [e, Nat.pow_succ]
  omega
theorem pw_last : pw 32 = 1 := by decide

theorem nat_bit (x j : Nat) : x &&& 2 ^ j = x / 2 ^ j % 2 * 2 ^ j := by
  have e : x / 2 ^ j % 2 * 2 ^ j = ((x >>> j) % 2 ^ 1) <<< j := by rw [Nat.shiftLeft_eq, Nat.shiftRight_eq_div_pow, Nat.pow_one]
  rw [e]
  apply Nat.eq_of_testBit_eq
  intro i
  rw [Nat.testBit_and, Nat.testBit_two_pow, Nat.testBit_shiftLeft, Nat.testBit_mod_two_pow, Nat.testBit_shiftRight]
  by_cases h : j = i
  · subst h; simp
  · by_cases h2 : j ≤ i
    · have h3 : ¬ i - j < 1 := by omega
      simp [h, h3]
    · simp [h, h2]

theorem and_bit {x n : Int} (hx : 0 ≤ x) (hx' : x ≤ 4294967295) (h : 0 ≤ n) (h' : n ≤ 32) : bits .and .u64 x (pw n) = x / pw n % 2 * pw n := by
  have b := pw_bd h h'
  rw [u64_and x (pw n) hx (by omega) (by omega) (by omega)]
  have e : (pw n).toNat = 2 ^ (32 - n).toNat := by unfold pw; exact Int.toNat_natCast _
  rw [e, nat_bit]
  unfold pw
  have ex : ((x.toNat : Nat) : Int) = x := by omega
  rw [Int.natCast_mul, Int.natCast_emod, Int.natCast_ediv, ex]
  rfl

/-- Which quarter. -/
def qI (n x y : Int) : Int := if n < 32 then x / pw (n + 1) % 2 + 2 * (y / pw (n + 1) % 2) else 0

set_option maxHeartbeats 2000000 in
theorem rectc_any (cx cy l : Int) (gx : 0 ≤ cx) (gx' : cx ≤ 4294967295) (gy : 0 ≤ cy) (gy' : cy ≤ 4294967295) (w : World) :
    Calls Try.prog 13 #[cl cx cy l] w fun e w' => e = .returned (.agg #[.int .u32 (floorI cx (lvl l)), .int .u32 (floorI cy (lvl l)), .int .u32 (floorI cx (lvl l) + (pw (lvl l) - 1)), .int .u32 (floorI cy (lvl l) + (pw (lvl l) - 1))]) ∧ Below w.heap.size w w' := by
  have K := hid (fun w => taken_any cx cy l gx gx' gy gy' w)
  have bl := lvl_bd l
  have S := hid (fun w => side_any (lvl l) bl.1 bl.2 w)
  have e1 := or_floor gx gx' bl.1 bl.2
  have e2 := or_floor gy gy' bl.1 bl.2
  have pb := pw_bd bl.1 bl.2
  generalize floorI cx (lvl l) = X at *
  generalize floorI cy (lvl l) = Y at *
  generalize lvl l = L at *
  generalize pw L = P at *
  have m3 : IntKind.u64.wrap (P - 1) = P - 1 := IntWalk.u64_in _ (by omega)
  have m4 : IntKind.u32.wrap (P - 1) = P - 1 := IntWalk.u32_in _ (by omega)
  generalize X + (P - 1) = X1 at *
  generalize Y + (P - 1) = Y1 at *
  go_enter Try.func13, Try.ntmps13
  go_wp2_with fail
  refine (K.out _).mono ?_
  rintro e w1 ⟨rfl, hb1⟩
  obtain ⟨B0, B1, H⟩ := boxed2 hb1
  have HB0 := hid B0
  have HB1 := hid B1
  obtain ⟨l0, k0, f0⟩ := B0
  have H1 := hid H
  clear hb1 H B1
  go_wp2_with fail
  have B := ((HB0.out.set 0 (.int .u32 X) (by simp)).set 1 (.int .u32 Y) (by simp)).set 2 (.int .i64 L) (by simp)
  have C := ((HB1.out.other ⟨w.heap.size, 0, none⟩ (by simp) (.int .u32 X)).other ⟨w.heap.size, 1, none⟩ (by simp) (.int .u32 Y)).other ⟨w.heap.size, 2, none⟩ (by simp) (.int .i64 L)
  have D := Below.setCell (p := ⟨w.heap.size, 2, none⟩) (Below.setCell (p := ⟨w.heap.size, 1, none⟩) (Below.setCell (p := ⟨w.heap.size, 0, none⟩) H1.out (Nat.le_refl _) (.int .u32 X)) (Nat.le_refl _) (.int .u32 Y)) (Nat.le_refl _) (.int .i64 L)
  generalize hW : World.setCell _ _ _ = W
  have B0 : Blk W w.heap.size #[.int .u32 X, .int .u32 Y, .int .i64 L] := by rw [← hW]; exact B
  have B1 : Blk W (w.heap.size + 1) #[.int .u32 0, .int .u32 0, .int .u32 0, .int .u32 0] := by rw [← hW]; exact C
  have H2 : Below w.heap.size w W := by rw [← hW]; exact D
  have H2 := hid H2
  clear hW B C D l0 k0 f0 HB0 HB1 H1
  obtain ⟨l0, k0, f0⟩ := B0
  obtain ⟨l1, k1, f1⟩ := B1
  refine (S.out _).mono ?_
  rintro e w2 ⟨rfl, rfl⟩
  go_wp2
  refine bodyPost_ret (v := .agg #[.int .u32 X, .int .u32 Y, .int .u32 X1, .int .u32 Y1]) (by simp [results, Try.results13, go_sem, k1]) rfl ⟨rfl, ?_⟩
  exact Below.setCell (Below.setCell (Below.setCell (Below.setCell H2.out (by simp) _) (by simp) _) (by simp) _) (by simp) _
end Go.Proofs.Ytdepmoocjnmbeaa
