/-
  The library's stable sort, at points: swapRange, rotate.
-/
import Derived.Test.YtfijkbgbhaoilaaStRow
namespace Go.Proofs.Ytfijkbgbhaoilaa
open Go.RowKit
set_option linter.unusedVariables false
set_option linter.unusedSimpArgs false

set_option maxRecDepth 100000 in
set_option maxHeartbeats 4000000 in
theorem swapRange_any (base b n cap i j m : Nat) (F : Nat → Pt) (g : Nat → Nat) (hij : i + m ≤ j) (hj : j + m ≤ n) (hsm : n ≤ 144115188075855872) (cv : Value) (w : World) (H : StR w base b n cap F g) :
    Calls Try.prog 39 #[.slice (some ⟨b, 0, none⟩) n cap, .int .i64 (i : Int), .int .i64 (j : Int), .int .i64 (m : Int), cv] w fun e w' => e = .returned (.tuple #[]) ∧ ∃ h, Swr g h i j m ∧ StR w' base b n cap F h ∧ Sole (fun k => k = b) w w' := by
  have HH := hid H
  have hsh := hid (show i + m ≤ j ∧ j + m ≤ n ∧ n ≤ 144115188075855872 from ⟨hij, hj, hsm⟩)
  clear H hij hj hsm
  go_enter Try.func39, Try.ntmps39
  go_wp2_with fail
  go_loopw [10] (fun v wr => ∃ (k : Nat) (h : Nat → Nat), v = .int .i64 (k : Int) ∧ k ≤ m ∧ Swr g h i j k ∧ StR wr base b n cap F h ∧ Sole (fun k => k = b) w wr) (fun v _ => m - (intOf v).toNat)
  case atStart => exact ⟨0, g, rfl, Nat.zero_le _, Swr.zero g i j, HH.out, Sole.refl _ _⟩
  case round =>
    obtain ⟨k, h, rfl, hk, R, H, S⟩ := hrel
    have Rh := hid R
    have Sh := hid S
    have Hh := hid H
    clear R S HH
    by_cases hlt : k < m
    · have hlt1 : (k : Int) < (m : Int) := by omega
      obtain ⟨s1, s2, s3⟩ := hsh.out
      obtain ⟨p, hp⟩ : ∃ p, p = i + k := ⟨_, rfl⟩
      obtain ⟨q, hq⟩ : ∃ q, q = j + k := ⟨_, rfl⟩
      have hwp : IntKind.i64.wrap ((i : Int) + (k : Int)) = (p : Int) := by rw [hp]; rw [IntKind.wrap_i64]; omega
      have hwq : IntKind.i64.wrap ((j : Int) + (k : Int)) = (q : Int) := by rw [hq]; rw [IntKind.wrap_i64]; omega
      have hp0 : (0 : Int) ≤ (p : Int) := by omega
      have hq0 : (0 : Int) ≤ (q : Int) := by omega
      have hpn : (p : Int) < (n : Int) := by omega
      have hqn : (q : Int) < (n : Int) := by omega
      have hn63 : (n : Int) ≤ 9223372036854775807 := by omega
      have a1 : p * 4 ≠ q * 4 := by omega
      obtain ⟨c1, c2, cells⟩ := H.row
      obtain ⟨z0, z1, z2, z3⟩ := cells p (by omega)
      obtain ⟨y0, y1, y2, y3⟩ := cells q (by omega)
      have fz := H.frz (by omega)
      have hO := hid (H.swap p q (by omega) (by omega)).drew
      have hS := hid (Sh.out.trans (sole_swap wr b p q (F (h q)) (F (h p)))).drew
      have hR := hid (show Swr g (swp2 h p q) i j (k + 1) by rw [hp, hq]; exact Rh.out.step s1 hlt)
      have hkm := hid (show k + 1 ≤ m from hlt)
      have hkb : (k : Int) ≤ 144115188075855872 := by omega
      replace hp := hid hp
      replace hq := hid hq
      replace c1 := hid c1
      replace c2 := hid c2
      clear s1 s2 s3 cells H Hh Rh Sh
      generalize F (h p) = X at *
      generalize F (h q) = Y at *
      go_wp2_with fail
      go_region
      go_wp2_with fail
      go_roundw
      case rel => exact ⟨k + 1, swp2 h p q, by go_num, hkm.out, hR.out, hO.out, hS.out⟩
      case measure => have := hkm.out; simp [intOf]; omega
    · have hlt1 : ¬ (k : Int) < (m : Int) := by omega
      obtain rfl : k = m := by omega
      clear H
      go_wp2
      go_end0
      exact ⟨rfl, h, Rh.out, Hh.out, Sh.out⟩
end Go.Proofs.Ytfijkbgbhaoilaa
