/-
  Layer 5: both are joined bit by bit, and split again; of two places the least cell with both is told. The walk of ZorderTells.
-/
import Derived.Test.YtohdhbamdeenlaaZorderTells
namespace Go.Proofs.Ytohdhbamdeenlaa
open Go.RowKit
set_option linter.unusedVariables false
set_option linter.unusedSimpArgs false

theorem floor_nat2 {x : Nat} {L : Int} : floorI (x : Int) L = ((x / 2 ^ (32 - L).toNat * 2 ^ (32 - L).toNat : Nat) : Int) := by
  unfold floorI pw
  rw [Int.natCast_mul, Int.natCast_ediv]

theorem same_cell {P Q U V n : Nat} (hP : P < 2 ^ 32) (hQ : Q < 2 ^ 32) (hU : U < 2 ^ 32) (hV : V < 2 ^ 32) (hn : n < 32) :
    eq3 (floorI (P : Int) ((n : Int) + 1)) (floorI (Q : Int) ((n : Int) + 1)) ((n : Int) + 1) (floorI (U : Int) ((n : Int) + 1)) (floorI (V : Int) ((n : Int) + 1)) ((n : Int) + 1) = true ↔ joinN P Q / 2 ^ (2 * (31 - n)) = joinN U V / 2 ^ (2 * (31 - n)) := by
  rw [join_div hP hQ, join_div hU hV, join_inj (pow_div hP _) (pow_div hQ _) (pow_div hU _) (pow_div hV _)]
  unfold eq3
  rw [floor_nat2, floor_nat2, floor_nat2, floor_nat2, show (32 - ((n : Int) + 1)).toNat = 31 - n by omega]
  have k0 := Nat.two_pow_pos (31 - n)
  have hw : ∀ a b : Nat, ((a * 2 ^ (31 - n) : Nat) : Int) = ((b * 2 ^ (31 - n) : Nat) : Int) ↔ a = b := fun a b => ⟨fun h => Nat.eq_of_mul_eq_mul_right k0 (Int.ofNat_inj.1 h), fun h => by rw [h]⟩
  simp only [Bool.and_eq_true, decide_eq_true_eq, hw, and_true]

set_option maxRecDepth 100000 in
set_option maxHeartbeats 16000000 in
theorem zorderTells_nat (X Y Z A : Nat) (hX : X < 2 ^ 32) (hY : Y < 2 ^ 32) (hZ : Z < 2 ^ 64) (hA : A < 2 ^ 64) (w : World) :
    Calls Try.prog 9 #[.int .u32 (X : Int), .int .u32 (Y : Int), .int .u64 (Z : Int), .int .u64 (A : Int)] w fun e w' => e = .returned (.bool true) ∧ Below w.heap.size w w' := by
  have ST := hid (fun m (hm : 1 ≤ m) => row_step (X := X) (Y := Y) (m := m) hX hY hm)
  have KZ := fun w => split_nat Z hZ w
  have KA := fun w => split_nat A hA w
  have jl := join_lt (x := X) (y := Y)
  have KJ := fun w => split_nat (joinN X Y) jl w
  have gj := gather_join hX hY
  rw [gj.1, gj.2] at KJ
  have JZ := join_gather hZ
  have JA := join_gather hA
  have bP := gather_lt (z := Z)
  have bQ := gather_lt (z := Z >>> 1)
  have bU := gather_lt (z := A)
  have bV := gather_lt (z := A >>> 1)
  have KX := fun w => join_nat X Y hX hY w
  have KL := fun w => level_nat Z A hZ hA w
  generalize gatherN (Z >>> 1) = Q at *
  generalize gatherN (A >>> 1) = V at *
  generalize gatherN Z = P at *
  generalize gatherN A = U at *
  have KQ := fun w => join_nat P Q bP bQ w
  rw [JZ] at KQ
  have E := fun n (hn : n < 32) => same_cell (n := n) bP bQ bU bV hn
  rw [JZ, JA] at E
  have AP := hid (fun n (hn : n < 32) w => by
    have := at_any (P : Int) (Q : Int) (((n : Nat) : Int) + 1) (by omega) (by omega) (by omega) (by omega) w
    rwa [show lvl ((n : Int) + 1) = (n : Int) + 1 by unfold lvl; omega] at this)
  have AU := hid (fun n (hn : n < 32) w => by
    have := at_any (U : Int) (V : Int) (((n : Nat) : Int) + 1) (by omega) (by omega) (by omega) (by omega) w
    rwa [show lvl ((n : Int) + 1) = (n : Int) + 1 by unfold lvl; omega] at this)
  have LV := hid (fun n (hn : n ≤ 32) => level_of (Z := Z) (A := A) (n := n) hZ hA hn)
  have hz0 : Z / 2 ^ (2 * (32 - 0)) = A / 2 ^ (2 * (32 - 0)) := by rw [Nat.div_eq_of_lt (by omega), Nat.div_eq_of_lt (by omega)]
  have e32 : joinN (X / 2 ^ 32) (Y / 2 ^ 32) = 0 := by rw [Nat.div_eq_of_lt hX, Nat.div_eq_of_lt hY]; decide
  replace E := hid E
  replace KZ := hid KZ
  replace KA := hid KA
  replace KJ := hid KJ
  replace KX := hid KX
  replace KL := hid KL
  replace KQ := hid KQ
  replace hz0 := hid hz0
  replace e32 := hid e32
  clear gj JZ JA jl bP bQ bU bV
  have cX : 0 ≤ (X : Int) ∧ (X : Int) ≤ 4294967295 := by omega
  have cY : 0 ≤ (Y : Int) ∧ (Y : Int) ≤ 4294967295 := by omega
  clear hX hY hZ hA
  go_enter Try.func9, Try.ntmps9
  go_wp2_with fail
  refine (alive5 _).mono ?_
  rintro e w1 ⟨rfl, hb1⟩
  replace hb1 := hid hb1
  go_wp2_with fail
  go_loop [9, 10] (fun j i => ∃ m : Nat, m ≤ 32 ∧ i = .int .i64 ((m : Int) - 1) ∧ j = .int .u64 ((joinN (X / 2 ^ m) (Y / 2 ^ m) : Nat) : Int)) (fun _ i => (intOf i + 1).toNat)
  case atStart => exact ⟨32, by omega, rfl, by rw [e32.out]; rfl⟩
  case round =>
    obtain ⟨m, hm, rfl, rfl⟩ := hrel
    by_cases hlt : 1 ≤ m
    · have g1 : 0 ≤ (m : Int) - 1 := by omega
      have g2 : (m : Int) - 1 < 32 := by omega
      have SE := hid (ST.out m hlt)
      go_wp2_with fail
      go_round
      case rel => exact ⟨m - 1, by omega, by rw [show ((m - 1 : Nat) : Int) = (m : Int) - 1 by omega], by rw [SE.out]⟩
      case measure => simp [intOf]; omega
    · have hm0 : m = 0 := by omega
      subst hm0
      simp only [Nat.pow_zero, Nat.div_one]
      generalize joinN X Y = J at *
      go_wp2_with fail
      refine (KZ.out _).mono ?_
      rintro e w2 ⟨rfl, hb2⟩
      have H2 := hid (below2 hb1.out hb2 hb1.out.size)
      clear hb2 hb1
      go_wp2_with fail
      refine (KA.out _).mono ?_
      rintro e w3 ⟨rfl, hb3⟩
      have H3 := hid (below2 H2.out hb3 H2.out.size)
      clear hb3 H2
      go_wp2_with fail
      go_loopw [15] (fun s wr => ∃ n : Nat, n ≤ 32 ∧ s = .int .i64 (n : Int) ∧ Hid (Z / 2 ^ (2 * (32 - n)) = A / 2 ^ (2 * (32 - n))) ∧ Below w.heap.size w wr) (fun s _ => 32 - (intOf s).toNat)
      case atStart => exact ⟨0, by omega, rfl, hz0, H3.out⟩
      case round =>
        obtain ⟨n, hn, rfl, hEq, HB⟩ := hrel
        replace HB := hid HB
        by_cases hn2 : n < 32
        · have EN := hid (E.out n hn2)
          have AN := hid (AP.out n hn2)
          have UN := hid (AU.out n hn2)
          generalize floorI (P : Int) ((n : Int) + 1) = p1 at *
          generalize floorI (Q : Int) ((n : Int) + 1) = q1 at *
          generalize floorI (U : Int) ((n : Int) + 1) = u1 at *
          generalize floorI (V : Int) ((n : Int) + 1) = v1 at *
          go_wp2_with fail
          refine (AN.out _).mono ?_
          rintro e w4 ⟨rfl, hb4⟩
          have H4 := hid (below2 HB.out hb4 HB.out.size)
          clear hb4
          go_wp2_with fail
          refine (UN.out _).mono ?_
          rintro e w5 ⟨rfl, hb5⟩
          have H5 := hid (below2 H4.out hb5 H4.out.size)
          clear hb5 H4
          cases hq : eq3 p1 q1 ((n : Int) + 1) u1 v1 ((n : Int) + 1)
          · have hne : Z / 2 ^ (2 * (31 - n)) ≠ A / 2 ^ (2 * (31 - n)) := fun h => by
              have := EN.out.2 h
              rw [hq] at this; cases this
            have KLn := fun w => KL.out w
            rw [LV.out n hn hEq.out (fun _ => hne)] at KLn
            replace KLn := hid KLn
            clear hne
            go_wp2_with fail
            refine (KJ.out _).mono ?_
            rintro e w6 ⟨rfl, hb6⟩
            have H6 := hid (below2 H5.out hb6 H5.out.size)
            clear hb6
            go_wp2_with fail
            refine (KX.out _).mono ?_
            rintro e w7 ⟨rfl, hb7⟩
            have H7 := hid (below2 H6.out hb7 H6.out.size)
            clear hb7 H6
            go_wp2_with fail
            refine (KQ.out _).mono ?_
            rintro e w8 ⟨rfl, hb8⟩
            have H8 := hid (below2 H7.out hb8 H7.out.size)
            clear hb8 H7
            go_wp2_with fail
            refine (KLn.out _).mono ?_
            rintro e w9 ⟨rfl, hb9⟩
            have H9 := hid (below2 H8.out hb9 H8.out.size)
            clear hb9 H8
            go_wp2
            go_ret
            exact ⟨by simp, H9.out⟩
          · have hEq2 : Hid (Z / 2 ^ (2 * (32 - (n + 1))) = A / 2 ^ (2 * (32 - (n + 1)))) := hid (by
              have := EN.out.1 hq
              rwa [show 31 - n = 32 - (n + 1) by omega] at this)
            go_wp2_with fail
            go_roundw
            case rel => exact ⟨n + 1, by omega, by go_num, hEq2, H5.out⟩
            case measure => simp [intOf]; omega
        · have hn3 : n = 32 := by omega
          subst hn3
          have KLn := fun w => KL.out w
          rw [LV.out 32 (by omega) hEq.out (fun h => absurd h (by omega))] at KLn
          replace KLn := hid KLn
          go_wp2_with fail
          refine (KJ.out _).mono ?_
          rintro e w6 ⟨rfl, hb6⟩
          have H6 := hid (below2 HB.out hb6 HB.out.size)
          clear hb6
          go_wp2_with fail
          refine (KX.out _).mono ?_
          rintro e w7 ⟨rfl, hb7⟩
          have H7 := hid (below2 H6.out hb7 H6.out.size)
          clear hb7 H6
          go_wp2_with fail
          refine (KQ.out _).mono ?_
          rintro e w8 ⟨rfl, hb8⟩
          have H8 := hid (below2 H7.out hb8 H7.out.size)
          clear hb8 H7
          go_wp2_with fail
          refine (KLn.out _).mono ?_
          rintro e w9 ⟨rfl, hb9⟩
          have H9 := hid (below2 H8.out hb9 H8.out.size)
          clear hb9 H8
          go_wp2
          go_ret
          exact ⟨by simp, H9.out⟩

theorem zorderTells (x y z a : Int) (hx : 0 ≤ x) (hx' : x ≤ 4294967295) (hy : 0 ≤ y) (hy' : y ≤ 4294967295) (hz : 0 ≤ z) (hz' : z ≤ 18446744073709551615) (ha : 0 ≤ a) (ha' : a ≤ 18446744073709551615) (w : World) :
    Calls Try.prog 9 #[.int .u32 x, .int .u32 y, .int .u64 z, .int .u64 a] w fun e w' => e = .returned (.bool true) ∧ Below w.heap.size w w' := by
  obtain ⟨X, rfl⟩ := Int.eq_ofNat_of_zero_le hx
  obtain ⟨Y, rfl⟩ := Int.eq_ofNat_of_zero_le hy
  obtain ⟨Z, rfl⟩ := Int.eq_ofNat_of_zero_le hz
  obtain ⟨A, rfl⟩ := Int.eq_ofNat_of_zero_le ha
  exact zorderTells_nat X Y Z A (by omega) (by omega) (by omega) (by omega) w
end Go.Proofs.Ytohdhbamdeenlaa
