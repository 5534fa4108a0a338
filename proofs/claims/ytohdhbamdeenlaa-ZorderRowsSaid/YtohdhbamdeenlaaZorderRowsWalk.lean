/-
  Layer 5: a cell's places are side by side in the row. The walk of ZorderRows.
-/
import Derived.Test.YtohdhbamdeenlaaZorderRows
namespace Go.Proofs.Ytohdhbamdeenlaa
open Go.RowKit
set_option linter.unusedVariables false
set_option linter.unusedSimpArgs false

theorem pw_nat (L : Int) : pw L = ((2 ^ (32 - L).toNat : Nat) : Int) := rfl
theorem floor_nat {x : Nat} {L : Int} : floorI (x : Int) L = ((x / 2 ^ (32 - L).toNat * 2 ^ (32 - L).toNat : Nat) : Int) := by
  unfold floorI pw
  rw [Int.natCast_mul, Int.natCast_ediv]

set_option maxRecDepth 100000 in
set_option maxHeartbeats 8000000 in
theorem zorderRows (x y l u v : Int) (hx : 0 ≤ x) (hx' : x ≤ 4294967295) (hy : 0 ≤ y) (hy' : y ≤ 4294967295) (hu : 0 ≤ u) (hu' : u ≤ 4294967295) (hv : 0 ≤ v) (hv' : v ≤ 4294967295) (w : World) :
    Calls Try.prog 10 #[.int .u32 x, .int .u32 y, .int .i64 l, .int .u32 u, .int .u32 v] w fun e w' => e = .returned (.bool true) ∧ Below w.heap.size w w' := by
  obtain ⟨X, rfl⟩ := Int.eq_ofNat_of_zero_le hx
  obtain ⟨Y, rfl⟩ := Int.eq_ofNat_of_zero_le hy
  obtain ⟨U, rfl⟩ := Int.eq_ofNat_of_zero_le hu
  obtain ⟨V, rfl⟩ := Int.eq_ofNat_of_zero_le hv
  have bl := lvl_bd l
  have tX := floor_top hx' bl.1 bl.2
  have tY := floor_top hy' bl.1 bl.2
  have KA := fun w => at_any (X : Int) (Y : Int) l hx hx' hy hy' w
  have fX := floor_bd hx hx' bl.1 bl.2
  have fY := floor_bd hy hy' bl.1 bl.2
  have KR := fun w => rectc_any (floorI X (lvl l)) (floorI Y (lvl l)) (lvl l) fX.1 (by omega) fY.1 (by omega) w
  have KH := fun w => has_any (floorI X (lvl l)) (floorI Y (lvl l)) (lvl l) (U : Int) (V : Int) hu hu' hv hv' fX.1 (by omega) fY.1 (by omega) w
  have hh := hasb_iff (floorI X (lvl l)) (floorI Y (lvl l)) (lvl l) (U : Int) (V : Int)
  rw [lvl_idem, floor_self bl.1 bl.2, floor_self bl.1 bl.2] at KR hh
  rw [floor_nat, floor_nat] at hh
  rw [pw_nat] at KR tX tY
  rw [floor_nat] at tX tY
  simp only [floor_nat] at KA KR KH hh
  have k0 := Nat.two_pow_pos (32 - lvl l).toNat
  have R := row_of (q := X / 2 ^ (32 - lvl l).toNat) (r := Y / 2 ^ (32 - lvl l).toNat) (k := (32 - lvl l).toNat) (u := U) (v := V) (by omega) (by omega) (by omega) (by omega)
  have hw : ∀ a b : Nat, a * 2 ^ (32 - lvl l).toNat = b * 2 ^ (32 - lvl l).toNat ↔ a = b := fun a b => ⟨fun h => Nat.eq_of_mul_eq_mul_right k0 h, fun h => by rw [h]⟩
  have hh2 : hasB ((X / 2 ^ (32 - lvl l).toNat * 2 ^ (32 - lvl l).toNat : Nat) : Int) ((Y / 2 ^ (32 - lvl l).toNat * 2 ^ (32 - lvl l).toNat : Nat) : Int) (lvl l) (U : Int) (V : Int) = true ↔ (U / 2 ^ (32 - lvl l).toNat = X / 2 ^ (32 - lvl l).toNat ∧ V / 2 ^ (32 - lvl l).toNat = Y / 2 ^ (32 - lvl l).toNat) := by
    rw [hh, Int.ofNat_inj, Int.ofNat_inj, hw, hw]
  rw [R] at hh2
  clear hh hw R
  have cast1 : ∀ a : Nat, (a : Int) + (((2 ^ (32 - lvl l).toNat : Nat) : Int) - 1) = ((a + (2 ^ (32 - lvl l).toNat - 1) : Nat) : Int) := fun a => by omega
  rw [cast1, cast1] at KR
  have bA : X / 2 ^ (32 - lvl l).toNat * 2 ^ (32 - lvl l).toNat + (2 ^ (32 - lvl l).toNat - 1) < 2 ^ 32 := by omega
  have bB : Y / 2 ^ (32 - lvl l).toNat * 2 ^ (32 - lvl l).toNat + (2 ^ (32 - lvl l).toNat - 1) < 2 ^ 32 := by omega
  clear cast1 tX tY fX fY
  generalize X / 2 ^ (32 - lvl l).toNat * 2 ^ (32 - lvl l).toNat = A0 at *
  generalize Y / 2 ^ (32 - lvl l).toNat * 2 ^ (32 - lvl l).toNat = B0 at *
  have J1 := fun w => join_nat A0 B0 (by omega) (by omega) w
  have J3 := fun w => join_nat U V (by omega) (by omega) w
  generalize A0 + (2 ^ (32 - lvl l).toNat - 1) = A1 at *
  generalize B0 + (2 ^ (32 - lvl l).toNat - 1) = B1 at *
  have J2 := fun w => join_nat A1 B1 bA bB w
  generalize joinN A0 B0 = a at *
  generalize joinN A1 B1 = b at *
  generalize joinN U V = z at *
  generalize hasB (A0 : Int) (B0 : Int) (lvl l) (U : Int) (V : Int) = hb at *
  generalize lvl l = L at *
  have ways : (hb = true ∧ a ≤ z ∧ z ≤ b) ∨ (hb = false ∧ decide (a ≤ z) = false) ∨ (hb = false ∧ a ≤ z ∧ decide (z ≤ b) = false) := by
    cases hb
    · by_cases h1 : a ≤ z
      · by_cases h2 : z ≤ b
        · exact absurd (hh2.2 ⟨h1, h2⟩) (by simp)
        · exact .inr (.inr ⟨rfl, h1, decide_eq_false h2⟩)
      · exact .inr (.inl ⟨rfl, decide_eq_false h1⟩)
    · exact .inl ⟨rfl, hh2.1 rfl⟩
  replace KA := hid KA
  replace KR := hid KR
  replace KH := hid KH
  replace J1 := hid J1
  replace J2 := hid J2
  replace J3 := hid J3
  clear hh2 k0 bA bB hx hx' hy hy' hu hu' hv hv'
  rcases ways with ⟨rfl, g1, g2⟩ | ⟨rfl, g1⟩ | ⟨rfl, g1, g2⟩
  all_goals
    go_enter Try.func10, Try.ntmps10
    go_wp2_with fail
    refine (alive5 _).mono ?_
    rintro e w1 ⟨rfl, hb1⟩
    replace hb1 := hid hb1
    go_wp2_with fail
    refine (KA.out _).mono ?_
    rintro e w2 ⟨rfl, hb2⟩
    have H2 := hid (below2 hb1.out hb2 hb1.out.size)
    clear hb2 hb1
    go_wp2_with fail
    refine (KR.out _).mono ?_
    rintro e w3 ⟨rfl, hb3⟩
    obtain ⟨C3, hb3⟩ := boxed1 hb3
    have H3 := hid (below2 H2.out hb3 H2.out.size)
    replace C3 := hid C3
    clear hb3 H2
    go_wp2_with fail
    generalize hW : World.alloc _ _ = W
    have R4 := hid (hW ▸ Blk.new w3 _ _ : Blk W w3.heap.size _)
    have C4 := hid (show Blk W w2.heap.size _ from hW ▸ C3.out.alloc _)
    have H4 := hid (show Below w.heap.size w W from hW ▸ Below.alloc H3.out H3.out.size _)
    have q0 := fun u : Later W => u.blk R4.out
    clear hW C3 H3
    refine wp_region_late 13 (by kernel_rfl) (by kernel_rfl) ?_
    simp only [List.take_succ_cons, List.take_zero, List.drop_succ_cons, List.drop_zero]
    repeat (quiet_step (first
      | (go_at_call 43; (with_reducible exact late_call (J1.out _)))
      | (go_at_call 43; (with_reducible exact late_call (J2.out _)))
      | (go_at_call 43; (with_reducible exact late_call (J3.out _)))))
    refine wpQuiet_nil ?_
    intro w5 h5
    replace h5 := late_out h5
    have C5 := hid (C4.out.more h5)
    have H5 := hid (below2 H4.out h5 H4.out.size)
    clear q0 R4 C4 H4 h5
    obtain ⟨l5, k5, f5⟩ := C5.out
    go_wp2_with fail
    refine (KH.out _).mono ?_
    rintro e w6 ⟨rfl, hb6⟩
    have H6 := hid (below2 H5.out hb6 H5.out.size)
    clear hb6 H5 C5 l5 k5 f5
    go_wp2
    go_ret
    exact ⟨by simp, H6.out⟩
end Go.Proofs.Ytohdhbamdeenlaa
