/-
  Layer 27: of any three segments being better goes on; no segment is better than itself. The walk of VictimOrders.
-/
import Derived.Test.YtdlhkhfgannbbaaVictim
import Derived.Deep.DeepCutAuto
namespace Go.Proofs.Ytdlhkhfgannbbaa
open Go.RowKit
set_option linter.unusedVariables false

theorem alive27 (w : World) : Calls Try.prog 14 #[] w fun e w' => e = .returned (.bool true) ∧ Below w.heap.size w w' := by
  have K := fun w => better_any 8 8 2 3 5 3 (by decide) w
  rw [show betterB 8 2 3 5 3 = true from by decide] at K
  have M := fun w => better_any 8 8 5 3 2 3 (by decide) w
  rw [show betterB 8 5 3 2 3 = false from by decide] at M
  have HK := hid K
  have HM := hid M
  clear K M
  go_enter Try.func14, Try.ntmps14
  go_wp2_with fail
  refine (HK.out _).mono ?_
  rintro e w1 ⟨rfl, hb1⟩
  have H1 := hid hb1
  clear hb1
  go_wp2_with fail
  refine (HM.out _).mono ?_
  rintro e w2 ⟨rfl, hb2⟩
  have H2 := hid (below2 H1.out hb2 H1.out.size)
  clear hb2
  go_wp2
  go_ret
  exact ⟨by simp, H2.out⟩

set_option maxRecDepth 100000 in
set_option maxHeartbeats 8000000 in
theorem victimOrders (size l a l' a' l2 a2 : Int) (hs : -9223372036854775808 ≤ size) (hs' : size ≤ 9223372036854775807) (w : World) :
    Calls Try.prog 4 #[.int .i64 size, sg l a, sg l' a', sg l2 a2] w fun e w' => e = .returned (.bool true) ∧ Below w.heap.size w w' := by
  have t1 : -64 < size.tmod 64 ∧ size.tmod 64 < 64 := by
    have := Int.tmod_lt_of_pos size (b := 64) (by omega)
    have := Int.lt_tmod_of_pos size (b := 64) (by omega)
    omega
  generalize hz : size.tmod 64 = z at t1
  generalize hq : (1 + z % 64 : Int) = s
  have hq1 : 1 ≤ s ∧ s ≤ 64 := by omega
  have hn : nearI s 0 1024 = s := by unfold nearI; omega
  have K1 := fun w => better_any s s l a l a hn w
  rw [not_self] at K1
  have HK1 := hid K1
  have K2 := fun w => better_any s s l a l' a' hn w
  have K3 := fun w => better_any s s l' a' l a hn w
  have K4 := fun w => better_any s s l' a' l2 a2 hn w
  have K5 := fun w => better_any s s l a l2 a2 hn w
  have ways : (betterB s l a l' a' = true ∧ betterB s l' a' l a = false ∧ betterB s l' a' l2 a2 = true ∧ betterB s l a l2 a2 = true) ∨ (betterB s l a l' a' = true ∧ betterB s l' a' l a = false ∧ betterB s l' a' l2 a2 = false) ∨ betterB s l a l' a' = false := by
    cases h1 : betterB s l a l' a'
    · simp
    · have h2 := not_both h1
      cases h3 : betterB s l' a' l2 a2
      · simp [h2]
      · have h4 := goes_on hq1.1 (by omega) h1 h3
        simp [h2, h4]
  generalize betterB s l a l' a' = b1 at *
  generalize betterB s l' a' l a = b2 at *
  generalize betterB s l' a' l2 a2 = b3 at *
  generalize betterB s l a l2 a2 = b4 at *
  have HK2 := hid K2
  have HK3 := hid K3
  have HK4 := hid K4
  have HK5 := hid K5
  clear K1 K2 K3 K4 K5 hn
  have W := hid ways
  clear ways
  go_enter Try.func4, Try.ntmps4
  go_wp2_with fail
  refine (alive27 _).mono ?_
  rintro e w1 ⟨rfl, hb1⟩
  obtain ⟨B0, B1, B2, H⟩ := boxed3 hb1
  have q0 := fun u : Later w1 => u.blk B0
  have q1 := fun u : Later w1 => u.blk B1
  have q2 := fun u : Later w1 => u.blk B2
  have HB0 := hid B0
  have HB1 := hid B1
  have HB2 := hid B2
  have H1 := hid H
  clear hb1 H B0 B1 B2
  go_upto_region 4 with (fail)
  try simp only [hq]
  have W := W.out
  clear hz t1 hq
  rcases W with ⟨rfl, rfl, rfl, rfl⟩ | ⟨rfl, rfl, rfl⟩ | rfl
  all_goals
    refine wp_region_late_seq 15 ?_
    simp only [List.take_succ_cons, List.take_zero, List.drop_succ_cons, List.drop_zero]
    repeat (quiet_step ((go_at_call 16; first | (with_reducible exact late_call (HK1.out _)) | (with_reducible exact late_call (HK2.out _)) | (with_reducible exact late_call (HK3.out _)))))
    refine wpQuiet_nil ?_
    intro w3 h3'
    have h3 := late_out h3'
    clear h3' q0 q1 q2
    have q0 := fun u : Later w3 => u.blk (HB0.out.more h3)
    have q1 := fun u : Later w3 => u.blk (HB1.out.more h3)
    have q2 := fun u : Later w3 => u.blk (HB2.out.more h3)
    have H3 := hid (H1.out.trans (h3.mono H1.out.size))
    clear h3
    go_upto_region 6 with (fail)
    refine wp_region_late_seq 17 ?_
    simp only [List.take_succ_cons, List.take_zero, List.drop_succ_cons, List.drop_zero]
    repeat (quiet_step ((go_at_call 16; first | (with_reducible exact late_call (HK2.out _)) | (with_reducible exact late_call (HK4.out _)) | (with_reducible exact late_call (HK5.out _)))))
    refine wpQuiet_nil ?_
    intro w4 h4'
    have h4 := late_out h4'
    clear h4' q0 q1 q2
    go_wp2
    go_ret
    exact ⟨by simp, H3.out.trans (h4.mono H3.out.size)⟩
end Go.Proofs.Ytdlhkhfgannbbaa
