/-
  Package zorder: Join, with what it draws. (Written by wip/tools/genzgrw.py.)
-/
import Derived.Test.YtdepmoocjnmbeaaZorder
import Derived.Test.YtdepmoocjnmbeaaGrw
namespace Go.Proofs.Ytdepmoocjnmbeaa
open Go.RowKit
set_option linter.unusedVariables false
set_option linter.unusedSimpArgs false

theorem stepsg_any (w : World) : Calls Try.prog 40 #[] w fun e w' => e = .returned (.agg #[.int .u64 281470681808895, .int .i64 16, .int .u64 71777214294589695, .int .i64 8, .int .u64 1085102592571150095, .int .i64 4, .int .u64 3689348814741910323, .int .i64 2, .int .u64 6148914691236517205, .int .i64 1]) ∧ Grw w w' := by
  go_enter Try.func40, Try.ntmps40
  go_wp2
  go_returns
  exact ⟨rfl, ⟨by go_grown, Nat.le_refl _⟩⟩
set_option maxRecDepth 100000 in
set_option maxHeartbeats 4000000 in
theorem spreadg_nat (n : Nat) (hn : n < 2 ^ 32) (w : World) : Calls Try.prog 30 #[.int .u32 (n : Int)] w fun e w' => e = .returned (.int .u64 ((spreadN n : Nat) : Int)) ∧ Grw w w' := by
  have j0 := ix0
  have j1 := ix1
  have j2 := ix2
  have j3 := ix3
  have j4 := ix4
  have l0 : n < 2 ^ 64 := by omega
  have e1 := stp_int (z := n) (h := 16) (M := 281470681808895) (K := 65536) (L := 281470681808895) (by decide) (by decide) l0 (by decide)
  have l1 : stp (n) 16 281470681808895 < 2 ^ 64 := stp_lt (by decide)
  have e2 := stp_int (z := (stp n 16 281470681808895)) (h := 8) (M := 71777214294589695) (K := 256) (L := 71777214294589695) (by decide) (by decide) l1 (by decide)
  have l2 : stp ((stp n 16 281470681808895)) 8 71777214294589695 < 2 ^ 64 := stp_lt (by decide)
  have e3 := stp_int (z := (stp (stp n 16 281470681808895) 8 71777214294589695)) (h := 4) (M := 1085102592571150095) (K := 16) (L := 1085102592571150095) (by decide) (by decide) l2 (by decide)
  have l3 : stp ((stp (stp n 16 281470681808895) 8 71777214294589695)) 4 1085102592571150095 < 2 ^ 64 := stp_lt (by decide)
  have e4 := stp_int (z := (stp (stp (stp n 16 281470681808895) 8 71777214294589695) 4 1085102592571150095)) (h := 2) (M := 3689348814741910323) (K := 4) (L := 3689348814741910323) (by decide) (by decide) l3 (by decide)
  have l4 : stp ((stp (stp (stp n 16 281470681808895) 8 71777214294589695) 4 1085102592571150095)) 2 3689348814741910323 < 2 ^ 64 := stp_lt (by decide)
  have e5 := stp_int (z := (stp (stp (stp (stp n 16 281470681808895) 8 71777214294589695) 4 1085102592571150095) 2 3689348814741910323)) (h := 1) (M := 6148914691236517205) (K := 2) (L := 6148914691236517205) (by decide) (by decide) l4 (by decide)
  have l5 : stp ((stp (stp (stp (stp n 16 281470681808895) 8 71777214294589695) 4 1085102592571150095) 2 3689348814741910323)) 1 6148914691236517205 < 2 ^ 64 := stp_lt (by decide)
  unfold spreadN
  generalize stp n 16 281470681808895 = z1 at *
  generalize stp z1 8 71777214294589695 = z2 at *
  generalize stp z2 4 1085102592571150095 = z3 at *
  generalize stp z3 2 3689348814741910323 = z4 at *
  generalize stp z4 1 6148914691236517205 = z5 at *
  have c1 : 0 ≤ (n : Int) ∧ (n : Int) ≤ 4294967295 := by omega
  clear l0 l1 l2 l3 l4 l5 hn
  go_enter Try.func30, Try.ntmps30
  go_wp2_with fail
  refine (stepsg_any _).mono ?_
  rintro e w1 ⟨rfl, hb1⟩
  have H1 := hid hb1
  clear hb1
  go_wp2_with fail
  refine wp_loop_rounds 6 ?_
  rw [rounds_succ]
  go_wp2_with fail
  generalize hW : World.alloc _ _ = W
  have B0 : Blk W w1.heap.size _ := hW ▸ Blk.new w1 _ _
  have q0 := fun u : LaterG W => u.blk B0
  have H2 := hid (show Grw w W from hW ▸ Grw.alloc H1.out _)
  clear hW B0
  refine wp_region_lateg 9 (by kernel_rfl) (by kernel_rfl) ?_
  simp only [List.take_succ_cons, List.take_zero, List.drop_succ_cons, List.drop_zero]
  repeat (quiet_step (fail))
  refine wpQuiet_nil ?_
  intro w2 g2
  replace g2 := lateg_out g2
  have H2 := hid (Grw.trans H2.out g2)
  clear q0 g2
  go_wp2_with fail
  rw [rounds_succ]
  go_wp2_with fail
  generalize hW : World.alloc _ _ = W
  have B0 : Blk W w2.heap.size _ := hW ▸ Blk.new w2 _ _
  have q0 := fun u : LaterG W => u.blk B0
  have H3 := hid (show Grw w W from hW ▸ Grw.alloc H2.out _)
  clear hW B0
  refine wp_region_lateg 9 (by kernel_rfl) (by kernel_rfl) ?_
  simp only [List.take_succ_cons, List.take_zero, List.drop_succ_cons, List.drop_zero]
  repeat (quiet_step (fail))
  refine wpQuiet_nil ?_
  intro w3 g2
  replace g2 := lateg_out g2
  have H3 := hid (Grw.trans H3.out g2)
  clear q0 g2
  go_wp2_with fail
  rw [rounds_succ]
  go_wp2_with fail
  generalize hW : World.alloc _ _ = W
  have B0 : Blk W w3.heap.size _ := hW ▸ Blk.new w3 _ _
  have q0 := fun u : LaterG W => u.blk B0
  have H4 := hid (show Grw w W from hW ▸ Grw.alloc H3.out _)
  clear hW B0
  refine wp_region_lateg 9 (by kernel_rfl) (by kernel_rfl) ?_
  simp only [List.take_succ_cons, List.take_zero, List.drop_succ_cons, List.drop_zero]
  repeat (quiet_step (fail))
  refine wpQuiet_nil ?_
  intro w4 g2
  replace g2 := lateg_out g2
  have H4 := hid (Grw.trans H4.out g2)
  clear q0 g2
  go_wp2_with fail
  rw [rounds_succ]
  go_wp2_with fail
  generalize hW : World.alloc _ _ = W
  have B0 : Blk W w4.heap.size _ := hW ▸ Blk.new w4 _ _
  have q0 := fun u : LaterG W => u.blk B0
  have H5 := hid (show Grw w W from hW ▸ Grw.alloc H4.out _)
  clear hW B0
  refine wp_region_lateg 9 (by kernel_rfl) (by kernel_rfl) ?_
  simp only [List.take_succ_cons, List.take_zero, List.drop_succ_cons, List.drop_zero]
  repeat (quiet_step (fail))
  refine wpQuiet_nil ?_
  intro w5 g2
  replace g2 := lateg_out g2
  have H5 := hid (Grw.trans H5.out g2)
  clear q0 g2
  go_wp2_with fail
  rw [rounds_succ]
  go_wp2_with fail
  generalize hW : World.alloc _ _ = W
  have B0 : Blk W w5.heap.size _ := hW ▸ Blk.new w5 _ _
  have q0 := fun u : LaterG W => u.blk B0
  have H6 := hid (show Grw w W from hW ▸ Grw.alloc H5.out _)
  clear hW B0
  refine wp_region_lateg 9 (by kernel_rfl) (by kernel_rfl) ?_
  simp only [List.take_succ_cons, List.take_zero, List.drop_succ_cons, List.drop_zero]
  repeat (quiet_step (fail))
  refine wpQuiet_nil ?_
  intro w6 g2
  replace g2 := lateg_out g2
  have H6 := hid (Grw.trans H6.out g2)
  clear q0 g2
  go_wp2_with fail
  rw [rounds_succ]
  go_wp2
  go_ret
  exact ⟨rfl, H6.out⟩

set_option maxRecDepth 100000 in
theorem joing_nat (x y : Nat) (hx : x < 2 ^ 32) (hy : y < 2 ^ 32) (w : World) : Calls Try.prog 17 #[.int .u32 (x : Int), .int .u32 (y : Int)] w fun e w' => e = .returned (.int .u64 ((joinN x y : Nat) : Int)) ∧ Grw w w' := by
  have K1 := hid (fun w => spreadg_nat x hx w)
  have K2 := hid (fun w => spreadg_nat y hy w)
  have h1 := spread_lt (n := x)
  have h2 := spread_lt (n := y)
  have e1 : bits .or .u64 (spreadN x : Int) (IntKind.u64.wrap ((spreadN y : Int) * 2)) = ((joinN x y : Nat) : Int) := by
    have := wrap_shl (spreadN y) 1
    rw [show ((2 ^ 1 : Nat) : Int) = 2 from by decide] at this
    rw [this, u64_or_nat _ _ (by omega) (by have := Nat.mod_lt (spreadN y <<< 1) (show 0 < 2 ^ 64 by decide); omega)]
    rfl
  generalize spreadN x = a at *
  generalize spreadN y = b at *
  generalize joinN x y = c at *
  go_enter Try.func17, Try.ntmps17
  go_wp2_with fail
  refine (K1.out _).mono ?_
  rintro e w1 ⟨rfl, hb1⟩
  replace hb1 := hid hb1
  go_wp2_with fail
  refine (K2.out _).mono ?_
  rintro e w2 ⟨rfl, hb2⟩
  have H2 := hid (Grw.trans hb1.out hb2)
  clear hb2 hb1
  go_wp2
  go_ret
  exact ⟨rfl, H2.out⟩

end Go.Proofs.Ytdepmoocjnmbeaa
