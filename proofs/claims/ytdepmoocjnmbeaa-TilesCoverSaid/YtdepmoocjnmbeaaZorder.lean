/-
  What the functions of package zorder come to.
-/
import Derived.Test.YtdepmoocjnmbeaaProg
import Derived.Test.YtdepmoocjnmbeaaRegion
import Derived.Test.YtdepmoocjnmbeaaZorderBits
import Derived.LoopTactic
namespace Go.Proofs.Ytdepmoocjnmbeaa
open Go.RowKit
set_option linter.unusedVariables false
set_option linter.unusedSimpArgs false

theorem steps_any (w : World) : Calls Try.prog 40 #[] w fun e w' => e = .returned (.agg #[.int .u64 281470681808895, .int .i64 16, .int .u64 71777214294589695, .int .i64 8, .int .u64 1085102592571150095, .int .i64 4, .int .u64 3689348814741910323, .int .i64 2, .int .u64 6148914691236517205, .int .i64 1]) ∧ Below w.heap.size w w' := by
  go_enter Try.func40, Try.ntmps40
  go_wp2
  go_returns
  exact ⟨rfl, by go_grown⟩
theorem ix0 (w : World) : (Instr.index 72 (.agg #[.int .u64 281470681808895, .int .i64 16, .int .u64 71777214294589695, .int .i64 8, .int .u64 1085102592571150095, .int .i64 4, .int .u64 3689348814741910323, .int .i64 2, .int .u64 6148914691236517205, .int .i64 1]) (.int .i64 0)).run Try.prog w = .ok (.agg #[.int .u64 281470681808895, .int .i64 16]) w := by kernel_rfl
theorem ix1 (w : World) : (Instr.index 72 (.agg #[.int .u64 281470681808895, .int .i64 16, .int .u64 71777214294589695, .int .i64 8, .int .u64 1085102592571150095, .int .i64 4, .int .u64 3689348814741910323, .int .i64 2, .int .u64 6148914691236517205, .int .i64 1]) (.int .i64 1)).run Try.prog w = .ok (.agg #[.int .u64 71777214294589695, .int .i64 8]) w := by kernel_rfl
theorem ix2 (w : World) : (Instr.index 72 (.agg #[.int .u64 281470681808895, .int .i64 16, .int .u64 71777214294589695, .int .i64 8, .int .u64 1085102592571150095, .int .i64 4, .int .u64 3689348814741910323, .int .i64 2, .int .u64 6148914691236517205, .int .i64 1]) (.int .i64 2)).run Try.prog w = .ok (.agg #[.int .u64 1085102592571150095, .int .i64 4]) w := by kernel_rfl
theorem ix3 (w : World) : (Instr.index 72 (.agg #[.int .u64 281470681808895, .int .i64 16, .int .u64 71777214294589695, .int .i64 8, .int .u64 1085102592571150095, .int .i64 4, .int .u64 3689348814741910323, .int .i64 2, .int .u64 6148914691236517205, .int .i64 1]) (.int .i64 3)).run Try.prog w = .ok (.agg #[.int .u64 3689348814741910323, .int .i64 2]) w := by kernel_rfl
theorem ix4 (w : World) : (Instr.index 72 (.agg #[.int .u64 281470681808895, .int .i64 16, .int .u64 71777214294589695, .int .i64 8, .int .u64 1085102592571150095, .int .i64 4, .int .u64 3689348814741910323, .int .i64 2, .int .u64 6148914691236517205, .int .i64 1]) (.int .i64 4)).run Try.prog w = .ok (.agg #[.int .u64 6148914691236517205, .int .i64 1]) w := by kernel_rfl

theorem wrap_shl (z h : Nat) : IntKind.u64.wrap ((z : Int) * ((2 ^ h : Nat) : Int)) = ((z <<< h % 2 ^ 64 : Nat) : Int) := by
  rw [IntKind.wrap_u64, Nat.shiftLeft_eq]
  omega
theorem stp_int {z h M : Nat} {K L : Int} (hK : K = ((2 ^ h : Nat) : Int)) (hL : L = (M : Int)) (hz : z < 2 ^ 64) (hM : M < 2 ^ 64) : bits .and .u64 (bits .or .u64 (z : Int) (IntKind.u64.wrap ((z : Int) * K))) L = ((stp z h M : Nat) : Int) := by
  subst hK hL
  have h1 : z <<< h % 2 ^ 64 < 2 ^ 64 := Nat.mod_lt _ (by decide)
  rw [wrap_shl, u64_or_nat _ _ (by omega) (by omega), u64_and_nat _ _ (Nat.lt_of_lt_of_eq (Nat.or_lt_two_pow hz h1) (by decide)) (by omega)]
  rfl
theorem bck_int {z h M : Nat} {K L : Int} (hK : K = ((2 ^ h : Nat) : Int)) (hL : L = (M : Int)) (hz : z < 2 ^ 64) (hM : M < 2 ^ 64) : bits .or .u64 (bits .and .u64 (z : Int) L) (bits .and .u64 (z : Int) L / K) = ((bck z h M : Nat) : Int) := by
  subst hK hL
  have h1 : z &&& M < 2 ^ 64 := Nat.lt_of_le_of_lt Nat.and_le_right hM
  have h2 : (z &&& M) / 2 ^ h < 2 ^ 64 := Nat.lt_of_le_of_lt (Nat.div_le_self _ _) h1
  rw [u64_and_nat _ _ (by omega) (by omega), ← Int.natCast_ediv, u64_or_nat _ _ (by omega) (by omega)]
  unfold bck
  rw [Nat.shiftRight_eq_div_pow]

set_option maxRecDepth 100000 in
set_option maxHeartbeats 4000000 in
theorem spread_nat (n : Nat) (hn : n < 2 ^ 32) (w : World) : Calls Try.prog 30 #[.int .u32 (n : Int)] w fun e w' => e = .returned (.int .u64 ((spreadN n : Nat) : Int)) ∧ Below w.heap.size w w' := by
  have j0 := ix0
  have j1 := ix1
  have j2 := ix2
  have j3 := ix3
  have j4 := ix4
  have l0 : n < 2 ^ 64 := by omega
  have e1 := stp_int (z := n) (h := 16) (M := 281470681808895) (K := 65536) (L := 281470681808895) (by decide) (by decide) l0 (by decide)
  have l1 : stp (n) 16 281470681808895 < 2 ^ 64 := stp_lt (by decide)
  have e2 := stp_int (z := (stp n 16 281470681808895)) (h := 8) (M := 71777214294589695) (K := 256) (L := 71777214294589695) (by decide) (by decide) l1 (by decide)
  have l2 : stp ((stp n 16 281470681808895)) 8 71777214294589695 < 2 ^ 64 := stp_lt (by decide)
  have e3 := stp_int (z := (stp (stp n 16 281470681808895) 8 71777214294589695)) (h := 4) (M := 1085102592571150095) (K := 16) (L := 1085102592571150095) (by decide) (by decide) l2 (by decide)
  have l3 : stp ((stp (stp n 16 281470681808895) 8 71777214294589695)) 4 1085102592571150095 < 2 ^ 64 := stp_lt (by decide)
  have e4 := stp_int (z := (stp (stp (stp n 16 281470681808895) 8 71777214294589695) 4 1085102592571150095)) (h := 2) (M := 3689348814741910323) (K := 4) (L := 3689348814741910323) (by decide) (by decide) l3 (by decide)
  have l4 : stp ((stp (stp (stp n 16 281470681808895) 8 71777214294589695) 4 1085102592571150095)) 2 3689348814741910323 < 2 ^ 64 := stp_lt (by decide)
  have e5 := stp_int (z := (stp (stp (stp (stp n 16 281470681808895) 8 71777214294589695) 4 1085102592571150095) 2 3689348814741910323)) (h := 1) (M := 6148914691236517205) (K := 2) (L := 6148914691236517205) (by decide) (by decide) l4 (by decide)
  have l5 : stp ((stp (stp (stp (stp n 16 281470681808895) 8 71777214294589695) 4 1085102592571150095) 2 3689348814741910323)) 1 6148914691236517205 < 2 ^ 64 := stp_lt (by decide)
  unfold spreadN
  generalize stp n 16 281470681808895 = z1 at *
  generalize stp z1 8 71777214294589695 = z2 at *
  generalize stp z2 4 1085102592571150095 = z3 at *
  generalize stp z3 2 3689348814741910323 = z4 at *
  generalize stp z4 1 6148914691236517205 = z5 at *
  have c1 : 0 ≤ (n : Int) ∧ (n : Int) ≤ 4294967295 := by omega
  clear l0 l1 l2 l3 l4 l5 hn
  go_enter Try.func30, Try.ntmps30
  go_wp2_with fail
  refine (steps_any _).mono ?_
  rintro e w1 ⟨rfl, hb1⟩
  have H1 := hid hb1
  clear hb1
  go_wp2_with fail
  refine wp_loop_rounds 6 ?_
  rw [rounds_succ]
  go_wp2_with fail
  generalize hW : World.alloc _ _ = W
  have B0 : Blk W w1.heap.size _ := hW ▸ Blk.new w1 _ _
  have q0 := fun u : Later W => u.blk B0
  have H2 := hid (show Below w.heap.size w W from hW ▸ Below.alloc H1.out H1.out.size _)
  clear hW B0
  refine wp_region_late 9 (by kernel_rfl) (by kernel_rfl) ?_
  simp only [List.take_succ_cons, List.take_zero, List.drop_succ_cons, List.drop_zero]
  repeat (quiet_step (fail))
  refine wpQuiet_nil ?_
  intro w2 g2
  replace g2 := late_out g2
  have H2 := hid (below2 H2.out g2 H2.out.size)
  clear q0 g2
  go_wp2_with fail
  rw [rounds_succ]
  go_wp2_with fail
  generalize hW : World.alloc _ _ = W
  have B0 : Blk W w2.heap.size _ := hW ▸ Blk.new w2 _ _
  have q0 := fun u : Later W => u.blk B0
  have H3 := hid (show Below w.heap.size w W from hW ▸ Below.alloc H2.out H2.out.size _)
  clear hW B0
  refine wp_region_late 9 (by kernel_rfl) (by kernel_rfl) ?_
  simp only [List.take_succ_cons, List.take_zero, List.drop_succ_cons, List.drop_zero]
  repeat (quiet_step (fail))
  refine wpQuiet_nil ?_
  intro w3 g2
  replace g2 := late_out g2
  have H3 := hid (below2 H3.out g2 H3.out.size)
  clear q0 g2
  go_wp2_with fail
  rw [rounds_succ]
  go_wp2_with fail
  generalize hW : World.alloc _ _ = W
  have B0 : Blk W w3.heap.size _ := hW ▸ Blk.new w3 _ _
  have q0 := fun u : Later W => u.blk B0
  have H4 := hid (show Below w.heap.size w W from hW ▸ Below.alloc H3.out H3.out.size _)
  clear hW B0
  refine wp_region_late 9 (by kernel_rfl) (by kernel_rfl) ?_
  simp only [List.take_succ_cons, List.take_zero, List.drop_succ_cons, List.drop_zero]
  repeat (quiet_step (fail))
  refine wpQuiet_nil ?_
  intro w4 g2
  replace g2 := late_out g2
  have H4 := hid (below2 H4.out g2 H4.out.size)
  clear q0 g2
  go_wp2_with fail
  rw [rounds_succ]
  go_wp2_with fail
  generalize hW : World.alloc _ _ = W
  have B0 : Blk W w4.heap.size _ := hW ▸ Blk.new w4 _ _
  have q0 := fun u : Later W => u.blk B0
  have H5 := hid (show Below w.heap.size w W from hW ▸ Below.alloc H4.out H4.out.size _)
  clear hW B0
  refine wp_region_late 9 (by kernel_rfl) (by kernel_rfl) ?_
  simp only [List.take_succ_cons, List.take_zero, List.drop_succ_cons, List.drop_zero]
  repeat (quiet_step (fail))
  refine wpQuiet_nil ?_
  intro w5 g2
  replace g2 := late_out g2
  have H5 := hid (below2 H5.out g2 H5.out.size)
  clear q0 g2
  go_wp2_with fail
  rw [rounds_succ]
  go_wp2_with fail
  generalize hW : World.alloc _ _ = W
  have B0 : Blk W w5.heap.size _ := hW ▸ Blk.new w5 _ _
  have q0 := fun u : Later W => u.blk B0
  have H6 := hid (show Below w.heap.size w W from hW ▸ Below.alloc H5.out H5.out.size _)
  clear hW B0
  refine wp_region_late 9 (by kernel_rfl) (by kernel_rfl) ?_
  simp only [List.take_succ_cons, List.take_zero, List.drop_succ_cons, List.drop_zero]
  repeat (quiet_step (fail))
  refine wpQuiet_nil ?_
  intro w6 g2
  replace g2 := late_out g2
  have H6 := hid (below2 H6.out g2 H6.out.size)
  clear q0 g2
  go_wp2_with fail
  rw [rounds_succ]
  go_wp2
  go_ret
  exact ⟨rfl, H6.out⟩

end Go.Proofs.Ytdepmoocjnmbeaa
