/-
  package pool: of a pool that nobody made.
-/
import Derived.Test.YtahdhgaoofpefaaPoolNew
namespace Go.Proofs.Ytahdhgaoofpefaa
open Go.RowKit Go.Conc
set_option linter.unusedVariables false
set_option linter.unusedSimpArgs false

theorem putNil (n : Int) (w : World) : Calls Try.prog 12 #[.pointer none, .int .i64 n] w fun e w' => e = .returned (.bool false) ∧ w' = w := by
  go_enter Try.func12, Try.ntmps12
  go_wp2
  go_ret
  exact ⟨rfl, rfl⟩
theorem takeNil (w : World) : Calls Try.prog 13 #[.pointer none] w fun e w' => e = .returned (.tuple #[.int .i64 0, .bool false]) ∧ w' = w := by
  go_enter Try.func13, Try.ntmps13
  go_wp2
  go_ret2
  exact ⟨rfl, rfl⟩
theorem lenNil (w : World) : Calls Try.prog 17 #[.pointer none] w fun e w' => e = .returned (.int .i64 0) ∧ w' = w := by
  go_enter Try.func17, Try.ntmps17
  go_wp2
  go_ret
  exact ⟨rfl, rfl⟩
theorem allNil (w : World) : Calls Try.prog 16 #[.pointer none] w fun e w' => e = .returned (.slice none 0 0) ∧ w' = w := by
  go_enter Try.func16, Try.ntmps16
  go_wp2
  go_step3
  go_wp2
  try rw [Exit.noGoto_ret]
  go_ret
  exact ⟨rfl, rfl⟩
theorem cloneNil (w : World) : Calls Try.prog 14 #[.pointer none] w fun e w' => e = .returned (.pointer none) ∧ w' = w := by
  go_enter Try.func14, Try.ntmps14
  go_wp2
  go_ret
  exact ⟨rfl, rfl⟩

theorem putZero (p : Nat) (n : Int) (w : World) (B : Blk w p #[.chan none]) : Calls Try.prog 12 #[.pointer (some ⟨p, 0, none⟩), .int .i64 n] w fun e w' => e = .returned (.bool false) ∧ w' = w := by
  obtain ⟨lb, kb, fb⟩ := B
  go_enter Try.func12, Try.ntmps12
  go_upto_region 5 with (fail)
  refine wp_region_comm rfl rfl (cases := #[scaseNil (.int .i64 n) (.int .i64 0)]) (blocking := false) (shape := .select) (v := .tuple #[.int .i64 (-1), .bool false]) (by simp [go_sem, execOp, scaseNil, Act.eval]) (fun fr cs es h => by have := step_lone_select_send_nil h; simpa [goInt] using this) ?_
  go_wp2_with fail
  go_ret
  exact ⟨rfl, rfl⟩
theorem takeZero (p : Nat) (w : World) (B : Blk w p #[.chan none]) : Calls Try.prog 13 #[.pointer (some ⟨p, 0, none⟩)] w fun e w' => e = .returned (.tuple #[.int .i64 0, .bool false]) ∧ w' = w := by
  obtain ⟨lb, kb, fb⟩ := B
  go_enter Try.func13, Try.ntmps13
  go_upto_region 4 with (fail)
  refine wp_region_comm rfl rfl (cases := #[rcaseNil (.int .i64 0)]) (blocking := false) (shape := .select) (v := .tuple #[.int .i64 (-1), .bool false, .int .i64 0]) (by simp [go_sem, execOp, rcaseNil, Act.eval]) (fun fr cs es h => by have := step_lone_select_recv_nil h; simpa [goInt] using this) ?_
  go_wp2_with fail
  go_ret2
  exact ⟨rfl, rfl⟩
theorem run_len_nochan (w : World) : (Builtin.len_ #[37] 3 #[.chan none]).run Try.prog w = .ok (.int .i64 0) w := by
  simp [Builtin.len_, run_underlying Try.underlying37, goInt]
theorem lenZero (p : Nat) (w : World) (B : Blk w p #[.chan none]) : Calls Try.prog 17 #[.pointer (some ⟨p, 0, none⟩)] w fun e w' => e = .returned (.int .i64 0) ∧ w' = w := by
  obtain ⟨lb, kb, fb⟩ := B
  have hL := run_len_nochan
  go_enter Try.func17, Try.ntmps17
  go_wp2
  go_ret
  exact ⟨rfl, rfl⟩
set_option maxRecDepth 100000 in
theorem allZero (p : Nat) (w : World) (B : Blk w p #[.chan none]) : Calls Try.prog 16 #[.pointer (some ⟨p, 0, none⟩)] w fun e w' => e = .returned (.slice none 0 0) ∧ w' = w := by
  obtain ⟨lb, kb, fb⟩ := B
  go_enter Try.func16, Try.ntmps16
  go_wp2_with fail
  go_step3
  go_wp2_with fail
  go_step3
  go_wp2_with fail
  refine wp_loop_rounds 1 ?_
  rw [rounds_succ]
  go_upto_region 5 with (fail)
  refine wp_region_comm rfl rfl (cases := #[rcaseNil (.int .i64 0)]) (blocking := false) (shape := .select) (v := .tuple #[.int .i64 (-1), .bool false, .int .i64 0]) (by simp [go_sem, execOp, rcaseNil, Act.eval]) (fun fr cs es h => by have := step_lone_select_recv_nil h; simpa [goInt] using this) ?_
  go_wp2_with fail
  refine wp_loop_rounds 1 ?_
  rw [rounds_succ]
  go_wp2_with fail
  try rw [Exit.noGoto_ret]
  go_ret
  exact ⟨rfl, rfl⟩
theorem cloneZero (p : Nat) (w : World) (B : Blk w p #[.chan none]) : Calls Try.prog 14 #[.pointer (some ⟨p, 0, none⟩)] w fun e w' => e = .returned (.pointer none) ∧ w' = w := by
  obtain ⟨lb, kb, fb⟩ := B
  go_enter Try.func14, Try.ntmps14
  go_wp2
  go_ret
  exact ⟨rfl, rfl⟩
end Go.Proofs.Ytahdhgaoofpefaa
