/-
  Package little: numbers and texts of what nobody made.
-/
import Derived.Test.YtpgibngohbohdaaLittleNil
import Derived.Lib.BufferRead
namespace Go.Proofs.Ytpgibngohbohdaa
open Go.RowKit
set_option linter.unusedVariables false
set_option linter.unusedSimpArgs false

theorem size_bd (n : Int) : 1 ≤ min (max n 1) 6 ∧ min (max n 1) 6 ≤ 6 := by omega
theorem six (s : Int) (h1 : 1 ≤ s) (h2 : s ≤ 6) : s = 1 ∨ s = 2 ∨ s = 3 ∨ s = 4 ∨ s = 5 ∨ s = 6 := by omega

set_option maxHeartbeats 2000000 in
theorem num_nil (n size : Int) (w : World) : Calls Try.prog 75 #[.pointer none, .int .i64 n, .int .i64 size] w fun e w' => e = .returned (.tuple #[]) ∧ w' = w := by
  have KN := hid (fun w => nearest_any size 1 6 w)
  have KF := hid (fun c w => fail_nil c w)
  have KL := hid (fun n w => lend_nil n w)
  have bd := size_bd size
  generalize min (max size 1) 6 = s at *
  have hs := six s bd.1 bd.2
  clear bd
  rcases hs with rfl | rfl | rfl | rfl | rfl | rfl
  all_goals
    go_enter Try.func75, Try.ntmps75
    go_wp2_with fail
    refine (KN.out _).mono ?_
    rintro e w1 ⟨rfl, rfl⟩
    go_wp2_with fail
    all_goals first
      | (refine (KF.out _ _).mono ?_; rintro e w2 ⟨rfl, rfl⟩; go_wp2; (try simp only [Exit.inBlock, Exit.then]); refine bodyPost_ret (results_none rfl _ _ _) rfl ?_; exact ⟨rfl, rfl⟩)
      | (refine (KL.out _ _).mono ?_; rintro e w2 ⟨rfl, rfl⟩; go_wp2; (try simp only [Exit.inBlock, Exit.then]); refine bodyPost_ret (results_none rfl _ _ _) rfl ?_; exact ⟨rfl, rfl⟩)

set_option maxHeartbeats 2000000 in
theorem num_none (n size : Int) (p : Nat) (w : World) (B : Blk w p (out0 0)) : Calls Try.prog 75 #[at' p, .int .i64 n, .int .i64 size] w fun e w' => e = .returned (.tuple #[]) ∧ (w' = w ∨ w' = w.setCell ⟨p, 3, none⟩ (.int .i64 4)) := by
  have KN := hid (fun w => nearest_any size 1 6 w)
  have KF := hid (fail_none 4 0 p w B rfl)
  have KL := hid (fun n => lend_none n 0 p w B)
  have bd := size_bd size
  generalize min (max size 1) 6 = s at *
  have hs := six s bd.1 bd.2
  clear bd B
  rcases hs with rfl | rfl | rfl | rfl | rfl | rfl
  all_goals
    go_enter Try.func75, Try.ntmps75
    go_wp2_with fail
    refine (KN.out _).mono ?_
    rintro e w1 ⟨rfl, rfl⟩
    go_wp2_with fail
    all_goals first
      | (refine KF.out.mono ?_; rintro e w2 ⟨rfl, rfl⟩; go_wp2; (try simp only [Exit.inBlock, Exit.then]); refine bodyPost_ret (results_none rfl _ _ _) rfl ?_; exact ⟨rfl, .inr rfl⟩)
      | (refine (KL.out _).mono ?_; rintro e w2 ⟨rfl, rfl⟩; go_wp2; (try simp only [Exit.inBlock, Exit.then]); refine bodyPost_ret (results_none rfl _ _ _) rfl ?_; exact ⟨rfl, .inl rfl⟩)

theorem inNum_nil (size : Int) (w : World) : Calls Try.prog 109 #[.pointer none, .int .i64 size] w fun e w' => e = .returned (.int .i64 0) ∧ w' = w := by
  have KN := hid (fun w => nearest_any size 1 6 w)
  have KT := hid (fun n w => take_nil n w)
  go_enter Try.func109, Try.ntmps109
  go_wp2_with fail
  refine (KN.out _).mono ?_
  rintro e w1 ⟨rfl, rfl⟩
  go_wp2_with fail
  refine (KT.out _ _).mono ?_
  rintro e w2 ⟨rfl, rfl⟩
  go_wp2
  go_ret
  exact ⟨rfl, rfl⟩
theorem inNum_none (size e : Int) (p : Nat) (w : World) (B : Blk w p (in0 e)) : Calls Try.prog 109 #[at' p, .int .i64 size] w fun e w' => e = .returned (.int .i64 0) ∧ w' = w := by
  have KN := hid (fun w => nearest_any size 1 6 w)
  have KT := hid (fun n => take_none n e p w B)
  go_enter Try.func109, Try.ntmps109
  go_wp2_with fail
  refine (KN.out _).mono ?_
  rintro e w1 ⟨rfl, rfl⟩
  go_wp2_with fail
  refine (KT.out _).mono ?_
  rintro e w2 ⟨rfl, rfl⟩
  go_wp2
  go_ret
  exact ⟨rfl, rfl⟩
theorem nil_text (w : World) : (convert 35 9 (.slice none 0 0)).run Try.prog w = .ok (.string ByteArray.empty) w :=
  Lib.run_convert_nil_bytes w _ _ 5 0 Try.underlying35 Try.underlying5 Try.underlying9
theorem inText_nil (size : Int) (w : World) : Calls Try.prog 108 #[.pointer none, .int .i64 size] w fun e w' => e = .returned (.string ByteArray.empty) ∧ w' = w := by
  have KT := hid (fun n w => take_nil n w)
  have kc := nil_text
  go_enter Try.func108, Try.ntmps108
  go_wp2_with fail
  refine (KT.out _ _).mono ?_
  rintro e w2 ⟨rfl, rfl⟩
  go_wp2
  go_ret
  exact ⟨rfl, rfl⟩
theorem inText_none (size e : Int) (p : Nat) (w : World) (B : Blk w p (in0 e)) : Calls Try.prog 108 #[at' p, .int .i64 size] w fun e w' => e = .returned (.string ByteArray.empty) ∧ w' = w := by
  have KT := hid (fun n => take_none n e p w B)
  have kc := nil_text
  go_enter Try.func108, Try.ntmps108
  go_wp2_with fail
  refine (KT.out _).mono ?_
  rintro e w2 ⟨rfl, rfl⟩
  go_wp2
  go_ret
  exact ⟨rfl, rfl⟩
end Go.Proofs.Ytpgibngohbohdaa
