/-
  Package little: what nobody made.
-/
import Derived.Test.YtpgibngohbohdaaProg
import Derived.Test.YtpgibngohbohdaaAid
import Derived.Test.YtpgibngohbohdaaAidMore
namespace Go.Proofs.Ytpgibngohbohdaa
open Go.RowKit
set_option linter.unusedVariables false
set_option linter.unusedSimpArgs false

theorem nearest_any (n lo hi : Int) (w : World) : Calls Try.prog 98 #[.int .i64 n, .int .i64 lo, .int .i64 hi] w fun e w' => e = .returned (.int .i64 (min (max n lo) hi)) ∧ w' = w := by
  go_enter Try.func98, Try.ntmps98
  go_wp2
  go_ret
  exact ⟨rfl, rfl⟩

/-- An Out, and an In, that nobody made. -/
abbrev out0 (e : Int) : Array Value := #[.bool false, .int .i64 0, .slice none 0 0, .int .i64 e]
abbrev in0 (e : Int) : Array Value := #[.bool false, .slice none 0 0, .int .i64 e]
abbrev at' (p : Nat) : Value := .pointer (some ⟨p, 0, none⟩)

theorem fail_nil (c : Int) (w : World) : Calls Try.prog 99 #[.pointer none, .int .i64 c] w fun e w' => e = .returned (.tuple #[]) ∧ w' = w := by
  go_enter Try.func99, Try.ntmps99
  go_wp2
  go_end0
  exact ⟨rfl, rfl⟩
theorem lend_nil (n : Int) (w : World) : Calls Try.prog 100 #[.pointer none, .int .i64 n] w fun e w' => e = .returned (.tuple #[.slice none 0 0, .bool false]) ∧ w' = w := by
  go_enter Try.func100, Try.ntmps100
  go_wp2
  go_ret2
  exact ⟨rfl, rfl⟩
theorem lend_none (n e : Int) (p : Nat) (w : World) (B : Blk w p (out0 e)) : Calls Try.prog 100 #[at' p, .int .i64 n] w fun e w' => e = .returned (.tuple #[.slice none 0 0, .bool false]) ∧ w' = w := by
  obtain ⟨l0, k0, f0⟩ := B
  go_enter Try.func100, Try.ntmps100
  go_wp2
  go_ret2
  exact ⟨rfl, rfl⟩
theorem done_nil (w : World) : Calls Try.prog 76 #[.pointer none] w fun e w' => e = .returned (.tuple #[.slice none 0 0, .int .i64 9]) ∧ w' = w := by
  go_enter Try.func76, Try.ntmps76
  go_wp2
  go_ret2
  exact ⟨rfl, rfl⟩
theorem done_none (e : Int) (p : Nat) (w : World) (B : Blk w p (out0 e)) : Calls Try.prog 76 #[at' p] w fun e w' => e = .returned (.tuple #[.slice none 0 0, .int .i64 9]) ∧ w' = w := by
  obtain ⟨l0, k0, f0⟩ := B
  go_enter Try.func76, Try.ntmps76
  go_wp2
  go_ret2
  exact ⟨rfl, rfl⟩
theorem pad_nil (n : Int) (w : World) : Calls Try.prog 82 #[.pointer none, .int .i64 n] w fun e w' => e = .returned (.tuple #[]) ∧ w' = w := by
  go_enter Try.func82, Try.ntmps82
  go_wp2
  go_end0
  exact ⟨rfl, rfl⟩
theorem text_nil (s : ByteArray) (w : World) : Calls Try.prog 81 #[.pointer none, .string s] w fun e w' => e = .returned (.tuple #[]) ∧ w' = w := by
  have K := hid (fun n w => lend_nil n w)
  go_enter Try.func81, Try.ntmps81
  go_wp2_with fail
  refine (K.out _ _).mono ?_
  rintro e w1 ⟨rfl, rfl⟩
  go_wp2
  go_end0
  exact ⟨rfl, rfl⟩
theorem text_none (s : ByteArray) (e : Int) (p : Nat) (w : World) (B : Blk w p (out0 e)) : Calls Try.prog 81 #[at' p, .string s] w fun e w' => e = .returned (.tuple #[]) ∧ w' = w := by
  have K := hid (fun n => lend_none n e p w B)
  go_enter Try.func81, Try.ntmps81
  go_wp2_with fail
  refine (K.out _).mono ?_
  rintro e w1 ⟨rfl, rfl⟩
  go_wp2
  go_end0
  exact ⟨rfl, rfl⟩
theorem pad_none (n e : Int) (p : Nat) (w : World) (B : Blk w p (out0 e)) (h : IntKind.i64.wrap n = n) : Calls Try.prog 82 #[at' p, .int .i64 n] w fun e w' => e = .returned (.tuple #[]) ∧ w' = w := by
  have K := hid (fun n => lend_none n e p w B)
  obtain ⟨l0, k0, f0⟩ := B
  have ways : 0 < n ∨ decide (0 < n) = false := by by_cases h : 0 < n <;> simp [h]
  rcases ways with g | g
  · go_enter Try.func82, Try.ntmps82
    go_wp2_with fail
    refine (K.out _).mono ?_
    rintro e w1 ⟨rfl, rfl⟩
    go_wp2
    go_end0
    exact ⟨rfl, rfl⟩
  · go_enter Try.func82, Try.ntmps82
    go_wp2
    go_end0
    exact ⟨rfl, rfl⟩
theorem fail_none (c e : Int) (p : Nat) (w : World) (B : Blk w p (out0 e)) (h : e = 0) : Calls Try.prog 99 #[at' p, .int .i64 c] w fun e w' => e = .returned (.tuple #[]) ∧ w' = w.setCell ⟨p, 3, none⟩ (.int .i64 c) := by
  subst h
  obtain ⟨l0, k0, f0⟩ := B
  go_enter Try.func99, Try.ntmps99
  go_wp2
  go_end0
  exact ⟨rfl, rfl⟩
theorem take_nil (n : Int) (w : World) : Calls Try.prog 131 #[.pointer none, .int .i64 n] w fun e w' => e = .returned (.tuple #[.slice none 0 0, .bool false]) ∧ w' = w := by
  go_enter Try.func131, Try.ntmps131
  go_wp2
  go_ret2
  exact ⟨rfl, rfl⟩
theorem take_none (n e : Int) (p : Nat) (w : World) (B : Blk w p (in0 e)) : Calls Try.prog 131 #[at' p, .int .i64 n] w fun e w' => e = .returned (.tuple #[.slice none 0 0, .bool false]) ∧ w' = w := by
  obtain ⟨l0, k0, f0⟩ := B
  go_enter Try.func131, Try.ntmps131
  go_wp2
  go_ret2
  exact ⟨rfl, rfl⟩
theorem left_nil (w : World) : Calls Try.prog 110 #[.pointer none] w fun e w' => e = .returned (.int .i64 0) ∧ w' = w := by
  go_enter Try.func110, Try.ntmps110
  go_wp2
  go_ret
  exact ⟨rfl, rfl⟩
theorem left_none (e : Int) (p : Nat) (w : World) (B : Blk w p (in0 e)) : Calls Try.prog 110 #[at' p] w fun e w' => e = .returned (.int .i64 0) ∧ w' = w := by
  obtain ⟨l0, k0, f0⟩ := B
  go_enter Try.func110, Try.ntmps110
  go_wp2
  go_ret
  exact ⟨by simp, rfl⟩
theorem err_nil (w : World) : Calls Try.prog 111 #[.pointer none] w fun e w' => e = .returned (.int .i64 9) ∧ w' = w := by
  go_enter Try.func111, Try.ntmps111
  go_wp2
  go_ret
  exact ⟨rfl, rfl⟩
theorem err_none (e : Int) (p : Nat) (w : World) (B : Blk w p (in0 e)) : Calls Try.prog 111 #[at' p] w fun e w' => e = .returned (.int .i64 9) ∧ w' = w := by
  obtain ⟨l0, k0, f0⟩ := B
  go_enter Try.func111, Try.ntmps111
  go_wp2
  go_ret
  exact ⟨rfl, rfl⟩
end Go.Proofs.Ytpgibngohbohdaa
