/-
  Package little: what nobody made.
-/
import Derived.Test.YtdagddahpccnkaaProg
import Derived.Test.YtdagddahpccnkaaAid
import Derived.Test.YtdagddahpccnkaaAidMore
namespace Go.Proofs.Ytdagddahpccnkaa
open Go.RowKit
set_option linter.unusedVariables false
set_option linter.unusedSimpArgs false

theorem nearest_any (n lo hi : Int) (w : World) : Calls Try.prog 26 #[.int .i64 n, .int .i64 lo, .int .i64 hi] w fun e w' => e = .returned (.int .i64 (min (max n lo) hi)) ∧ w' = w := by
  go_enter Try.func26, Try.ntmps26
  go_wp2
  go_ret
  exact ⟨rfl, rfl⟩

/-- An Out, and an In, that nobody made. -/
abbrev out0 (e : Int) : Array Value := #[.bool false, .int .i64 0, .slice none 0 0, .int .i64 e]
abbrev in0 (e : Int) : Array Value := #[.bool false, .slice none 0 0, .int .i64 e]
abbrev at' (p : Nat) : Value := .pointer (some ⟨p, 0, none⟩)

theorem fail_nil (c : Int) (w : World) : Calls Try.prog 27 #[.pointer none, .int .i64 c] w fun e w' => e = .returned (.tuple #[]) ∧ w' = w := by
  go_enter Try.func27, Try.ntmps27
  go_wp2
  go_end0
  exact ⟨rfl, rfl⟩
theorem lend_nil (n : Int) (w : World) : Calls Try.prog 28 #[.pointer none, .int .i64 n] w fun e w' => e = .returned (.tuple #[.slice none 0 0, .bool false]) ∧ w' = w := by
  go_enter Try.func28, Try.ntmps28
  go_wp2
  go_ret2
  exact ⟨rfl, rfl⟩
theorem lend_none (n e : Int) (p : Nat) (w : World) (B : Blk w p (out0 e)) : Calls Try.prog 28 #[at' p, .int .i64 n] w fun e w' => e = .returned (.tuple #[.slice none 0 0, .bool false]) ∧ w' = w := by
  obtain ⟨l0, k0, f0⟩ := B
  go_enter Try.func28, Try.ntmps28
  go_wp2
  go_ret2
  exact ⟨rfl, rfl⟩
theorem done_nil (w : World) : Calls Try.prog 29 #[.pointer none] w fun e w' => e = .returned (.tuple #[.slice none 0 0, .int .i64 9]) ∧ w' = w := by
  go_enter Try.func29, Try.ntmps29
  go_wp2
  go_ret2
  exact ⟨rfl, rfl⟩
theorem done_none (e : Int) (p : Nat) (w : World) (B : Blk w p (out0 e)) : Calls Try.prog 29 #[at' p] w fun e w' => e = .returned (.tuple #[.slice none 0 0, .int .i64 9]) ∧ w' = w := by
  obtain ⟨l0, k0, f0⟩ := B
  go_enter Try.func29, Try.ntmps29
  go_wp2
  go_ret2
  exact ⟨rfl, rfl⟩
theorem pad_nil (n : Int) (w : World) : Calls Try.prog 40 #[.pointer none, .int .i64 n] w fun e w' => e = .returned (.tuple #[]) ∧ w' = w := by
  go_enter Try.func40, Try.ntmps40
  go_wp2
  go_end0
  exact ⟨rfl, rfl⟩
theorem text_nil (s : ByteArray) (w : World) : Calls Try.prog 39 #[.pointer none, .string s] w fun e w' => e = .returned (.tuple #[]) ∧ w' = w := by
  have K := hid (fun n w => lend_nil n w)
  go_enter Try.func39, Try.ntmps39
  go_wp2_with fail
  refine (K.out _ _).mono ?_
  rintro e w1 ⟨rfl, rfl⟩
  go_wp2
  go_end0
  exact ⟨rfl, rfl⟩
theorem text_none (s : ByteArray) (e : Int) (p : Nat) (w : World) (B : Blk w p (out0 e)) : Calls Try.prog 39 #[at' p, .string s] w fun e w' => e = .returned (.tuple #[]) ∧ w' = w := by
  have K := hid (fun n => lend_none n e p w B)
  go_enter Try.func39, Try.ntmps39
  go_wp2_with fail
  refine (K.out _).mono ?_
  rintro e w1 ⟨rfl, rfl⟩
  go_wp2
  go_end0
  exact ⟨rfl, rfl⟩
theorem pad_none (n e : Int) (p : Nat) (w : World) (B : Blk w p (out0 e)) (h : IntKind.i64.wrap n = n) : Calls Try.prog 40 #[at' p, .int .i64 n] w fun e w' => e = .returned (.tuple #[]) ∧ w' = w := by
  have K := hid (fun n => lend_none n e p w B)
  obtain ⟨l0, k0, f0⟩ := B
  have ways : 0 < n ∨ decide (0 < n) = false := by by_cases h : 0 < n <;> simp [h]
  rcases ways with g | g
  · go_enter Try.func40, Try.ntmps40
    go_wp2_with fail
    refine (K.out _).mono ?_
    rintro e w1 ⟨rfl, rfl⟩
    go_wp2
    go_end0
    exact ⟨rfl, rfl⟩
  · go_enter Try.func40, Try.ntmps40
    go_wp2
    go_end0
    exact ⟨rfl, rfl⟩
theorem fail_none (c e : Int) (p : Nat) (w : World) (B : Blk w p (out0 e)) (h : e = 0) : Calls Try.prog 27 #[at' p, .int .i64 c] w fun e w' => e = .returned (.tuple #[]) ∧ w' = w.setCell ⟨p, 3, none⟩ (.int .i64 c) := by
  subst h
  obtain ⟨l0, k0, f0⟩ := B
  go_enter Try.func27, Try.ntmps27
  go_wp2
  go_end0
  exact ⟨rfl, rfl⟩
theorem take_nil (n : Int) (w : World) : Calls Try.prog 47 #[.pointer none, .int .i64 n] w fun e w' => e = .returned (.tuple #[.slice none 0 0, .bool false]) ∧ w' = w := by
  go_enter Try.func47, Try.ntmps47
  go_wp2
  go_ret2
  exact ⟨rfl, rfl⟩
theorem take_none (n e : Int) (p : Nat) (w : World) (B : Blk w p (in0 e)) : Calls Try.prog 47 #[at' p, .int .i64 n] w fun e w' => e = .returned (.tuple #[.slice none 0 0, .bool false]) ∧ w' = w := by
  obtain ⟨l0, k0, f0⟩ := B
  go_enter Try.func47, Try.ntmps47
  go_wp2
  go_ret2
  exact ⟨rfl, rfl⟩
theorem left_nil (w : World) : Calls Try.prog 45 #[.pointer none] w fun e w' => e = .returned (.int .i64 0) ∧ w' = w := by
  go_enter Try.func45, Try.ntmps45
  go_wp2
  go_ret
  exact ⟨rfl, rfl⟩
theorem left_none (e : Int) (p : Nat) (w : World) (B : Blk w p (in0 e)) : Calls Try.prog 45 #[at' p] w fun e w' => e = .returned (.int .i64 0) ∧ w' = w := by
  obtain ⟨l0, k0, f0⟩ := B
  go_enter Try.func45, Try.ntmps45
  go_wp2
  go_ret
  exact ⟨by simp, rfl⟩
theorem err_nil (w : World) : Calls Try.prog 46 #[.pointer none] w fun e w' => e = .returned (.int .i64 9) ∧ w' = w := by
  go_enter Try.func46, Try.ntmps46
  go_wp2
  go_ret
  exact ⟨rfl, rfl⟩
theorem err_none (e : Int) (p : Nat) (w : World) (B : Blk w p (in0 e)) : Calls Try.prog 46 #[at' p] w fun e w' => e = .returned (.int .i64 9) ∧ w' = w := by
  obtain ⟨l0, k0, f0⟩ := B
  go_enter Try.func46, Try.ntmps46
  go_wp2
  go_ret
  exact ⟨rfl, rfl⟩
end Go.Proofs.Ytdagddahpccnkaa
