/-
  Package little: an Out that was made: fail, and lend where it lends nothing.
-/
import Derived.Test.YtpgibngohbohdaaLittleNobody
namespace Go.Proofs.Ytpgibngohbohdaa
open Go.RowKit
set_option linter.unusedVariables false
set_option linter.unusedSimpArgs false

/-- An Out's cells: its room, what was written (n octets), its error. -/
abbrev outC (room : Int) (a : Option Addr) (n cap : Nat) (e : Int) : Array Value := #[.bool true, .int .i64 room, .slice a n cap, .int .i64 e]

theorem fail_first (c room : Int) (a : Option Addr) (n cap : Nat) (p : Nat) (w : World) (B : Blk w p (outC room a n cap 0)) :
    Calls Try.prog 99 #[at' p, .int .i64 c] w fun e w' => e = .returned (.tuple #[]) ∧ w' = w.setCell ⟨p, 3, none⟩ (.int .i64 c) := by
  obtain ⟨l0, k0, f0⟩ := B
  go_enter Try.func99, Try.ntmps99
  go_wp2
  go_end0
  exact ⟨rfl, rfl⟩
theorem fail_later (c room er : Int) (a : Option Addr) (n cap : Nat) (p : Nat) (w : World) (B : Blk w p (outC room a n cap er)) (h : (er == 0) = false) :
    Calls Try.prog 99 #[at' p, .int .i64 c] w fun e w' => e = .returned (.tuple #[]) ∧ w' = w := by
  obtain ⟨l0, k0, f0⟩ := B
  go_enter Try.func99, Try.ntmps99
  go_wp2
  go_end0
  exact ⟨rfl, rfl⟩
theorem lend_err (size room er : Int) (a : Option Addr) (n cap : Nat) (p : Nat) (w : World) (B : Blk w p (outC room a n cap er)) (h : (er == 0) = false) :
    Calls Try.prog 100 #[at' p, .int .i64 size] w fun e w' => e = .returned (.tuple #[.slice none 0 0, .bool false]) ∧ w' = w := by
  obtain ⟨l0, k0, f0⟩ := B
  go_enter Try.func100, Try.ntmps100
  go_wp2
  go_ret2
  exact ⟨rfl, rfl⟩
theorem lend_full (size room : Int) (a : Option Addr) (n cap : Nat) (p : Nat) (w : World) (B : Blk w p (outC room a n cap 0)) (h0 : 0 ≤ room) (h1 : room ≤ 65536) (hn : (n : Int) ≤ room) (h : room - n < size) :
    Calls Try.prog 100 #[at' p, .int .i64 size] w fun e w' => e = .returned (.tuple #[.slice none 0 0, .bool false]) ∧ w' = w.setCell ⟨p, 3, none⟩ (.int .i64 10) := by
  have K := hid (fail_first 10 room a n cap p w B)
  have u : IntKind.i64.wrap (room - n) = room - n := IntWalk.i64_in _ (by omega)
  obtain ⟨l0, k0, f0⟩ := B
  go_enter Try.func100, Try.ntmps100
  go_wp2_with fail
  refine K.out.mono ?_
  rintro e w1 ⟨rfl, rfl⟩
  go_wp2
  go_ret2
  exact ⟨rfl, rfl⟩
end Go.Proofs.Ytpgibngohbohdaa
