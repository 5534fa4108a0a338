/-
  Package little: lend of nothing.
-/
import Derived.Test.YtpgibngohbohdaaLittleLend
namespace Go.Proofs.Ytpgibngohbohdaa
open Go.RowKit
set_option linter.unusedVariables false
set_option linter.unusedSimpArgs false

set_option maxRecDepth 100000 in
set_option maxHeartbeats 4000000 in
theorem lend_zero (room : Int) (a : Option Addr) (n cap : Nat) (xs : List Value) (p : Nat) (w : World) (B : Blk w p (outC room a n cap 0)) (O : w.ownsRow (p + 1) 5 1 (.slice a n cap) n xs) (h0 : 0 ≤ room) (h1 : room ≤ 65536) (h : (n : Int) ≤ room) :
    Calls Try.prog 100 #[at' p, .int .i64 0] w fun e w' => e = .returned (.tuple #[.slice a 0 0, .bool true]) ∧ w' = w.setCell ⟨p, 2, none⟩ (.slice a n cap) := by
  have u : IntKind.i64.wrap (room - n) = room - n := IntWalk.i64_in _ (by omega)
  have u2 : IntKind.i64.wrap (n : Int) = (n : Int) := IntWalk.i64_in _ (by omega)
  have g1 : decide (room - n < (0 : Int)) = false := decide_eq_false (by omega)
  rcases O.2 with ⟨ha, rfl⟩ | ⟨g, cap1, cur, ha, hbg, hg, hnc, hcm, hcs, htake⟩
  · cases ha
    obtain ⟨l0, k0, f0⟩ := B
    go_enter Try.func100, Try.ntmps100
    go_wp2
    go_ret2
    exact ⟨rfl, rfl⟩
  · cases ha
    have e3 : (n : Int) ≤ cap := by omega
    obtain ⟨l0, k0, f0⟩ := B
    go_enter Try.func100, Try.ntmps100
    go_wp2
    go_ret2
    exact ⟨by simp, rfl⟩
end Go.Proofs.Ytpgibngohbohdaa
