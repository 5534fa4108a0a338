/-
  Package little: Pad, of an Out that was made.
-/
import Derived.Test.YtpgibngohbohdaaLittleLend0
namespace Go.Proofs.Ytpgibngohbohdaa
open Go.RowKit
set_option linter.unusedVariables false
set_option linter.unusedSimpArgs false

theorem pad_less (size room er : Int) (a : Option Addr) (n cap : Nat) (p : Nat) (w : World) (B : Blk w p (outC room a n cap er)) (h : size ≤ n) :
    Calls Try.prog 82 #[at' p, .int .i64 size] w fun e w' => e = .returned (.tuple #[]) ∧ w' = w := by
  have g : decide ((n : Int) < size) = false := decide_eq_false (by omega)
  obtain ⟨l0, k0, f0⟩ := B
  go_enter Try.func82, Try.ntmps82
  go_wp2
  go_end0
  exact ⟨rfl, rfl⟩
/-- Pad of more is lend of what lacks. -/
theorem pad_more (size room er : Int) (a : Option Addr) (n cap : Nat) (p : Nat) (w : World) (B : Blk w p (outC room a n cap er)) (h : (n : Int) < size) (hs : size ≤ 9223372036854775807) (R : World → Prop)
    (K : Calls Try.prog 100 #[at' p, .int .i64 (size - n)] w fun e w' => (∃ v, e = .returned v) ∧ R w') :
    Calls Try.prog 82 #[at' p, .int .i64 size] w fun e w' => e = .returned (.tuple #[]) ∧ R w' := by
  have u : IntKind.i64.wrap (size - n) = size - n := IntWalk.i64_in _ (by omega)
  replace K := hid K
  obtain ⟨l0, k0, f0⟩ := B
  go_enter Try.func82, Try.ntmps82
  go_wp2_with fail
  refine K.out.mono ?_
  rintro e w1 ⟨⟨v, rfl⟩, hR⟩
  replace hR := hid hR
  go_wp2
  go_end0
  exact ⟨rfl, hR.out⟩
end Go.Proofs.Ytpgibngohbohdaa
