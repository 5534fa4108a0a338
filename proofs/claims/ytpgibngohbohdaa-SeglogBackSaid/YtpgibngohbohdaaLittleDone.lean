/-
  Package little: Done of an Out.
-/
import Derived.Test.YtpgibngohbohdaaLittleNumErr
import Derived.Test.YtpgibngohbohdaaOctClone
namespace Go.Proofs.Ytpgibngohbohdaa
open Go.RowKit
set_option linter.unusedVariables false
set_option linter.unusedSimpArgs false

theorem done_ok (p : Nat) (a : Option Addr) (room : Int) (l : List UInt8) (w : World) (O : OutS w p a room l 0) (hl : l.length ≤ 140737488355328) :
    Calls Try.prog 76 #[at' p] w fun e w' => ∃ v, e = .returned (.tuple #[v, .int .i64 0]) ∧ Fresh w w' v l := by
  obtain ⟨cap, B, O⟩ := O
  have K := hid (clone_any l a cap w (Octs.of_own O) hl)
  clear O
  obtain ⟨l0, k0, f0⟩ := B
  replace hl := hid hl
  go_enter Try.func76, Try.ntmps76
  go_wp2_with fail
  refine K.out.mono ?_
  rintro e w1 ⟨v, rfl, F⟩
  replace F := hid F
  go_wp2
  go_ret2
  exact ⟨v, rfl, F.out⟩
theorem done_bad (p : Nat) (a : Option Addr) (room : Int) (l : List UInt8) (er : Int) (w : World) (O : OutS w p a room l er) (h : (er == 0) = false) :
    Calls Try.prog 76 #[at' p] w fun e w' => e = .returned (.tuple #[.slice none 0 0, .int .i64 er]) ∧ Below w.heap.size w w' := by
  obtain ⟨cap, B, O⟩ := O
  clear O
  obtain ⟨l0, k0, f0⟩ := B
  have h' : (er != 0) = true := by simp only [bne, h]; rfl
  go_enter Try.func76, Try.ntmps76
  go_wp2_with fail
  go_quiet (fail)
  go_wp2
  go_ret2
  exact ⟨rfl, ⟨rfl, rfl, rfl, Nat.le_refl _, fun _ _ => rfl⟩⟩
end Go.Proofs.Ytpgibngohbohdaa
