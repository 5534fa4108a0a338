/-
  Package little: Pad of an Out, whichever way.
-/
import Derived.Test.YtpgibngohbohdaaLittleDone
namespace Go.Proofs.Ytpgibngohbohdaa
open Go.RowKit
set_option linter.unusedVariables false
set_option linter.unusedSimpArgs false

theorem pad_err (size : Int) (hs : size ≤ 9223372036854775807) (p : Nat) (a : Option Addr) (room : Int) (l : List UInt8) (er : Int) (w : World) (O : OutS w p a room l er) (h : (er == 0) = false) :
    Calls Try.prog 82 #[at' p, .int .i64 size] w fun e w' => e = .returned (.tuple #[]) ∧ w' = w := by
  obtain ⟨cap, B, _⟩ := O
  by_cases hn : size ≤ l.length
  · exact pad_less size room er a l.length cap p w B hn
  · exact pad_more size room er a l.length cap p w B (by omega) hs (fun w' => w' = w) ((lend_err (size - l.length) room er a l.length cap p w B h).mono fun e w' he => ⟨⟨_, he.1⟩, he.2⟩)
theorem pad_full (size : Int) (hs : size ≤ 9223372036854775807) (p : Nat) (a : Option Addr) (room : Int) (l : List UInt8) (w : World) (O : OutS w p a room l 0) (h0 : 0 ≤ room) (h1 : room ≤ 65536) (hl : (l.length : Int) ≤ room) (h : room < size) :
    Calls Try.prog 82 #[at' p, .int .i64 size] w fun e w' => e = .returned (.tuple #[]) ∧ w' = w.setCell ⟨p, 3, none⟩ (.int .i64 10) := by
  obtain ⟨cap, B, _⟩ := O
  exact pad_more size room 0 a l.length cap p w B (by omega) hs (fun w' => w' = w.setCell ⟨p, 3, none⟩ (.int .i64 10)) ((lend_full (size - l.length) room a l.length cap p w B h0 h1 hl (by omega)).mono fun e w' he => ⟨⟨_, he.1⟩, he.2⟩)
theorem zeros_bytes (n : Nat) : List.replicate n (.int .u8 0) = Lib.byteCells (List.replicate n 0) := by simp [Lib.byteCells]
theorem pad_ok (size : Int) (p : Nat) (a : Option Addr) (room : Int) (l : List UInt8) (w : World) (O : OutS w p a room l 0) (h0 : 0 ≤ room) (h1 : room ≤ 65536) (h : size ≤ room) :
    Calls Try.prog 82 #[at' p, .int .i64 size] w fun e w' => e = .returned (.tuple #[]) ∧ ∃ a', OutS w' p a' room (l ++ List.replicate (size.toNat - l.length) 0) 0 ∧ Grew p a a' w w' := by
  have HO := O
  obtain ⟨cap, B, O⟩ := O
  by_cases hn : size ≤ l.length
  · refine (pad_less size room 0 a l.length cap p w B hn).mono ?_
    rintro e w' ⟨he, rfl⟩
    have e0 : size.toNat - l.length = 0 := by omega
    exact ⟨he, a, by rw [e0, List.replicate_zero, List.append_nil]; exact HO, Grew.refl _ _ _⟩
  · have e0 : size - l.length = ((size.toNat - l.length : Nat) : Int) := by omega
    have K := lend_ok (size.toNat - l.length) room a l.length cap (Lib.byteCells l) p w B O h0 h1 (by omega) (by omega)
    rw [← e0] at K
    refine pad_more size room 0 a l.length cap p w B (by omega) (by omega) _ (K.mono ?_)
    rintro e w' ⟨g, cap', he, B1, O1, G1⟩
    have hl : (l ++ List.replicate (size.toNat - l.length) (0 : UInt8)).length = l.length + (size.toNat - l.length) := by simp
    exact ⟨⟨_, he⟩, some ⟨g, 0, none⟩, ⟨cap', by rw [hl]; exact B1, by rw [hl, Lib.byteCells_append, ← zeros_bytes]; exact O1⟩, G1⟩
end Go.Proofs.Ytpgibngohbohdaa
