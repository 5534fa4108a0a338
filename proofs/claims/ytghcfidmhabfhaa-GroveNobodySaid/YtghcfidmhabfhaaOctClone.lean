/-
  slices.Clone of octets.
-/
import Derived.Test.YtghcfidmhabfhaaOctAppend
import Derived.Test.YtghcfidmhabfhaaAidMore
import Derived.WalkKit
namespace Go.Proofs.Ytghcfidmhabfhaa
open Go.RowKit
set_option linter.unusedVariables false
set_option linter.unusedSimpArgs false

/-- The value of a slice of the call's own: these octets. -/
def Fresh (w w' : World) (v : Value) (l : List UInt8) : Prop := ∃ a cap, v = .slice a l.length cap ∧ w'.ownsRow w.heap.size 5 1 (.slice a l.length cap) l.length (Lib.byteCells l) ∧ Below w.heap.size w w'

/-- The text of octets, wherever. -/
theorem conv_octs {w : World} {a : Option Addr} {l : List UInt8} (h : Octs w a l) (cap : Nat) : (convert 22 9 (.slice a l.length cap)).run Try.prog w = .ok (.string (textOf l)) w := by
  by_cases h0 : l = []
  · subst h0
    rw [List.length_nil, run_convert_bytes_string (P := Try.prog) w _ _ _ a 0 cap Try.underlying22 Try.underlying5 Try.underlying9]
    rcases a with _ | x
    · simp [Conv.bytesToString]; rfl
    · simp [Conv.bytesToString]; rfl
  · obtain ⟨b, o, rfl, _, _⟩ := h.row h0
    exact h.text _ _ _ cap Try.underlying22 Try.underlying5 Try.underlying9 (fun x hx => by cases hx; rfl)

end Go.Proofs.Ytghcfidmhabfhaa
