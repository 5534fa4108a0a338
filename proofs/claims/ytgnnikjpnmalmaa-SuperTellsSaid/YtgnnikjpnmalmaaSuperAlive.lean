/-
  The example of layer 12.
-/
import Derived.Test.YtgnnikjpnmalmaaSuper
namespace Go.Proofs.Ytgnnikjpnmalmaa
open Go.RowKit
set_option linter.unusedVariables false
set_option linter.unusedSimpArgs false

theorem fresh_cap12 {w w' : World} {v : Value} {l : List UInt8} (h : Fresh w w' v l) (hl : l ≠ []) : ∃ a cap, v = .slice a l.length cap ∧ Octs w' a l ∧ l.length ≤ cap ∧ cap ≤ maxLen ∧ Below w.heap.size w w' := by
  obtain ⟨a, cap, rfl, O, hb⟩ := h
  rcases O.2 with ⟨_, h0⟩ | ⟨g', cap', cur, hv, _, _, q1, q2, _⟩
  · exact absurd (List.eq_nil_of_length_eq_zero h0) hl
  · cases hv; exact ⟨_, _, rfl, Octs.of_own O, q1, q2, hb⟩

set_option maxRecDepth 100000 in
theorem alive12 (w : World) : Calls Try.prog 63 #[] w fun e w' => e = .returned (.bool true) ∧ Below w.heap.size w w' := by
  have K1 := fun w => superPut_any 5 4 w
  have K2 := fun w => superPut_any 6 4 w
  have L := sealB_length 1 ⟨0, 0, 0⟩ (headT 6 4) (by rw [headT_length]; omega)
  rw [show supC 5 4 = 4 from by decide, show supL 5 4 = [] from by unfold supL; rw [show gokB 5 4 = false from by decide]; rfl] at K1
  rw [show supC 6 4 = 0 from by decide, show supL 6 4 = sealB 1 ⟨0, 0, 0⟩ (headT 6 4) from by unfold supL; rw [show gokB 6 4 = true from by decide]; rfl] at K2
  generalize sealB 1 ⟨0, 0, 0⟩ (headT 6 4) = SB at *
  replace K1 := hid K1
  replace K2 := hid K2
  go_enter Try.func63, Try.ntmps63
  go_wp2_with fail
  refine (K1.out _).mono ?_
  rintro e w1 ⟨v1, rfl, _, _, _, _, hb1⟩
  have D1 := hid hb1
  clear hb1
  go_wp2_with fail
  refine (K2.out _).mono ?_
  rintro e w2 ⟨v2, rfl, xa, xc, rfl, _, hb2⟩
  have D2 := hid (below2 D1.out hb2 D1.out.size)
  rw [L]
  clear hb2 L
  go_wp2_with fail
  go_ret
  exact ⟨rfl, D2.out⟩
end Go.Proofs.Ytgnnikjpnmalmaa
