/-
  What an argument that comes in is: a stamp.
-/
import Derived.Test.YtgeddfjnhhaciaaFrameMath
import Derived.Test.YtgeddfjnhhaciaaOpen
namespace Go.Proofs.Ytgeddfjnhhaciaa
open Go.ChangeShapes Go.WideShapes Go.ChangeAt Go.RowKit Go.Joins Go.Deep
set_option linter.unusedVariables false

set_option maxRecDepth 100000 in
theorem st_of {H : Type} {enc : TypeId × Value → H} {W : World} {b0 : Nat} {v : Value} {d : DataW H} {p : List MemPlace} (hv : Value.okWide Try.prog W .any b0 23 v) (h : DataW.Trod enc Try.prog W 0 (fun _ => true) true 23 v d p) :
    ∃ t : Stp, t.ok ∧ v = sval t := by
  obtain ⟨a, b, c, rfl, wa, wb, wc⟩ := open_three Try.underlying23 (by kernel_rfl) (by kernel_rfl) Try.underlying3 Try.underlying3 Try.underlying3 hv h
  have g0 := bounds_i64 wa
  have g1 := bounds_i64 wb
  have g2 := bounds_i64 wc
  exact ⟨⟨a, b, c⟩, ⟨g0.1, g0.2, g1.1, g1.2, g2.1, g2.2⟩, rfl⟩
end Go.Proofs.Ytgeddfjnhhaciaa
