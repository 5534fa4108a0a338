/-
  Octets that come in, as a list; a text that comes in.
-/
import Derived.Test.YtfijkbgbhaoilaaOct
import Derived.Test.YtfijkbgbhaoilaaSlices
import Derived.SizedLaws
namespace Go.Proofs.Ytfijkbgbhaoilaa
open Go.ChangeShapes Go.WideShapes Go.ChangeAt Go.RowKit Go.Joins Go.Deep
set_option linter.unusedVariables false

/-- One parameter off the list, with its datum. -/
theorem args_consd {H : Type} {enc : TypeId × Value → H} {P : Program} {w : World} {base : Nat} {spare : Nat → Bool} {held : Bool} {t : TypeId} {ts : List TypeId} {vs : List Value} {ds : List (DataW H)} {ps : List MemPlace} (h : DataW.TrodAll enc P w base spare held (t :: ts) vs ds ps) :
    ∃ v vs' d ds' p q, vs = v :: vs' ∧ ds = d :: ds' ∧ DataW.Trod enc P w base spare held t v d p ∧ DataW.TrodAll enc P w base spare held ts vs' ds' q := by
  obtain ⟨v, vs', d, ds', p, q, h1, h2, _, h3, h4⟩ := trodAll_cons h
  exact ⟨v, vs', d, ds', p, q, h1, h2, h3, h4⟩
theorem bytes_u8 : Try.prog.bytesOf 5 = 1 := by kernel_rfl
end Go.Proofs.Ytfijkbgbhaoilaa
