/-
  RectCovers answers true for any points, and changes nothing that was there: the least window with all points has each, and each of its sides one. For every input, without a condition.
-/
import Derived.Test.YtohdhbamdeenlaaRectCovers
import Derived.Test.YtohdhbamdeenlaaSlices
namespace Go.Proofs.Ytohdhbamdeenlaa
open Go.ChangeShapes Go.WideShapes Go.ChangeAt Go.RowKit
set_option linter.unusedVariables false
set_option maxRecDepth 100000

theorem rectCovers_lifted (os : Os) (started : os.Started) (H : Type) (enc : TypeId × Value → H) :
    ReturnsInHanded {} Try.checked os 11 .any (Rows.rectCoversSpec.pre6 enc Try.prog Try.f11 [] false) (Rows.rectCoversSpec.post enc Try.prog Try.f11 false true false false) :=
  lift (C := Try.checked) (s := Rows.rectCoversSpec) own (by kernel_rfl) Try.func11 laidOut rfl rfl Try.underlying4 (by kernel_rfl)
    (fun H ds hd => by match ds, hd with | [d1], _ => rfl) os started H enc
    (ChangeSpec.witness6 (enc := enc) (C := Try.checked) false ⟨#[], #[.slice none 0 0], []⟩ 8 (by kernel_rfl) (by kernel_rfl) (by kernel_rfl) (by kernel_rfl))
    (fun W base args ds ps hval0 hA0 => by
      have hval : ∀ (j : Nat) t v, Try.f11.params[j]? = some t → args[j]? = some v → Value.okWide Try.prog W .any base t v := hval0
      have hA : DataW.TrodAll enc Try.prog W 0 (fun _ => true) true Try.f11.params.toList args.toList ds ps := hA0
      rw [Try.params11] at hA hval
      obtain ⟨v0, s0, d0, e0, p0, q0, g0, h0, r0⟩ := args_cons hA
      obtain ⟨rfl, _, _⟩ := trodAll_nil r0
      obtain rfl : args = #[v0] := by cases args; simp_all
      obtain ⟨n, f, _, hs⟩ := pts_of (hval 0 80 v0 rfl rfl) h0
      exact rectCovers W hs)

theorem rectCovers_holds : Rows.RectCoversSaid :=
  OpenClaim.holds_of_wide 11 Try.f11 rfl rfl rfl rfl rfl rfl rfl ⟨rfl, rfl, rfl, rfl, rfl⟩ rfl rfl rfl rfl rfl (by kernel_rfl) Try.func11 (by kernel_rfl)
    (of_decide_eq_true (by kernel_rfl)) (by unfold Func.isWrapper; rw [if_neg (of_decide_eq_false (by kernel_rfl))]; exact ⟨rfl, rfl⟩)
    (fun os started H enc _ => rectCovers_lifted os started H enc)
#print axioms rectCovers_holds
end Go.Proofs.Ytohdhbamdeenlaa
