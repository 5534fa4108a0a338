/-
  CodeTells answers true for any steps, and changes nothing that was there: which steps may be, and any ones' octets, are as the page says. For every input, without a condition.
-/
import Derived.Test.YtngfhbclapadoaaCodeTells
import Derived.Test.YtngfhbclapadoaaLift
import Derived.Test.YtngfhbclapadoaaOpen
import Derived.Test.YtngfhbclapadoaaCodeArg
namespace Go.Proofs.Ytngfhbclapadoaa
open Go.ChangeShapes Go.WideShapes Go.ChangeAt Go.RowKit
set_option linter.unusedVariables false
set_option maxRecDepth 100000

theorem codeTells_lifted (os : Os) (started : os.Started) (H : Type) (enc : TypeId × Value → H) :
    ReturnsInHanded {} Try.checked os 6 .any (Rows.codeTellsSpec.pre6 enc Try.prog Try.f6 [] false) (Rows.codeTellsSpec.post enc Try.prog Try.f6 false true false false) :=
  lift (C := Try.checked) (s := Rows.codeTellsSpec) own (by kernel_rfl) Try.func6 laidOut rfl rfl Try.underlying4 (by kernel_rfl)
    (fun H ds hd => by match ds, hd with | [d1], _ => rfl) os started H enc
    (ChangeSpec.witness6 (enc := enc) (C := Try.checked) false ⟨#[], #[.slice none 0 0], []⟩ 8 (by kernel_rfl) (by kernel_rfl) (by kernel_rfl) (by kernel_rfl))
    (fun W base args ds ps hval0 hA0 => by
      have hval : ∀ (j : Nat) t v, Try.f6.params[j]? = some t → args[j]? = some v → Value.okWide Try.prog W .any base t v := hval0
      have hA : DataW.TrodAll enc Try.prog W 0 (fun _ => true) true Try.f6.params.toList args.toList ds ps := hA0
      rw [Try.params6] at hA hval
      obtain ⟨v0, s0, d0, e0, p0, q0, g0, h0, r0⟩ := args_cons hA
      obtain ⟨rfl, _, _⟩ := trodAll_nil r0
      obtain rfl : args = #[v0] := by cases args; simp_all
      obtain ⟨A, pa, ca, rfl, l1A, l2A, RA, OA, TA⟩ := stepl_of (hval 0 45 v0 rfl rfl) h0
      exact codetells_any A pa ca OA l1A l2A W RA TA)

theorem codeTells_holds : Rows.CodeTellsSaid :=
  OpenClaim.holds_of_wide 6 Try.f6 rfl rfl rfl rfl rfl rfl rfl ⟨rfl, rfl, rfl, rfl, rfl⟩ rfl rfl rfl rfl rfl (by kernel_rfl) Try.func6 (by kernel_rfl)
    (of_decide_eq_true (by kernel_rfl)) (by unfold Func.isWrapper; rw [if_neg (of_decide_eq_false (by kernel_rfl))]; exact ⟨rfl, rfl⟩)
    (fun os started H enc _ => codeTells_lifted os started H enc)
#print axioms codeTells_holds
end Go.Proofs.Ytngfhbclapadoaa
