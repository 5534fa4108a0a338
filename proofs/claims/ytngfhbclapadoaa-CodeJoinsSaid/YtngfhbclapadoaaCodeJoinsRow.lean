/-
  CodeJoins answers true for any two lists of steps, and changes nothing that was there: steps, one behind the other, are their octets, one behind the other. For every input, without a condition.
-/
import Derived.Test.YtngfhbclapadoaaCodeJoins
import Derived.Test.YtngfhbclapadoaaLift
import Derived.Test.YtngfhbclapadoaaOpen
import Derived.Test.YtngfhbclapadoaaCodeArg
namespace Go.Proofs.Ytngfhbclapadoaa
open Go.ChangeShapes Go.WideShapes Go.ChangeAt Go.RowKit
set_option linter.unusedVariables false
set_option maxRecDepth 100000

theorem codeJoins_lifted (os : Os) (started : os.Started) (H : Type) (enc : TypeId × Value → H) :
    ReturnsInHanded {} Try.checked os 7 .any (Rows.codeJoinsSpec.pre6 enc Try.prog Try.f7 [] false) (Rows.codeJoinsSpec.post enc Try.prog Try.f7 false true false false) :=
  lift (C := Try.checked) (s := Rows.codeJoinsSpec) own (by kernel_rfl) Try.func7 laidOut rfl rfl Try.underlying4 (by kernel_rfl)
    (fun H ds hd => by match ds, hd with | [d1, d2], _ => rfl) os started H enc
    (ChangeSpec.witness6 (enc := enc) (C := Try.checked) false ⟨#[], #[.slice none 0 0, .slice none 0 0], []⟩ 8 (by kernel_rfl) (by kernel_rfl) (by kernel_rfl) (by kernel_rfl))
    (fun W base args ds ps hval0 hA0 => by
      have hval : ∀ (j : Nat) t v, Try.f7.params[j]? = some t → args[j]? = some v → Value.okWide Try.prog W .any base t v := hval0
      have hA : DataW.TrodAll enc Try.prog W 0 (fun _ => true) true Try.f7.params.toList args.toList ds ps := hA0
      rw [Try.params7] at hA hval
      obtain ⟨v0, s0, d0, e0, p0, q0, g0, h0, r0⟩ := args_cons hA
      obtain ⟨v1, s1, d1, e1, p1, q1, rfl, h1, r1⟩ := args_cons r0
      obtain ⟨rfl, _, _⟩ := trodAll_nil r1
      obtain rfl : args = #[v0, v1] := by cases args; simp_all
      obtain ⟨A, pa, ca, rfl, l1A, l2A, RA, OA, TA⟩ := stepl_of (hval 0 45 v0 rfl rfl) h0
      obtain ⟨B, pb, cb, rfl, l1B, l2B, RB, OB, TB⟩ := stepl_of (hval 1 45 v1 rfl rfl) h1
      exact codejoins_any A B pa pb ca cb OA l1A l2A OB l1B l2B W RA TA RB TB)

theorem codeJoins_holds : Rows.CodeJoinsSaid :=
  OpenClaim.holds_of_wide 7 Try.f7 rfl rfl rfl rfl rfl rfl rfl ⟨rfl, rfl, rfl, rfl, rfl⟩ rfl rfl rfl rfl rfl (by kernel_rfl) Try.func7 (by kernel_rfl)
    (of_decide_eq_true (by kernel_rfl)) (by unfold Func.isWrapper; rw [if_neg (of_decide_eq_false (by kernel_rfl))]; exact ⟨rfl, rfl⟩)
    (fun os started H enc _ => codeJoins_lifted os started H enc)
#print axioms codeJoins_holds
end Go.Proofs.Ytngfhbclapadoaa
