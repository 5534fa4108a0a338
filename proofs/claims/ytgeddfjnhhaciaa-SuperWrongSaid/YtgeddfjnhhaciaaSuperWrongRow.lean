/-
  SuperWrong answers true for any kind, stamp and text, and changes nothing that was there: a sector of another kind, stamp or text is no head. For every input, without a condition.
-/
import Derived.Test.YtgeddfjnhhaciaaSuperWrong
import Derived.Test.YtgeddfjnhhaciaaStampArg
import Derived.Test.YtgeddfjnhhaciaaOctArg
namespace Go.Proofs.Ytgeddfjnhhaciaa
open Go.ChangeShapes Go.WideShapes Go.ChangeAt Go.RowKit
set_option linter.unusedVariables false
set_option maxRecDepth 100000

theorem superWrong_lifted (os : Os) (started : os.Started) (H : Type) (enc : TypeId × Value → H) :
    ReturnsInHanded {} Try.checked os 3 .any (Rows.superWrongSpec.pre6 enc Try.prog Try.f3 [] false) (Rows.superWrongSpec.post enc Try.prog Try.f3 false true false false) :=
  lift (C := Try.checked) (s := Rows.superWrongSpec) own (by kernel_rfl) Try.func3 laidOut rfl rfl Try.underlying4 (by kernel_rfl)
    (fun H ds hd => by match ds, hd with | [d1, d2, d3], _ => rfl) os started H enc
    (ChangeSpec.witness6 (enc := enc) (C := Try.checked) false ⟨#[], #[.int .i64 0, .agg #[.int .i64 0, .int .i64 0, .int .i64 0], .slice none 0 0], []⟩ 8 (by kernel_rfl) (by kernel_rfl) (by kernel_rfl) (by kernel_rfl))
    (fun W base args ds ps hval0 hA0 => by
      have hval : ∀ (j : Nat) t v, Try.f3.params[j]? = some t → args[j]? = some v → Value.okWide Try.prog W .any base t v := hval0
      have hA : DataW.TrodAll enc Try.prog W 0 (fun _ => true) true Try.f3.params.toList args.toList ds ps := hA0
      rw [Try.params3] at hA hval
      obtain ⟨v0, s0, d0, e0, p0, q0, g0, h0, r0⟩ := args_cons hA
      obtain ⟨v1, s1, d1, e1, p1, q1, rfl, h1, r1⟩ := args_cons r0
      obtain ⟨v2, s2, d2, e2, p2, q2, rfl, h2, r2⟩ := args_cons r1
      obtain ⟨rfl, _, _⟩ := trodAll_nil r2
      obtain rfl : args = #[v0, v1, v2] := by cases args; simp_all
      obtain ⟨k, rfl, _, _⟩ := open_i64 Try.underlying3 (hval 0 3 v0 rfl rfl) h0
      obtain ⟨t, _, rfl⟩ := st_of (hval 1 23 v1 rfl rfl) h1
      obtain ⟨l, a, cap, rfl, c1, c2, O, _, _⟩ := octl_of (hval 2 24 v2 rfl rfl) h2
      exact superWrong k t l a cap c1 c2 W O)

theorem superWrong_holds : Rows.SuperWrongSaid :=
  OpenClaim.holds_of_wide 3 Try.f3 rfl rfl rfl rfl rfl rfl rfl ⟨rfl, rfl, rfl, rfl, rfl⟩ rfl rfl rfl rfl rfl (by kernel_rfl) Try.func3 (by kernel_rfl)
    (of_decide_eq_true (by kernel_rfl)) (by unfold Func.isWrapper; rw [if_neg (of_decide_eq_false (by kernel_rfl))]; exact ⟨rfl, rfl⟩)
    (fun os started H enc _ => superWrong_lifted os started H enc)
#print axioms superWrong_holds
end Go.Proofs.Ytgeddfjnhhaciaa
