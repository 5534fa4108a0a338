/-
  KdtreeNobody answers true for any window and any number, and changes nothing that was there: of a tree that nobody made nothing is told. For every input, without a condition.
-/
import Derived.Test.YtghcfidmhabfhaaKdNobody
import Derived.Test.YtghcfidmhabfhaaLift
import Derived.Test.YtghcfidmhabfhaaOpen
namespace Go.Proofs.Ytghcfidmhabfhaa
open Go.ChangeShapes Go.WideShapes Go.ChangeAt Go.RowKit
set_option linter.unusedVariables false
set_option maxRecDepth 100000

theorem kdtreeNobody_lifted (os : Os) (started : os.Started) (H : Type) (enc : TypeId × Value → H) :
    ReturnsInHanded {} Try.checked os 5 .any (Rows.kdtreeNobodySpec.pre6 enc Try.prog Try.f5 [] false) (Rows.kdtreeNobodySpec.post enc Try.prog Try.f5 false true false false) :=
  lift (C := Try.checked) (s := Rows.kdtreeNobodySpec) own (by kernel_rfl) Try.func5 laidOut rfl rfl Try.underlying4 (by kernel_rfl)
    (fun H ds hd => by match ds, hd with | [d1, d2], _ => rfl) os started H enc
    (ChangeSpec.witness6 (enc := enc) (C := Try.checked) false ⟨#[], #[.agg #[.int .u32 0, .int .u32 0, .int .u32 0, .int .u32 0], .int .i64 0], []⟩ 8 (by kernel_rfl) (by kernel_rfl) (by kernel_rfl) (by kernel_rfl))
    (fun W base args ds ps hval0 hA0 => by
      have hval : ∀ (j : Nat) t v, Try.f5.params[j]? = some t → args[j]? = some v → Value.okWide Try.prog W .any base t v := hval0
      have hA : DataW.TrodAll enc Try.prog W 0 (fun _ => true) true Try.f5.params.toList args.toList ds ps := hA0
      rw [Try.params5] at hA hval
      obtain ⟨v0, s0, d0, e0, p0, q0, g0, h0, r0⟩ := args_cons hA
      obtain ⟨v1, s1, d1, e1, p1, q1, rfl, h1, r1⟩ := args_cons r0
      obtain ⟨rfl, _, _⟩ := trodAll_nil r1
      obtain rfl : args = #[v0, v1] := by cases args; simp_all
      obtain ⟨a, b, c, e, rfl, wa, wb, wc, we⟩ := open_four Try.underlying70 (by kernel_rfl) (by kernel_rfl) Try.underlying68 Try.underlying68 Try.underlying68 Try.underlying68 (hval 0 70 v0 rfl rfl) h0
      obtain ⟨k, rfl, _, _⟩ := open_i64 Try.underlying3 (hval 1 3 v1 rfl rfl) h1
      exact kdtreeNobody a b c e k W)

theorem kdtreeNobody_holds : Rows.KdtreeNobodySaid :=
  OpenClaim.holds_of_wide 5 Try.f5 rfl rfl rfl rfl rfl rfl rfl ⟨rfl, rfl, rfl, rfl, rfl⟩ rfl rfl rfl rfl rfl (by kernel_rfl) Try.func5 (by kernel_rfl)
    (of_decide_eq_true (by kernel_rfl)) (by unfold Func.isWrapper; rw [if_neg (of_decide_eq_false (by kernel_rfl))]; exact ⟨rfl, rfl⟩)
    (fun os started H enc _ => kdtreeNobody_lifted os started H enc)
#print axioms kdtreeNobody_holds
end Go.Proofs.Ytghcfidmhabfhaa
