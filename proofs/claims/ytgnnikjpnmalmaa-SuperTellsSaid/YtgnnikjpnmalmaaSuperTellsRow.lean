/-
  SuperTells answers true for any geometry and any octets, and changes nothing that was there: any geometry's head, and the geometry of any octets, are as the page says; heads come back. For every input, without a condition.
-/
import Derived.Test.YtgnnikjpnmalmaaSuperTells
import Derived.Test.YtgnnikjpnmalmaaOctArg
namespace Go.Proofs.Ytgnnikjpnmalmaa
open Go.ChangeShapes Go.WideShapes Go.ChangeAt Go.RowKit
set_option linter.unusedVariables false
set_option maxRecDepth 100000

theorem superTells_lifted (os : Os) (started : os.Started) (H : Type) (enc : TypeId × Value → H) :
    ReturnsInHanded {} Try.checked os 14 .any (Rows.superTellsSpec.pre6 enc Try.prog Try.f14 [] false) (Rows.superTellsSpec.post enc Try.prog Try.f14 false true false false) :=
  lift (C := Try.checked) (s := Rows.superTellsSpec) own (by kernel_rfl) Try.func14 laidOut rfl rfl Try.underlying4 (by kernel_rfl)
    (fun H ds hd => by match ds, hd with | [d1, d2], _ => rfl) os started H enc
    (ChangeSpec.witness6 (enc := enc) (C := Try.checked) false ⟨#[], #[.agg #[.int .i64 0, .int .i64 0], .slice none 0 0], []⟩ 8 (by kernel_rfl) (by kernel_rfl) (by kernel_rfl) (by kernel_rfl))
    (fun W base args ds ps hval0 hA0 => by
      have hval : ∀ (j : Nat) t v, Try.f14.params[j]? = some t → args[j]? = some v → Value.okWide Try.prog W .any base t v := hval0
      have hA : DataW.TrodAll enc Try.prog W 0 (fun _ => true) true Try.f14.params.toList args.toList ds ps := hA0
      rw [Try.params14] at hA hval
      obtain ⟨v0, s0, d0, e0, p0, q0, g0, h0, r0⟩ := args_cons hA
      obtain ⟨v1, s1, d1, e1, p1, q1, rfl, h1, r1⟩ := args_cons r0
      obtain ⟨rfl, _, _⟩ := trodAll_nil r1
      obtain rfl : args = #[v0, v1] := by cases args; simp_all
      obtain ⟨n, z, rfl, _, _⟩ := open_two Try.underlying101 (by kernel_rfl) (by kernel_rfl) Try.underlying3 Try.underlying3 (hval 0 101 v0 rfl rfl) h0
      obtain ⟨l, a, cap, rfl, c1, c2, O, _, _⟩ := octl_of (hval 1 22 v1 rfl rfl) h1
      exact superTells n z l a cap c1 c2 W O)

theorem superTells_holds : Rows.SuperTellsSaid :=
  OpenClaim.holds_of_wide 14 Try.f14 rfl rfl rfl rfl rfl rfl rfl ⟨rfl, rfl, rfl, rfl, rfl⟩ rfl rfl rfl rfl rfl (by kernel_rfl) Try.func14 (by kernel_rfl)
    (of_decide_eq_true (by kernel_rfl)) (by unfold Func.isWrapper; rw [if_neg (of_decide_eq_false (by kernel_rfl))]; exact ⟨rfl, rfl⟩)
    (fun os started H enc _ => superTells_lifted os started H enc)
#print axioms superTells_holds
end Go.Proofs.Ytgnnikjpnmalmaa
