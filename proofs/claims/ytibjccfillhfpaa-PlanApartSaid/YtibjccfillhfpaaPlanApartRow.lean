/-
  PlanApart answers true for any two octets and any entries, and changes nothing that was there: parts are within their segments, and no two have a sector in common. For every input, without a condition.
-/
import Derived.Test.YtibjccfillhfpaaPlanApart
import Derived.Test.YtibjccfillhfpaaPlanArg
import Derived.Test.YtibjccfillhfpaaLift
import Derived.Test.YtibjccfillhfpaaOpen
namespace Go.Proofs.Ytibjccfillhfpaa
open Go.ChangeShapes Go.WideShapes Go.ChangeAt Go.RowKit
set_option linter.unusedVariables false
set_option maxRecDepth 100000

theorem planApart_lifted (os : Os) (started : os.Started) (H : Type) (enc : TypeId × Value → H) :
    ReturnsInHanded {} Try.checked os 5 .any (Rows.planApartSpec.pre6 enc Try.prog Try.f5 [] false) (Rows.planApartSpec.post enc Try.prog Try.f5 false true false false) :=
  lift (C := Try.checked) (s := Rows.planApartSpec) own (by kernel_rfl) Try.func5 laidOut rfl rfl Try.underlying4 (by kernel_rfl)
    (fun H ds hd => by match ds, hd with | [d1, d2, d3], _ => rfl) os started H enc
    (ChangeSpec.witness6 (enc := enc) (C := Try.checked) false ⟨#[], #[.int .u8 0, .int .u8 0, .slice none 0 0], []⟩ 8 (by kernel_rfl) (by kernel_rfl) (by kernel_rfl) (by kernel_rfl))
    (fun W base args ds ps hval0 hA0 => by
      have hval : ∀ (j : Nat) t v, Try.f5.params[j]? = some t → args[j]? = some v → Value.okWide Try.prog W .any base t v := hval0
      have hA : DataW.TrodAll enc Try.prog W 0 (fun _ => true) true Try.f5.params.toList args.toList ds ps := hA0
      rw [Try.params5] at hA hval
      obtain ⟨v0, s0, d0, e0, p0, q0, g0, h0, r0⟩ := args_cons hA
      obtain ⟨v1, s1, d1, e1, p1, q1, rfl, h1, r1⟩ := args_cons r0
      obtain ⟨v2, s2, d2, e2, p2, q2, rfl, h2, r2⟩ := args_cons r1
      obtain ⟨rfl, _, _⟩ := trodAll_nil r2
      obtain rfl : args = #[v0, v1, v2] := by cases args; simp_all
      obtain ⟨az, rfl, _, _, aw⟩ := open_int Try.underlying5 (hval 0 5 v0 rfl rfl) h0
      have ab := bounds_u8 aw
      obtain ⟨bz, rfl, _, _, bw⟩ := open_int Try.underlying5 (hval 1 5 v1 rfl rfl) h1
      have bb := bounds_u8 bw
      obtain ⟨L, lp, lcap, rfl, l1, l2, RL⟩ := enl_of (hval 2 27 v2 rfl rfl) h2
      exact planApart az bz lp lcap L ab.1 ab.2 bb.1 bb.2 l1 l2 W RL)

theorem planApart_holds : Rows.PlanApartSaid :=
  OpenClaim.holds_of_wide 5 Try.f5 rfl rfl rfl rfl rfl rfl rfl ⟨rfl, rfl, rfl, rfl, rfl⟩ rfl rfl rfl rfl rfl (by kernel_rfl) Try.func5 (by kernel_rfl)
    (of_decide_eq_true (by kernel_rfl)) (by unfold Func.isWrapper; rw [if_neg (of_decide_eq_false (by kernel_rfl))]; exact ⟨rfl, rfl⟩)
    (fun os started H enc _ => planApart_lifted os started H enc)
#print axioms planApart_holds
end Go.Proofs.Ytibjccfillhfpaa
