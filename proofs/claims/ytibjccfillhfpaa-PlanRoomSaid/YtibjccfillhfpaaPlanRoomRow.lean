/-
  PlanRoom answers true for any geometry, any place, any free segments and any octet, and changes nothing that was there: as many written entries as there is room for can go, and no more. For every input, without a condition.
-/
import Derived.Test.YtibjccfillhfpaaPlanRoom
import Derived.Test.YtibjccfillhfpaaPlanArg
import Derived.Test.YtibjccfillhfpaaLiftSized
namespace Go.Proofs.Ytibjccfillhfpaa
open Go.ChangeShapes Go.WideShapes Go.ChangeAt Go.RowKit
set_option linter.unusedVariables false
set_option maxRecDepth 100000

theorem planRoom_lifted (os : Os) (started : os.Started) (H : Type) (enc : TypeId × Value → H) :
    ReturnsInHanded {} Try.checked os 4 .any (Rows.planRoomSpec.pre6 enc Try.prog Try.f4 [] false) (Rows.planRoomSpec.post enc Try.prog Try.f4 false true false false) :=
  lift_sized (C := Try.checked) (s := Rows.planRoomSpec) own (by kernel_rfl) Try.func4 laidOut rfl rfl Try.underlying4 (by kernel_rfl)
    (fun H ds hd => by match ds, hd with | [d1, d2, d3, d4], _ => rfl) os started H enc
    (ChangeSpec.witness6 (enc := enc) (C := Try.checked) false ⟨#[], #[.agg #[.int .i64 0, .int .i64 0], .agg #[.int .i64 0, .int .i64 0, .int .i64 0], .slice none 0 0, .int .u8 0], []⟩ 8 (by kernel_rfl) (by kernel_rfl) (by kernel_rfl) (by kernel_rfl))
    (fun W base args ds ps hval0 hA0 hsz0 => by
      have hval : ∀ (j : Nat) t v, Try.f4.params[j]? = some t → args[j]? = some v → Value.okWide Try.prog W .any base t v := hval0
      have hA : DataW.TrodAll enc Try.prog W 0 (fun _ => true) true Try.f4.params.toList args.toList ds ps := hA0
      have hsz : (DataW.weightsEach Try.prog (Try.f4.params.toList ++ Rows.planRoomSpec.plain.varTypes Try.prog) (ds ++ [])).all (· ≤ reachBytes) = true := hsz0
      rw [Try.params4] at hA hval hsz
      obtain ⟨v0, s0, d0, e0, p0, q0, g0, rfl, h0, r0⟩ := args_consd hA
      obtain ⟨v1, s1, d1, e1, p1, q1, rfl, rfl, h1, r1⟩ := args_consd r0
      obtain ⟨v2, s2, d2, e2, p2, q2, rfl, rfl, h2, r2⟩ := args_consd r1
      obtain ⟨v3, s3, d3, e3, p3, q3, rfl, rfl, h3, r3⟩ := args_consd r2
      obtain ⟨rfl, rfl, _⟩ := trodAll_nil r3
      obtain rfl : args = #[v0, v1, v2, v3] := by cases args; simp_all
      obtain ⟨n, z, rfl, _, _⟩ := open_two Try.underlying23 (by kernel_rfl) (by kernel_rfl) Try.underlying3 Try.underlying3 (hval 0 23 v0 rfl rfl) h0
      obtain ⟨s, o, x, rfl, _, _, _⟩ := open_three Try.underlying25 (by kernel_rfl) (by kernel_rfl) Try.underlying3 Try.underlying3 Try.underlying3 (hval 1 25 v1 rfl rfl) h1
      obtain ⟨F, fp, fcap, rfl, f1, f2, RF, f4, hd⟩ := inl_of (hval 2 26 v2 rfl rfl) h2
      have hr := int_reach hsz (j := 2) rfl rfl hd
      obtain ⟨mz, rfl, _, _, mw⟩ := open_int Try.underlying5 (hval 3 5 v3 rfl rfl) h3
      have mb := bounds_u8 mw
      exact planRoom n z s o x fp fcap F mz mb.1 mb.2 f1 f2 hr f4 W RF)

theorem planRoom_holds : Rows.PlanRoomSaid :=
  OpenClaim.holds_of_wide 4 Try.f4 rfl rfl rfl rfl rfl rfl rfl ⟨rfl, rfl, rfl, rfl, rfl⟩ rfl rfl rfl rfl rfl (by kernel_rfl) Try.func4 (by kernel_rfl)
    (of_decide_eq_true (by kernel_rfl)) (by unfold Func.isWrapper; rw [if_neg (of_decide_eq_false (by kernel_rfl))]; exact ⟨rfl, rfl⟩)
    (fun os started H enc _ => planRoom_lifted os started H enc)
#print axioms planRoom_holds
end Go.Proofs.Ytibjccfillhfpaa
