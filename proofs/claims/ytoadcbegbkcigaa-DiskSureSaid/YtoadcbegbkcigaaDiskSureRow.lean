/-
  DiskSure answers true for any two octets and any fates, and changes nothing that was there: what is sure lasts, whatever waits elsewhere, and whatever the fates. For every input, without a condition.
-/
import Derived.Test.YtoadcbegbkcigaaDiskSure
import Derived.Test.YtoadcbegbkcigaaFatesArg
import Derived.Test.YtoadcbegbkcigaaOctArg
import Derived.Test.YtoadcbegbkcigaaLiftSized
namespace Go.Proofs.Ytoadcbegbkcigaa
open Go.ChangeShapes Go.WideShapes Go.ChangeAt Go.RowKit
set_option linter.unusedVariables false
set_option maxRecDepth 100000

theorem diskSure_lifted (os : Os) (started : os.Started) (H : Type) (enc : TypeId × Value → H) :
    ReturnsInHanded {} Try.checked os 4 .any (Rows.diskSureSpec.pre6 enc Try.prog Try.f4 [] false) (Rows.diskSureSpec.post enc Try.prog Try.f4 false true false false) :=
  lift_sized (C := Try.checked) (s := Rows.diskSureSpec) own (by kernel_rfl) Try.func4 laidOut rfl rfl Try.underlying4 (by kernel_rfl)
    (fun H ds hd => by match ds, hd with | [d1, d2, d3, d4], _ => rfl) os started H enc
    (ChangeSpec.witness6 (enc := enc) (C := Try.checked) false ⟨#[], #[.int .u8 0, .int .u8 0, .slice none 0 0, .slice none 0 0], []⟩ 8 (by kernel_rfl) (by kernel_rfl) (by kernel_rfl) (by kernel_rfl))
    (fun W base args ds ps hval0 hA0 hsz0 => by
      have hval : ∀ (j : Nat) t v, Try.f4.params[j]? = some t → args[j]? = some v → Value.okWide Try.prog W .any base t v := hval0
      have hA : DataW.TrodAll enc Try.prog W 0 (fun _ => true) true Try.f4.params.toList args.toList ds ps := hA0
      have hsz : (DataW.weightsEach Try.prog (Try.f4.params.toList ++ Rows.diskSureSpec.plain.varTypes Try.prog) (ds ++ [])).all (· ≤ reachBytes) = true := hsz0
      rw [Try.params4] at hA hval hsz
      obtain ⟨v0, s0, d0, e0, p0, q0, g0, rfl, h0, r0⟩ := args_consd hA
      obtain ⟨v1, s1, d1, e1, p1, q1, rfl, rfl, h1, r1⟩ := args_consd r0
      obtain ⟨v2, s2, d2, e2, p2, q2, rfl, rfl, h2, r2⟩ := args_consd r1
      obtain ⟨v3, s3, d3, e3, p3, q3, rfl, rfl, h3, r3⟩ := args_consd r2
      obtain ⟨rfl, rfl, _⟩ := trodAll_nil r3
      obtain rfl : args = #[v0, v1, v2, v3] := by cases args; simp_all
      obtain ⟨a, rfl, _, _, wa⟩ := open_int Try.underlying5 (hval 0 5 v0 rfl rfl) h0
      have ba := bounds_u8 wa
      obtain ⟨c, rfl, _, _, wc⟩ := open_int Try.underlying5 (hval 1 5 v1 rfl rfl) h1
      have bc := bounds_u8 wc
      obtain ⟨F, fp, fcap, rfl, f1, f2, RF, f4, hd⟩ := fatl_of (hval 2 29 v2 rfl rfl) h2
      have hr := fat_reach hsz (j := 2) rfl rfl hd
      obtain ⟨qm, nm, cm, rfl⟩ := okWide_slice Try.underlying29 (hval 3 29 v3 rfl rfl)
      exact diskSure a c ba.1 ba.2 bc.1 bc.2 fp fcap F hr f4 qm nm cm W RF)

theorem diskSure_holds : Rows.DiskSureSaid :=
  OpenClaim.holds_of_wide 4 Try.f4 rfl rfl rfl rfl rfl rfl rfl ⟨rfl, rfl, rfl, rfl, rfl⟩ rfl rfl rfl rfl rfl (by kernel_rfl) Try.func4 (by kernel_rfl)
    (of_decide_eq_true (by kernel_rfl)) (by unfold Func.isWrapper; rw [if_neg (of_decide_eq_false (by kernel_rfl))]; exact ⟨rfl, rfl⟩)
    (fun os started H enc _ => diskSure_lifted os started H enc)
#print axioms diskSure_holds
end Go.Proofs.Ytoadcbegbkcigaa
