/-
  LittleReads answers true for any octets and any fields, and changes nothing that was there: whatever is read is as the page says. For every input, without a condition.
-/
import Derived.Test.YtjlfpflgbanncaaLittleReads
import Derived.Test.YtjlfpflgbanncaaOctArg
import Derived.Test.YtjlfpflgbanncaaLiftSized
namespace Go.Proofs.Ytjlfpflgbanncaa
open Go.ChangeShapes Go.WideShapes Go.ChangeAt Go.RowKit
set_option linter.unusedVariables false
set_option maxRecDepth 100000

theorem littleReads_lifted (os : Os) (started : os.Started) (H : Type) (enc : TypeId × Value → H) :
    ReturnsInHanded {} Try.checked os 4 .any (Rows.littleReadsSpec.pre6 enc Try.prog Try.f4 [] false) (Rows.littleReadsSpec.post enc Try.prog Try.f4 false true false false) :=
  lift_sized (C := Try.checked) (s := Rows.littleReadsSpec) own (by kernel_rfl) Try.func4 laidOut rfl rfl Try.underlying4 (by kernel_rfl)
    (fun H ds hd => by match ds, hd with | [d1, d2], _ => rfl) os started H enc
    (ChangeSpec.witness6 (enc := enc) (C := Try.checked) false ⟨#[], #[.slice none 0 0, .slice none 0 0], []⟩ 8 (by kernel_rfl) (by kernel_rfl) (by kernel_rfl) (by kernel_rfl))
    (fun W base args ds ps hval0 hA0 hsz0 => by
      have hval : ∀ (j : Nat) t v, Try.f4.params[j]? = some t → args[j]? = some v → Value.okWide Try.prog W .any base t v := hval0
      have hA : DataW.TrodAll enc Try.prog W 0 (fun _ => true) true Try.f4.params.toList args.toList ds ps := hA0
      have hsz : (DataW.weightsEach Try.prog (Try.f4.params.toList ++ Rows.littleReadsSpec.plain.varTypes Try.prog) (ds ++ [])).all (· ≤ reachBytes) = true := hsz0
      rw [Try.params4] at hA hval hsz
      obtain ⟨v0, s0, d0, e0, p0, q0, g0, rfl, h0, r0⟩ := args_consd hA
      obtain ⟨v1, s1, d1, e1, p1, q1, rfl, rfl, h1, r1⟩ := args_consd r0
      obtain ⟨rfl, rfl, _⟩ := trodAll_nil r1
      obtain rfl : args = #[v0, v1] := by cases args; simp_all
      obtain ⟨l, a, cap, rfl, c1, c2, O, ha, hd⟩ := octl_of (hval 0 26 v0 rfl rfl) h0
      have hr := oct_reach hsz (j := 0) rfl rfl hd
      obtain ⟨n, F, hF, pf, nc, rfl, k1, k2, HR⟩ := fds_of (hval 1 22 v1 rfl rfl) h1
      exact littleReads a l cap pf n nc F hF k1 k2 (by omega) W ⟨c1, c2, O, ha⟩ HR)

theorem littleReads_holds : Rows.LittleReadsSaid :=
  OpenClaim.holds_of_wide 4 Try.f4 rfl rfl rfl rfl rfl rfl rfl ⟨rfl, rfl, rfl, rfl, rfl⟩ rfl rfl rfl rfl rfl (by kernel_rfl) Try.func4 (by kernel_rfl)
    (of_decide_eq_true (by kernel_rfl)) (by unfold Func.isWrapper; rw [if_neg (of_decide_eq_false (by kernel_rfl))]; exact ⟨rfl, rfl⟩)
    (fun os started H enc _ => littleReads_lifted os started H enc)
#print axioms littleReads_holds
end Go.Proofs.Ytjlfpflgbanncaa
