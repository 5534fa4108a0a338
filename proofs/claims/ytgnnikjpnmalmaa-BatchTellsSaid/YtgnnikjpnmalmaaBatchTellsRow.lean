/-
  BatchTells answers true for any two summaries, and changes nothing that was there: which summaries may be, any one's octets, and how many sectors stand behind, are as the page says. For every input, without a condition.
-/
import Derived.Test.YtgnnikjpnmalmaaBatchTells
import Derived.Test.YtgnnikjpnmalmaaBatchArg
import Derived.Test.YtgnnikjpnmalmaaLiftSized
namespace Go.Proofs.Ytgnnikjpnmalmaa
open Go.ChangeShapes Go.WideShapes Go.ChangeAt Go.RowKit
set_option linter.unusedVariables false
set_option maxRecDepth 100000

theorem batchTells_lifted (os : Os) (started : os.Started) (H : Type) (enc : TypeId × Value → H) :
    ReturnsInHanded {} Try.checked os 12 .any (Rows.batchTellsSpec.pre6 enc Try.prog Try.f12 [] false) (Rows.batchTellsSpec.post enc Try.prog Try.f12 false true false false) :=
  lift_sized (C := Try.checked) (s := Rows.batchTellsSpec) own (by kernel_rfl) Try.func12 laidOut rfl rfl Try.underlying4 (by kernel_rfl)
    (fun H ds hd => by match ds, hd with | [d1, d2], _ => rfl) os started H enc
    (ChangeSpec.witness6 (enc := enc) (C := Try.checked) false ⟨#[], #[.agg #[.int .i64 0, .bool false, .slice none 0 0], .agg #[.int .i64 0, .bool false, .slice none 0 0]], []⟩ 8 (by kernel_rfl) (by kernel_rfl) (by kernel_rfl) (by kernel_rfl))
    (fun W base args ds ps hval0 hA0 hsz0 => by
      have hval : ∀ (j : Nat) t v, Try.f12.params[j]? = some t → args[j]? = some v → Value.okWide Try.prog W .any base t v := hval0
      have hA : DataW.TrodAll enc Try.prog W 0 (fun _ => true) true Try.f12.params.toList args.toList ds ps := hA0
      have hsz : (DataW.weightsEach Try.prog (Try.f12.params.toList ++ Rows.batchTellsSpec.plain.varTypes Try.prog) (ds ++ [])).all (· ≤ reachBytes) = true := hsz0
      rw [Try.params12] at hA hval hsz
      obtain ⟨v0, s0, d0, e0, p0, q0, g0, rfl, h0, r0⟩ := args_consd hA
      obtain ⟨v1, s1, d1, e1, p1, q1, rfl, rfl, h1, r1⟩ := args_consd r0
      obtain ⟨rfl, rfl, _⟩ := trodAll_nil r1
      obtain rfl : args = #[v0, v1] := by cases args; simp_all
      obtain ⟨nx, la, q, n, cap, f, rfl, c1, c2, HR, hd⟩ := sm_of (hval 0 90 v0 rfl rfl) h0
      obtain ⟨nx', la', q', n', cap', f', rfl, c1', c2', HR', _⟩ := sm_of (hval 1 90 v1 rfl rfl) h1
      have hr := sm_reach hsz (j := 0) rfl rfl hd
      exact batchTells nx nx' la la' q q' n n' cap cap' f f' c1 c2 hr c1' c2' W HR HR')

theorem batchTells_holds : Rows.BatchTellsSaid :=
  OpenClaim.holds_of_wide 12 Try.f12 rfl rfl rfl rfl rfl rfl rfl ⟨rfl, rfl, rfl, rfl, rfl⟩ rfl rfl rfl rfl rfl (by kernel_rfl) Try.func12 (by kernel_rfl)
    (of_decide_eq_true (by kernel_rfl)) (by unfold Func.isWrapper; rw [if_neg (of_decide_eq_false (by kernel_rfl))]; exact ⟨rfl, rfl⟩)
    (fun os started H enc _ => batchTells_lifted os started H enc)
#print axioms batchTells_holds
end Go.Proofs.Ytgnnikjpnmalmaa
