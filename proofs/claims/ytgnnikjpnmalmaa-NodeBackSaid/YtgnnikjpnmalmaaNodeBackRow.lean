/-
  NodeBack answers true for any node and any octets, and changes nothing that was there: nodes come back from their octets, and octets from their nodes. For every input, without a condition.
-/
import Derived.Test.YtgnnikjpnmalmaaNodeBack
import Derived.Test.YtgnnikjpnmalmaaNodeArg
import Derived.Test.YtgnnikjpnmalmaaLiftSized
import Derived.Test.YtgnnikjpnmalmaaOctArg
import Derived.Test.YtgnnikjpnmalmaaOpen
namespace Go.Proofs.Ytgnnikjpnmalmaa
open Go.ChangeShapes Go.WideShapes Go.ChangeAt Go.RowKit
set_option linter.unusedVariables false
set_option maxRecDepth 100000

theorem nodeBack_lifted (os : Os) (started : os.Started) (H : Type) (enc : TypeId × Value → H) :
    ReturnsInHanded {} Try.checked os 8 .any (Rows.nodeBackSpec.pre6 enc Try.prog Try.f8 [] false) (Rows.nodeBackSpec.post enc Try.prog Try.f8 false true false false) :=
  lift_sized (C := Try.checked) (s := Rows.nodeBackSpec) own (by kernel_rfl) Try.func8 laidOut rfl rfl Try.underlying4 (by kernel_rfl)
    (fun H ds hd => by match ds, hd with | [d1, d2], _ => rfl) os started H enc
    (ChangeSpec.witness6 (enc := enc) (C := Try.checked) false ⟨#[], #[.agg #[.bool false, .slice none 0 0, .int .i64 0, .int .i64 0, .int .i64 0, .int .i64 0, .int .i64 0, .int .i64 0, .int .i64 0, .int .i64 0, .int .i64 0], .slice none 0 0], []⟩ 8 (by kernel_rfl) (by kernel_rfl) (by kernel_rfl) (by kernel_rfl))
    (fun W base args ds ps hval0 hA0 hsz0 => by
      have hval : ∀ (j : Nat) t v, Try.f8.params[j]? = some t → args[j]? = some v → Value.okWide Try.prog W .any base t v := hval0
      have hA : DataW.TrodAll enc Try.prog W 0 (fun _ => true) true Try.f8.params.toList args.toList ds ps := hA0
      have hsz : (DataW.weightsEach Try.prog (Try.f8.params.toList ++ Rows.nodeBackSpec.plain.varTypes Try.prog) (ds ++ [])).all (· ≤ reachBytes) = true := hsz0
      rw [Try.params8] at hA hval hsz
      obtain ⟨v0, s0, d0, e0, p0, q0, g0, rfl, h0, r0⟩ := args_consd hA
      obtain ⟨v1, s1, d1, e1, p1, q1, rfl, rfl, h1, r1⟩ := args_consd r0
      obtain ⟨rfl, rfl, _⟩ := trodAll_nil r1
      obtain rfl : args = #[v0, v1] := by cases args; simp_all
      obtain ⟨lf, q, n, cap, f, nx, k, c, rfl, c1, c2, HR, hf, _⟩ := nd_of (hval 0 61 v0 rfl rfl) h0
      obtain ⟨l, a, cp, rfl, k1, k2, O, _, hx⟩ := octl_of (hval 1 22 v1 rfl rfl) h1
      have hl := oct_reach hsz (j := 1) rfl rfl hx
      exact nodeBack lf q n cap f hf nx k c l a cp c1 c2 k1 k2 (by omega) W HR O)

theorem nodeBack_holds : Rows.NodeBackSaid :=
  OpenClaim.holds_of_wide 8 Try.f8 rfl rfl rfl rfl rfl rfl rfl ⟨rfl, rfl, rfl, rfl, rfl⟩ rfl rfl rfl rfl rfl (by kernel_rfl) Try.func8 (by kernel_rfl)
    (of_decide_eq_true (by kernel_rfl)) (by unfold Func.isWrapper; rw [if_neg (of_decide_eq_false (by kernel_rfl))]; exact ⟨rfl, rfl⟩)
    (fun os started H enc _ => nodeBack_lifted os started H enc)
#print axioms nodeBack_holds
end Go.Proofs.Ytgnnikjpnmalmaa
