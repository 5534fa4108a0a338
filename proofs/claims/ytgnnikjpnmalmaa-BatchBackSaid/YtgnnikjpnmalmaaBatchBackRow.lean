/-
  BatchBack answers true for any summary, any octets and any place of a cut, and changes nothing that was there: summaries come back from their octets, and octets from their summaries; what is cut is none. For every input, without a condition.
-/
import Derived.Test.YtgnnikjpnmalmaaBatchBack
import Derived.Test.YtgnnikjpnmalmaaBatchArg
import Derived.Test.YtgnnikjpnmalmaaLiftSized
import Derived.Test.YtgnnikjpnmalmaaOctArg
import Derived.Test.YtgnnikjpnmalmaaOpen
namespace Go.Proofs.Ytgnnikjpnmalmaa
open Go.ChangeShapes Go.WideShapes Go.ChangeAt Go.RowKit
set_option linter.unusedVariables false
set_option maxRecDepth 100000

theorem batchBack_lifted (os : Os) (started : os.Started) (H : Type) (enc : TypeId × Value → H) :
    ReturnsInHanded {} Try.checked os 13 .any (Rows.batchBackSpec.pre6 enc Try.prog Try.f13 [] false) (Rows.batchBackSpec.post enc Try.prog Try.f13 false true false false) :=
  lift_sized (C := Try.checked) (s := Rows.batchBackSpec) own (by kernel_rfl) Try.func13 laidOut rfl rfl Try.underlying4 (by kernel_rfl)
    (fun H ds hd => by match ds, hd with | [d1, d2, d3], _ => rfl) os started H enc
    (ChangeSpec.witness6 (enc := enc) (C := Try.checked) false ⟨#[], #[.agg #[.int .i64 0, .bool false, .slice none 0 0], .slice none 0 0, .int .i64 0], []⟩ 8 (by kernel_rfl) (by kernel_rfl) (by kernel_rfl) (by kernel_rfl))
    (fun W base args ds ps hval0 hA0 hsz0 => by
      have hval : ∀ (j : Nat) t v, Try.f13.params[j]? = some t → args[j]? = some v → Value.okWide Try.prog W .any base t v := hval0
      have hA : DataW.TrodAll enc Try.prog W 0 (fun _ => true) true Try.f13.params.toList args.toList ds ps := hA0
      have hsz : (DataW.weightsEach Try.prog (Try.f13.params.toList ++ Rows.batchBackSpec.plain.varTypes Try.prog) (ds ++ [])).all (· ≤ reachBytes) = true := hsz0
      rw [Try.params13] at hA hval hsz
      obtain ⟨v0, s0, d0, e0, p0, q0, g0, rfl, h0, r0⟩ := args_consd hA
      obtain ⟨v1, s1, d1, e1, p1, q1, rfl, rfl, h1, r1⟩ := args_consd r0
      obtain ⟨v2, s2, d2, e2, p2, q2, rfl, rfl, h2, r2⟩ := args_consd r1
      obtain ⟨rfl, rfl, _⟩ := trodAll_nil r2
      obtain rfl : args = #[v0, v1, v2] := by cases args; simp_all
      obtain ⟨nx, la, q, n, cap, f, rfl, c1, c2, HR, hd⟩ := sm_of (hval 0 90 v0 rfl rfl) h0
      obtain ⟨l, a, cp, rfl, k1, k2, O, _, hx⟩ := octl_of (hval 1 22 v1 rfl rfl) h1
      obtain ⟨cut, rfl, g1, g2⟩ := open_i64 Try.underlying3 (hval 2 3 v2 rfl rfl) h2
      have hl := oct_reach hsz (j := 1) rfl rfl hx
      exact batchBack nx la q n cap f l a cp cut g1 g2 c1 c2 k1 k2 (by omega) W HR O)

theorem batchBack_holds : Rows.BatchBackSaid :=
  OpenClaim.holds_of_wide 13 Try.f13 rfl rfl rfl rfl rfl rfl rfl ⟨rfl, rfl, rfl, rfl, rfl⟩ rfl rfl rfl rfl rfl (by kernel_rfl) Try.func13 (by kernel_rfl)
    (of_decide_eq_true (by kernel_rfl)) (by unfold Func.isWrapper; rw [if_neg (of_decide_eq_false (by kernel_rfl))]; exact ⟨rfl, rfl⟩)
    (fun os started H enc _ => batchBack_lifted os started H enc)
#print axioms batchBack_holds
end Go.Proofs.Ytgnnikjpnmalmaa
