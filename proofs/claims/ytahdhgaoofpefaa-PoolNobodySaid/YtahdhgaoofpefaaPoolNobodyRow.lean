/-
  PoolNobody answers true for any number, and changes nothing that was there: a pool that nobody made has nothing. For every input, without a condition.
-/
import Derived.Test.YtahdhgaoofpefaaPoolNobody
import Derived.Test.YtahdhgaoofpefaaSlices
import Derived.Test.YtahdhgaoofpefaaLift
import Derived.Test.YtahdhgaoofpefaaOpen
namespace Go.Proofs.Ytahdhgaoofpefaa
open Go.ChangeShapes Go.WideShapes Go.ChangeAt Go.RowKit
set_option linter.unusedVariables false
set_option maxRecDepth 100000

theorem poolNobody_lifted (os : Os) (started : os.Started) (H : Type) (enc : TypeId × Value → H) :
    ReturnsInHanded {} Try.checked os 4 .any (Rows.poolNobodySpec.pre6 enc Try.prog Try.f4 [] false) (Rows.poolNobodySpec.post enc Try.prog Try.f4 false true false false) :=
  lift (C := Try.checked) (s := Rows.poolNobodySpec) own (by kernel_rfl) Try.func4 laidOut rfl rfl Try.underlying4 (by kernel_rfl)
    (fun H ds hd => by match ds, hd with | [d1], _ => rfl) os started H enc
    (ChangeSpec.witness6 (enc := enc) (C := Try.checked) false ⟨#[], #[.int .i64 0], []⟩ 8 (by kernel_rfl) (by kernel_rfl) (by kernel_rfl) (by kernel_rfl))
    (fun W base args ds ps hval0 hA0 => by
      have hval : ∀ (j : Nat) t v, Try.f4.params[j]? = some t → args[j]? = some v → Value.okWide Try.prog W .any base t v := hval0
      have hA : DataW.TrodAll enc Try.prog W 0 (fun _ => true) true Try.f4.params.toList args.toList ds ps := hA0
      rw [Try.params4] at hA hval
      obtain ⟨v0, s0, d0, e0, p0, q0, g0, h0, r0⟩ := args_cons hA
      obtain ⟨rfl, _, _⟩ := trodAll_nil r0
      obtain rfl : args = #[v0] := by cases args; simp_all
      obtain ⟨n, rfl, _, _⟩ := open_i64 Try.underlying3 (hval 0 3 v0 rfl rfl) h0
      exact poolNobody n W)

theorem poolNobody_holds : Rows.PoolNobodySaid :=
  OpenClaim.holds_of_wide 4 Try.f4 rfl rfl rfl rfl rfl rfl rfl ⟨rfl, rfl, rfl, rfl, rfl⟩ rfl rfl rfl rfl rfl (by kernel_rfl) Try.func4 (by kernel_rfl)
    (of_decide_eq_true (by kernel_rfl)) (by unfold Func.isWrapper; rw [if_neg (of_decide_eq_false (by kernel_rfl))]; exact ⟨rfl, rfl⟩)
    (fun os started H enc _ => poolNobody_lifted os started H enc)
#print axioms poolNobody_holds
end Go.Proofs.Ytahdhgaoofpefaa
