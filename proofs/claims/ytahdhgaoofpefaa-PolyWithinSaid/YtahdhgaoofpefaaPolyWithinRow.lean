/-
  PolyWithin answers true for any points and any place, and changes nothing that was there: whether a place is on a polygon, or within it, is by its sides, one by one. For every input, without a condition.
-/
import Derived.Test.YtahdhgaoofpefaaPolyWithinLaw
import Derived.Test.YtahdhgaoofpefaaSlices
import Derived.Test.YtahdhgaoofpefaaPtAll
import Derived.Test.YtahdhgaoofpefaaPointArg
import Derived.Test.YtahdhgaoofpefaaLift
import Derived.Test.YtahdhgaoofpefaaOpen
namespace Go.Proofs.Ytahdhgaoofpefaa
open Go.ChangeShapes Go.WideShapes Go.ChangeAt Go.RowKit
set_option linter.unusedVariables false
set_option maxRecDepth 100000

theorem polyWithin_lifted (os : Os) (started : os.Started) (H : Type) (enc : TypeId × Value → H) :
    ReturnsInHanded {} Try.checked os 8 .any (Rows.polyWithinSpec.pre6 enc Try.prog Try.f8 [] false) (Rows.polyWithinSpec.post enc Try.prog Try.f8 false true false false) :=
  lift (C := Try.checked) (s := Rows.polyWithinSpec) own (by kernel_rfl) Try.func8 laidOut rfl rfl Try.underlying4 (by kernel_rfl)
    (fun H ds hd => by match ds, hd with | [d1, d2], _ => rfl) os started H enc
    (ChangeSpec.witness6 (enc := enc) (C := Try.checked) false ⟨#[], #[.slice none 0 0, .agg #[.int .i64 0, .int .u32 0, .int .u32 0, .string ByteArray.empty]], []⟩ 8 (by kernel_rfl) (by kernel_rfl) (by kernel_rfl) (by kernel_rfl))
    (fun W base args ds ps hval0 hA0 => by
      have hval : ∀ (j : Nat) t v, Try.f8.params[j]? = some t → args[j]? = some v → Value.okWide Try.prog W .any base t v := hval0
      have hA : DataW.TrodAll enc Try.prog W 0 (fun _ => true) true Try.f8.params.toList args.toList ds ps := hA0
      rw [Try.params8] at hA hval
      obtain ⟨v0, s0, d0, e0, p0, q0, g0, h0, r0⟩ := args_cons hA
      obtain ⟨v1, s1, d1, e1, p1, q1, rfl, h1, r1⟩ := args_cons r0
      obtain ⟨rfl, _, _⟩ := trodAll_nil r1
      obtain rfl : args = #[v0, v1] := by cases args; simp_all
      obtain ⟨n, f0, hf0, hs⟩ := pts_of (hval 0 60 v0 rfl rfl) h0
      obtain ⟨p, cap, rfl, c1, c2, HR0⟩ := hs.open
      obtain ⟨f, hf, HR⟩ := pts_total hf0 HR0
      obtain ⟨P, hP, rfl⟩ := pt_of (hval 1 63 v1 rfl rfl) h1
      exact polyWithin p n cap f hf c1 c2 P hP W HR)

theorem polyWithin_holds : Rows.PolyWithinSaid :=
  OpenClaim.holds_of_wide 8 Try.f8 rfl rfl rfl rfl rfl rfl rfl ⟨rfl, rfl, rfl, rfl, rfl⟩ rfl rfl rfl rfl rfl (by kernel_rfl) Try.func8 (by kernel_rfl)
    (of_decide_eq_true (by kernel_rfl)) (by unfold Func.isWrapper; rw [if_neg (of_decide_eq_false (by kernel_rfl))]; exact ⟨rfl, rfl⟩)
    (fun os started H enc _ => polyWithin_lifted os started H enc)
#print axioms polyWithin_holds
end Go.Proofs.Ytahdhgaoofpefaa
