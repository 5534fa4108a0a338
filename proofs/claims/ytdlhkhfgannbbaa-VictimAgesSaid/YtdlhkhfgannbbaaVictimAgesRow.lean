/-
  VictimAges answers true for any size, any number of needed sectors and any two ages, and changes nothing that was there. For every input, without a condition.
-/
import Derived.Test.YtdlhkhfgannbbaaVictimAges
import Derived.Test.YtdlhkhfgannbbaaOpen
namespace Go.Proofs.Ytdlhkhfgannbbaa
open Go.ChangeShapes Go.WideShapes Go.ChangeAt Go.RowKit
set_option linter.unusedVariables false
set_option maxRecDepth 100000

theorem victimAges_lifted (os : Os) (started : os.Started) (H : Type) (enc : TypeId × Value → H) :
    ReturnsInHanded {} Try.checked os 5 .any (Rows.victimAgesSpec.pre6 enc Try.prog Try.f5 [] false) (Rows.victimAgesSpec.post enc Try.prog Try.f5 false true false false) :=
  lift (C := Try.checked) (s := Rows.victimAgesSpec) own (by kernel_rfl) Try.func5 laidOut rfl rfl Try.underlying4 (by kernel_rfl)
    (fun H ds hd => by match ds, hd with | [d1, d2, d3, d4], _ => rfl) os started H enc
    (ChangeSpec.witness6 (enc := enc) (C := Try.checked) false ⟨#[], #[.int .i64 0, .int .i64 0, .int .u32 0, .int .u32 0], []⟩ 8 (by kernel_rfl) (by kernel_rfl) (by kernel_rfl) (by kernel_rfl))
    (fun W base args ds ps hval0 hA0 => by
      have hval : ∀ (j : Nat) t v, Try.f5.params[j]? = some t → args[j]? = some v → Value.okWide Try.prog W .any base t v := hval0
      have hA : DataW.TrodAll enc Try.prog W 0 (fun _ => true) true Try.f5.params.toList args.toList ds ps := hA0
      rw [Try.params5] at hA hval
      obtain ⟨v0, s0, d0, e0, p0, q0, g0, h0, r0⟩ := args_cons hA
      obtain ⟨v1, s1, d1, e1, p1, q1, rfl, h1, r1⟩ := args_cons r0
      obtain ⟨v2, s2, d2, e2, p2, q2, rfl, h2, r2⟩ := args_cons r1
      obtain ⟨v3, s3, d3, e3, p3, q3, rfl, h3, r3⟩ := args_cons r2
      obtain ⟨rfl, _, _⟩ := trodAll_nil r3
      obtain rfl : args = #[v0, v1, v2, v3] := by cases args; simp_all
      obtain ⟨z, rfl, hz, hz'⟩ := open_i64 Try.underlying3 (hval 0 3 v0 rfl rfl) h0
      obtain ⟨m, rfl, hm, hm'⟩ := open_i64 Try.underlying3 (hval 1 3 v1 rfl rfl) h1
      obtain ⟨a, rfl, ha, ha'⟩ := open_u32 Try.underlying33 (hval 2 33 v2 rfl rfl) h2
      obtain ⟨b, rfl, hb, hb'⟩ := open_u32 Try.underlying33 (hval 3 33 v3 rfl rfl) h3
      exact victimAges z m a b hz hz' hm hm' ha ha' hb hb' W)

theorem victimAges_holds : Rows.VictimAgesSaid :=
  OpenClaim.holds_of_wide 5 Try.f5 rfl rfl rfl rfl rfl rfl rfl ⟨rfl, rfl, rfl, rfl, rfl⟩ rfl rfl rfl rfl rfl (by kernel_rfl) Try.func5 (by kernel_rfl)
    (of_decide_eq_true (by kernel_rfl)) (by unfold Func.isWrapper; rw [if_neg (of_decide_eq_false (by kernel_rfl))]; exact ⟨rfl, rfl⟩)
    (fun os started H enc _ => victimAges_lifted os started H enc)
#print axioms victimAges_holds
end Go.Proofs.Ytdlhkhfgannbbaa
