/-
  NmapTells answers true for any map of Ids, any Id and any sector, and changes nothing that was there: what is set, and which Ids are somewhere, is as the page says; whether sectors are apart, too. For every input, without a condition.
-/
import Derived.Test.YtjmacojlneldaaaNmapTells
import Derived.Test.YtjmacojlneldaaaLift
import Derived.Test.YtjmacojlneldaaaOpen
import Derived.Test.YtjmacojlneldaaaArrArg
namespace Go.Proofs.Ytjmacojlneldaaa
open Go.ChangeShapes Go.WideShapes Go.ChangeAt Go.RowKit
set_option linter.unusedVariables false
set_option maxRecDepth 100000

theorem nmapTells_lifted (os : Os) (started : os.Started) (H : Type) (enc : TypeId × Value → H) :
    ReturnsInHanded {} Try.checked os 9 .any (Rows.nmapTellsSpec.pre6 enc Try.prog Try.f9 [] false) (Rows.nmapTellsSpec.post enc Try.prog Try.f9 false true false false) :=
  lift (C := Try.checked) (s := Rows.nmapTellsSpec) own (by kernel_rfl) Try.func9 laidOut rfl rfl Try.underlying4 (by kernel_rfl)
    (fun H ds hd => by match ds, hd with | [d1, d2, d3], _ => rfl) os started H enc
    (ChangeSpec.witness6 (enc := enc) (C := Try.checked) false ⟨#[], #[(.agg (Array.replicate 256 (.int .i64 0))), .int .i64 0, .int .i64 0], []⟩ 8 (by kernel_rfl) (by kernel_rfl) (by kernel_rfl) (by kernel_rfl))
    (fun W base args ds ps hval0 hA0 => by
      have hval : ∀ (j : Nat) t v, Try.f9.params[j]? = some t → args[j]? = some v → Value.okWide Try.prog W .any base t v := hval0
      have hA : DataW.TrodAll enc Try.prog W 0 (fun _ => true) true Try.f9.params.toList args.toList ds ps := hA0
      rw [Try.params9] at hA hval
      obtain ⟨v0, s0, d0, e0, p0, q0, g0, h0, r0⟩ := args_cons hA
      obtain ⟨v1, s1, d1, e1, p1, q1, rfl, h1, r1⟩ := args_cons r0
      obtain ⟨v2, s2, d2, e2, p2, q2, rfl, h2, r2⟩ := args_cons r1
      obtain ⟨rfl, _, _⟩ := trodAll_nil r2
      obtain rfl : args = #[v0, v1, v2] := by cases args; simp_all
      obtain ⟨c, F, rfl, Nc, Wc⟩ := arr_of Try.underlying44 Try.underlying3 (by kernel_rfl) (by kernel_rfl) (hval 0 44 v0 rfl rfl) h0
      obtain ⟨i, rfl, hi, hi'⟩ := open_i64 Try.underlying3 (hval 1 3 v1 rfl rfl) h1
      obtain ⟨a, rfl, ha, ha'⟩ := open_i64 Try.underlying3 (hval 2 3 v2 rfl rfl) h2
      exact nmapTells c F Nc Wc i a W)

theorem nmapTells_holds : Rows.NmapTellsSaid :=
  OpenClaim.holds_of_wide 9 Try.f9 rfl rfl rfl rfl rfl rfl rfl ⟨rfl, rfl, rfl, rfl, rfl⟩ rfl rfl rfl rfl rfl (by kernel_rfl) Try.func9 (by kernel_rfl)
    (of_decide_eq_true (by kernel_rfl)) (by unfold Func.isWrapper; rw [if_neg (of_decide_eq_false (by kernel_rfl))]; exact ⟨rfl, rfl⟩)
    (fun os started H enc _ => nmapTells_lifted os started H enc)
#print axioms nmapTells_holds
end Go.Proofs.Ytjmacojlneldaaa
