/-
  NmapGone answers true for any map of Ids, and changes nothing that was there: all Ids told to be gone, the map is empty; written again, they are where they were. For every input, without a condition.
-/
import Derived.Test.YtjmacojlneldaaaNmapGone
import Derived.Test.YtjmacojlneldaaaLift
import Derived.Test.YtjmacojlneldaaaOpen
import Derived.Test.YtjmacojlneldaaaArrArg
namespace Go.Proofs.Ytjmacojlneldaaa
open Go.ChangeShapes Go.WideShapes Go.ChangeAt Go.RowKit
set_option linter.unusedVariables false
set_option maxRecDepth 100000

theorem nmapGone_lifted (os : Os) (started : os.Started) (H : Type) (enc : TypeId × Value → H) :
    ReturnsInHanded {} Try.checked os 11 .any (Rows.nmapGoneSpec.pre6 enc Try.prog Try.f11 [] false) (Rows.nmapGoneSpec.post enc Try.prog Try.f11 false true false false) :=
  lift (C := Try.checked) (s := Rows.nmapGoneSpec) own (by kernel_rfl) Try.func11 laidOut rfl rfl Try.underlying4 (by kernel_rfl)
    (fun H ds hd => by match ds, hd with | [d1], _ => rfl) os started H enc
    (ChangeSpec.witness6 (enc := enc) (C := Try.checked) false ⟨#[], #[(.agg (Array.replicate 256 (.int .i64 0)))], []⟩ 8 (by kernel_rfl) (by kernel_rfl) (by kernel_rfl) (by kernel_rfl))
    (fun W base args ds ps hval0 hA0 => by
      have hval : ∀ (j : Nat) t v, Try.f11.params[j]? = some t → args[j]? = some v → Value.okWide Try.prog W .any base t v := hval0
      have hA : DataW.TrodAll enc Try.prog W 0 (fun _ => true) true Try.f11.params.toList args.toList ds ps := hA0
      rw [Try.params11] at hA hval
      obtain ⟨v0, s0, d0, e0, p0, q0, g0, h0, r0⟩ := args_cons hA
      obtain ⟨rfl, _, _⟩ := trodAll_nil r0
      obtain rfl : args = #[v0] := by cases args; simp_all
      obtain ⟨c, F, rfl, Nc, Wc⟩ := arr_of Try.underlying44 Try.underlying3 (by kernel_rfl) (by kernel_rfl) (hval 0 44 v0 rfl rfl) h0
      exact nmapGone c F Nc W)

theorem nmapGone_holds : Rows.NmapGoneSaid :=
  OpenClaim.holds_of_wide 11 Try.f11 rfl rfl rfl rfl rfl rfl rfl ⟨rfl, rfl, rfl, rfl, rfl⟩ rfl rfl rfl rfl rfl (by kernel_rfl) Try.func11 (by kernel_rfl)
    (of_decide_eq_true (by kernel_rfl)) (by unfold Func.isWrapper; rw [if_neg (of_decide_eq_false (by kernel_rfl))]; exact ⟨rfl, rfl⟩)
    (fun os started H enc _ => nmapGone_lifted os started H enc)
#print axioms nmapGone_holds
end Go.Proofs.Ytjmacojlneldaaa
