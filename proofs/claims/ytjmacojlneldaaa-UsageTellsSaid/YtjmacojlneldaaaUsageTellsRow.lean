/-
  UsageTells answers true for any geometry, any map of Ids, any place and any segment, and changes nothing that was there: how much of each segment is needed, which are free, and whose sectors are in one, are as the page says. For every input, without a condition.
-/
import Derived.Test.YtjmacojlneldaaaUsageTells
import Derived.Test.YtjmacojlneldaaaLift
import Derived.Test.YtjmacojlneldaaaOpen
import Derived.Test.YtjmacojlneldaaaArrArg
namespace Go.Proofs.Ytjmacojlneldaaa
open Go.ChangeShapes Go.WideShapes Go.ChangeAt Go.RowKit
set_option linter.unusedVariables false
set_option maxRecDepth 100000

theorem usageTells_lifted (os : Os) (started : os.Started) (H : Type) (enc : TypeId × Value → H) :
    ReturnsInHanded {} Try.checked os 6 .any (Rows.usageTellsSpec.pre6 enc Try.prog Try.f6 [] false) (Rows.usageTellsSpec.post enc Try.prog Try.f6 false true false false) :=
  lift (C := Try.checked) (s := Rows.usageTellsSpec) own (by kernel_rfl) Try.func6 laidOut rfl rfl Try.underlying4 (by kernel_rfl)
    (fun H ds hd => by match ds, hd with | [d1, d2, d3, d4], _ => rfl) os started H enc
    (ChangeSpec.witness6 (enc := enc) (C := Try.checked) false ⟨#[], #[.agg #[.int .i64 0, .int .i64 0], (.agg (Array.replicate 256 (.int .i64 0))), .agg #[.int .i64 0, .int .i64 0, .int .i64 0], .int .i64 0], []⟩ 8 (by kernel_rfl) (by kernel_rfl) (by kernel_rfl) (by kernel_rfl))
    (fun W base args ds ps hval0 hA0 => by
      have hval : ∀ (j : Nat) t v, Try.f6.params[j]? = some t → args[j]? = some v → Value.okWide Try.prog W .any base t v := hval0
      have hA : DataW.TrodAll enc Try.prog W 0 (fun _ => true) true Try.f6.params.toList args.toList ds ps := hA0
      rw [Try.params6] at hA hval
      obtain ⟨v0, s0, d0, e0, p0, q0, g0, h0, r0⟩ := args_cons hA
      obtain ⟨v1, s1, d1, e1, p1, q1, rfl, h1, r1⟩ := args_cons r0
      obtain ⟨v2, s2, d2, e2, p2, q2, rfl, h2, r2⟩ := args_cons r1
      obtain ⟨v3, s3, d3, e3, p3, q3, rfl, h3, r3⟩ := args_cons r2
      obtain ⟨rfl, _, _⟩ := trodAll_nil r3
      obtain rfl : args = #[v0, v1, v2, v3] := by cases args; simp_all
      obtain ⟨n, z, rfl, nw, _⟩ := open_two Try.underlying43 (by kernel_rfl) (by kernel_rfl) Try.underlying3 Try.underlying3 (hval 0 43 v0 rfl rfl) h0
      obtain ⟨c, F, rfl, Nc, _⟩ := arr_of Try.underlying44 Try.underlying3 (by kernel_rfl) (by kernel_rfl) (hval 1 44 v1 rfl rfl) h1
      obtain ⟨sg, og, nx, rfl, _, _, _⟩ := open_three Try.underlying46 (by kernel_rfl) (by kernel_rfl) Try.underlying3 Try.underlying3 Try.underlying3 (hval 2 46 v2 rfl rfl) h2
      obtain ⟨s, rfl, hs, hs'⟩ := open_i64 Try.underlying3 (hval 3 3 v3 rfl rfl) h3
      exact usageTells n z c F Nc (bounds_i64 nw) sg og nx s W)

theorem usageTells_holds : Rows.UsageTellsSaid :=
  OpenClaim.holds_of_wide 6 Try.f6 rfl rfl rfl rfl rfl rfl rfl ⟨rfl, rfl, rfl, rfl, rfl⟩ rfl rfl rfl rfl rfl (by kernel_rfl) Try.func6 (by kernel_rfl)
    (of_decide_eq_true (by kernel_rfl)) (by unfold Func.isWrapper; rw [if_neg (of_decide_eq_false (by kernel_rfl))]; exact ⟨rfl, rfl⟩)
    (fun os started H enc _ => usageTells_lifted os started H enc)
#print axioms usageTells_holds
end Go.Proofs.Ytjmacojlneldaaa
