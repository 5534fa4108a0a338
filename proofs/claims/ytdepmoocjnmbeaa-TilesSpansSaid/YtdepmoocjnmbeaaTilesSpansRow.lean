/-
  TilesSpans answers true for any cells and any place, and changes nothing that was there: a place is in one of the spans just if it is in one of the cells; spans rise, and neither touch nor overlap. For every input, without a condition.
-/
import Derived.Test.YtdepmoocjnmbeaaTilesSpans
import Derived.Test.YtdepmoocjnmbeaaTilesArg
import Derived.Test.YtdepmoocjnmbeaaLift
import Derived.Test.YtdepmoocjnmbeaaOpen
namespace Go.Proofs.Ytdepmoocjnmbeaa
open Go.ChangeShapes Go.WideShapes Go.ChangeAt Go.RowKit
set_option linter.unusedVariables false
set_option maxRecDepth 100000

theorem tilesSpans_lifted (os : Os) (started : os.Started) (H : Type) (enc : TypeId × Value → H) :
    ReturnsInHanded {} Try.checked os 5 .any (Rows.tilesSpansSpec.pre6 enc Try.prog Try.f5 [] false) (Rows.tilesSpansSpec.post enc Try.prog Try.f5 false true false false) :=
  lift (C := Try.checked) (s := Rows.tilesSpansSpec) own (by kernel_rfl) Try.func5 laidOut rfl rfl Try.underlying4 (by kernel_rfl)
    (fun H ds hd => by match ds, hd with | [d1, d2, d3], _ => rfl) os started H enc
    (ChangeSpec.witness6 (enc := enc) (C := Try.checked) false ⟨#[], #[.slice none 0 0, .int .u32 0, .int .u32 0], []⟩ 8 (by kernel_rfl) (by kernel_rfl) (by kernel_rfl) (by kernel_rfl))
    (fun W base args ds ps hval0 hA0 => by
      have hval : ∀ (j : Nat) t v, Try.f5.params[j]? = some t → args[j]? = some v → Value.okWide Try.prog W .any base t v := hval0
      have hA : DataW.TrodAll enc Try.prog W 0 (fun _ => true) true Try.f5.params.toList args.toList ds ps := hA0
      rw [Try.params5] at hA hval
      obtain ⟨v0, s0, d0, e0, p0, q0, g0, h0, r0⟩ := args_cons hA
      obtain ⟨v1, s1, d1, e1, p1, q1, rfl, h1, r1⟩ := args_cons r0
      obtain ⟨v2, s2, d2, e2, p2, q2, rfl, h2, r2⟩ := args_cons r1
      obtain ⟨rfl, _, _⟩ := trodAll_nil r2
      obtain rfl : args = #[v0, v1, v2] := by cases args; simp_all
      obtain ⟨n, f, a, cap, rfl, l1, l2, hf, RL⟩ := cls_of (hval 0 27 v0 rfl rfl) h0
      obtain ⟨x, rfl, hx, hx'⟩ := open_u32 Try.underlying22 (hval 1 22 v1 rfl rfl) h1
      obtain ⟨y, rfl, hy, hy'⟩ := open_u32 Try.underlying22 (hval 2 22 v2 rfl rfl) h2
      exact tilesSpans a n cap f hf x y hx hx' hy hy' l1 l2 W RL)

theorem tilesSpans_holds : Rows.TilesSpansSaid :=
  OpenClaim.holds_of_wide 5 Try.f5 rfl rfl rfl rfl rfl rfl rfl ⟨rfl, rfl, rfl, rfl, rfl⟩ rfl rfl rfl rfl rfl (by kernel_rfl) Try.func5 (by kernel_rfl)
    (of_decide_eq_true (by kernel_rfl)) (by unfold Func.isWrapper; rw [if_neg (of_decide_eq_false (by kernel_rfl))]; exact ⟨rfl, rfl⟩)
    (fun os started H enc _ => tilesSpans_lifted os started H enc)
#print axioms tilesSpans_holds
end Go.Proofs.Ytdepmoocjnmbeaa
