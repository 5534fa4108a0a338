/-
  RectAreas answers true for any window and any X, and changes nothing that was there: how many places a window has; cut in two it has as many as both. For every input, without a condition.
-/
import Derived.Test.YtilbnecigeammaaRectAreas
import Derived.Test.YtilbnecigeammaaOpen
namespace Go.Proofs.Ytilbnecigeammaa
open Go.ChangeShapes Go.WideShapes Go.ChangeAt Go.RowKit
set_option linter.unusedVariables false
set_option maxRecDepth 100000

theorem rect_argA {H : Type} {enc : TypeId × Value → H} {W : World} {b0 : Nat} {v : Value} {d : DataW H} {p : List MemPlace} (hv : Value.okWide Try.prog W .any b0 29 v) (h : DataW.Trod enc Try.prog W 0 (fun _ => true) true 29 v d p) :
    ∃ a b c e : Int, v = .agg #[.int .u32 a, .int .u32 b, .int .u32 c, .int .u32 e] ∧ 0 ≤ a ∧ a ≤ 4294967295 ∧ 0 ≤ b ∧ b ≤ 4294967295 ∧ 0 ≤ c ∧ c ≤ 4294967295 ∧ 0 ≤ e ∧ e ≤ 4294967295 := by
  obtain ⟨a, b, c, e, ev, wa, wb, wc, we⟩ := open_four Try.underlying29 (by kernel_rfl) (by kernel_rfl) Try.underlying22 Try.underlying22 Try.underlying22 Try.underlying22 hv h
  have h1 := bounds_u32 wa
  have h2 := bounds_u32 wb
  have h3 := bounds_u32 wc
  have h4 := bounds_u32 we
  exact ⟨a, b, c, e, ev, by omega, by omega, by omega, by omega, by omega, by omega, by omega, by omega⟩

theorem rectAreas_lifted (os : Os) (started : os.Started) (H : Type) (enc : TypeId × Value → H) :
    ReturnsInHanded {} Try.checked os 11 .any (Rows.rectAreasSpec.pre6 enc Try.prog Try.f11 [] false) (Rows.rectAreasSpec.post enc Try.prog Try.f11 false true false false) :=
  lift (C := Try.checked) (s := Rows.rectAreasSpec) own (by kernel_rfl) Try.func11 laidOut rfl rfl Try.underlying4 (by kernel_rfl)
    (fun H ds hd => by match ds, hd with | [d1, d2], _ => rfl) os started H enc
    (ChangeSpec.witness6 (enc := enc) (C := Try.checked) false ⟨#[], #[.agg #[.int .u32 0, .int .u32 0, .int .u32 0, .int .u32 0], .int .u32 0], []⟩ 8 (by kernel_rfl) (by kernel_rfl) (by kernel_rfl) (by kernel_rfl))
    (fun W base args ds ps hval0 hA0 => by
      have hval : ∀ (j : Nat) t v, Try.f11.params[j]? = some t → args[j]? = some v → Value.okWide Try.prog W .any base t v := hval0
      have hA : DataW.TrodAll enc Try.prog W 0 (fun _ => true) true Try.f11.params.toList args.toList ds ps := hA0
      rw [Try.params11] at hA hval
      obtain ⟨v0, s0, d0, e0, p0, q0, g0, h0, r0⟩ := args_cons hA
      obtain ⟨v1, s1, d1, e1, p1, q1, rfl, h1, r1⟩ := args_cons r0
      obtain ⟨rfl, _, _⟩ := trodAll_nil r1
      obtain rfl : args = #[v0, v1] := by cases args; simp_all
      obtain ⟨a, b, c, e, rfl, ha, ha', hb, hb', hc, hc', he, he'⟩ := rect_argA (hval 0 29 v0 rfl rfl) h0
      obtain ⟨x, rfl, hx, hx'⟩ := open_u32 Try.underlying22 (hval 1 22 v1 rfl rfl) h1
      exact rectAreas a b c e x ha ha' hb hb' hc hc' he he' hx hx' W)

theorem rectAreas_holds : Rows.RectAreasSaid :=
  OpenClaim.holds_of_wide 11 Try.f11 rfl rfl rfl rfl rfl rfl rfl ⟨rfl, rfl, rfl, rfl, rfl⟩ rfl rfl rfl rfl rfl (by kernel_rfl) Try.func11 (by kernel_rfl)
    (of_decide_eq_true (by kernel_rfl)) (by unfold Func.isWrapper; rw [if_neg (of_decide_eq_false (by kernel_rfl))]; exact ⟨rfl, rfl⟩)
    (fun os started H enc _ => rectAreas_lifted os started H enc)
#print axioms rectAreas_holds
end Go.Proofs.Ytilbnecigeammaa
