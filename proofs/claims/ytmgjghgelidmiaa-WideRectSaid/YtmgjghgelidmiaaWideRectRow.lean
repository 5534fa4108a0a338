/-
  WideRect answers true for any place, any window and any other place, and changes nothing that was there: the distance to a window is that to a place of it, and no greater than that to any other place of it; 0 just within. For every input, without a condition.
-/
import Derived.Test.YtmgjghgelidmiaaWideRect
import Derived.Test.YtmgjghgelidmiaaOpen
namespace Go.Proofs.Ytmgjghgelidmiaa
open Go.ChangeShapes Go.WideShapes Go.ChangeAt Go.RowKit
set_option linter.unusedVariables false

theorem rect_arg {H : Type} {enc : TypeId × Value → H} {W : World} {b0 : Nat} {v : Value} {d : DataW H} {p : List MemPlace} (hv : Value.okWide Try.prog W .any b0 76 v) (h : DataW.Trod enc Try.prog W 0 (fun _ => true) true 76 v d p) :
    ∃ a b c e : Int, v = .agg #[.int .u32 a, .int .u32 b, .int .u32 c, .int .u32 e] ∧ 0 ≤ a ∧ a ≤ 4294967295 ∧ 0 ≤ b ∧ b ≤ 4294967295 ∧ 0 ≤ c ∧ c ≤ 4294967295 ∧ 0 ≤ e ∧ e ≤ 4294967295 := by
  obtain ⟨a, b, c, e, ev, wa, wb, wc, we⟩ := open_four Try.underlying76 (by kernel_rfl) (by kernel_rfl) Try.underlying54 Try.underlying54 Try.underlying54 Try.underlying54 hv h
  have h1 := bounds_u32 wa
  have h2 := bounds_u32 wb
  have h3 := bounds_u32 wc
  have h4 := bounds_u32 we
  exact ⟨a, b, c, e, ev, by omega, by omega, by omega, by omega, by omega, by omega, by omega, by omega⟩

set_option maxRecDepth 100000 in
theorem wideRect_lifted (os : Os) (started : os.Started) (H : Type) (enc : TypeId × Value → H) :
    ReturnsInHanded {} Try.checked os 10 .any (Rows.wideRectSpec.pre6 enc Try.prog Try.f10 [] false) (Rows.wideRectSpec.post enc Try.prog Try.f10 false true false false) :=
  lift (C := Try.checked) (s := Rows.wideRectSpec) own (by kernel_rfl) Try.func10 laidOut rfl rfl Try.underlying4 (by kernel_rfl)
    (fun H ds hd => by match ds, hd with | [d1, d2, d3, d4, d5], _ => rfl) os started H enc
    (ChangeSpec.witness6 (enc := enc) (C := Try.checked) false ⟨#[], #[.int .u32 0, .int .u32 0, .agg #[.int .u32 0, .int .u32 0, .int .u32 0, .int .u32 0], .int .u32 0, .int .u32 0], []⟩ 8 (by kernel_rfl) (by kernel_rfl) (by kernel_rfl) (by kernel_rfl))
    (fun W base args ds ps hval0 hA0 => by
      have hval : ∀ (j : Nat) t v, Try.f10.params[j]? = some t → args[j]? = some v → Value.okWide Try.prog W .any base t v := hval0
      have hA : DataW.TrodAll enc Try.prog W 0 (fun _ => true) true Try.f10.params.toList args.toList ds ps := hA0
      rw [Try.params10] at hA hval
      obtain ⟨v0, s0, d0, e0, p0, q0, g0, h0, r0⟩ := args_cons hA
      obtain ⟨v1, s1, d1, e1, p1, q1, rfl, h1, r1⟩ := args_cons r0
      obtain ⟨v2, s2, d2, e2, p2, q2, rfl, h2, r2⟩ := args_cons r1
      obtain ⟨v3, s3, d3, e3, p3, q3, rfl, h3, r3⟩ := args_cons r2
      obtain ⟨v4, s4, d4, e4, p4, q4, rfl, h4, r4⟩ := args_cons r3
      obtain ⟨rfl, _, _⟩ := trodAll_nil r4
      obtain rfl : args = #[v0, v1, v2, v3, v4] := by cases args; simp_all
      obtain ⟨x, rfl, hx, hx'⟩ := open_u32 Try.underlying54 (hval 0 54 v0 rfl rfl) h0
      obtain ⟨y, rfl, hy, hy'⟩ := open_u32 Try.underlying54 (hval 1 54 v1 rfl rfl) h1
      obtain ⟨x0, y0, x1, y1, rfl, hx0, hx0', hy0, hy0', hx1, hx1', hy1, hy1'⟩ := rect_arg (hval 2 76 v2 rfl rfl) h2
      obtain ⟨a, rfl, ha, ha'⟩ := open_u32 Try.underlying54 (hval 3 54 v3 rfl rfl) h3
      obtain ⟨b, rfl, hb, hb'⟩ := open_u32 Try.underlying54 (hval 4 54 v4 rfl rfl) h4
      exact wideRect x y x0 y0 x1 y1 a b hx hx' hy hy' hx0 hx0' hy0 hy0' hx1 hx1' hy1 hy1' ha ha' hb hb' W)

theorem wideRect_holds : Rows.WideRectSaid :=
  OpenClaim.holds_of_wide 10 Try.f10 rfl rfl rfl rfl rfl rfl rfl ⟨rfl, rfl, rfl, rfl, rfl⟩ rfl rfl rfl rfl rfl (by kernel_rfl) Try.func10 (by kernel_rfl)
    (of_decide_eq_true (by kernel_rfl)) (by unfold Func.isWrapper; rw [if_neg (of_decide_eq_false (by kernel_rfl))]; exact ⟨rfl, rfl⟩)
    (fun os started H enc _ => wideRect_lifted os started H enc)
#print axioms wideRect_holds
end Go.Proofs.Ytmgjghgelidmiaa
