/-
  PolyCrosses answers true for any four points, and changes nothing that was there: two sides that cross do so whichever way they are told. For every input, without a condition.
-/
import Derived.Test.YtohdhbamdeenlaaPolyCrosses
import Derived.Test.YtohdhbamdeenlaaOpen
namespace Go.Proofs.Ytohdhbamdeenlaa
open Go.ChangeShapes Go.WideShapes Go.ChangeAt Go.RowKit
set_option linter.unusedVariables false
set_option maxRecDepth 100000

open Go.Joins Go.Deep in
theorem pt_arg4 {H : Type} {enc : TypeId × Value → H} {W : World} {b0 : Nat} {v : Value} {d : DataW H} {p : List MemPlace} (hv : Value.okWide Try.prog W .any b0 86 v) (h : DataW.Trod enc Try.prog W 0 (fun _ => true) true 86 v d p) :
    ∃ (a b c : Int) (s : Value), v = .agg #[.int .i64 a, .int .u32 b, .int .u32 c, s] ∧ 0 ≤ b ∧ b ≤ 4294967295 ∧ 0 ≤ c ∧ c ≤ 4294967295 := by
  obtain ⟨c0, c1, c2, c3, y0, y1, y2, y3, m, rfl, _, _, hy0, hy1, hy2, hy3⟩ := open_agg4 Try.underlying86 (by kernel_rfl) (by kernel_rfl) hv h
  obtain ⟨a, e0, _, wa⟩ := DataW.trod_int Try.underlying3 hy0
  obtain ⟨b, e1, _, wb⟩ := DataW.trod_int Try.underlying54 hy1
  obtain ⟨c, e2, _, wc⟩ := DataW.trod_int Try.underlying54 hy2
  simp at e0 e1 e2
  subst e0 e1 e2
  have h1 := bounds_u32 wb
  have h2 := bounds_u32 wc
  exact ⟨a, b, c, c3, rfl, by omega, by omega, by omega, by omega⟩

theorem polyCrosses_lifted (os : Os) (started : os.Started) (H : Type) (enc : TypeId × Value → H) :
    ReturnsInHanded {} Try.checked os 12 .any (Rows.polyCrossesSpec.pre6 enc Try.prog Try.f12 [] false) (Rows.polyCrossesSpec.post enc Try.prog Try.f12 false true false false) :=
  lift (C := Try.checked) (s := Rows.polyCrossesSpec) own (by kernel_rfl) Try.func12 laidOut rfl rfl Try.underlying4 (by kernel_rfl)
    (fun H ds hd => by match ds, hd with | [d1, d2, d3, d4], _ => rfl) os started H enc
    (ChangeSpec.witness6 (enc := enc) (C := Try.checked) false ⟨#[], #[.agg #[.int .i64 0, .int .u32 0, .int .u32 0, .string ByteArray.empty], .agg #[.int .i64 0, .int .u32 0, .int .u32 0, .string ByteArray.empty], .agg #[.int .i64 0, .int .u32 0, .int .u32 0, .string ByteArray.empty], .agg #[.int .i64 0, .int .u32 0, .int .u32 0, .string ByteArray.empty]], []⟩ 8 (by kernel_rfl) (by kernel_rfl) (by kernel_rfl) (by kernel_rfl))
    (fun W base args ds ps hval0 hA0 => by
      have hval : ∀ (j : Nat) t v, Try.f12.params[j]? = some t → args[j]? = some v → Value.okWide Try.prog W .any base t v := hval0
      have hA : DataW.TrodAll enc Try.prog W 0 (fun _ => true) true Try.f12.params.toList args.toList ds ps := hA0
      rw [Try.params12] at hA hval
      obtain ⟨v0, s0, d0, e0, p0, q0, g0, h0, r0⟩ := args_cons hA
      obtain ⟨v1, s1, d1, e1, p1, q1, rfl, h1, r1⟩ := args_cons r0
      obtain ⟨v2, s2, d2, e2, p2, q2, rfl, h2, r2⟩ := args_cons r1
      obtain ⟨v3, s3, d3, e3, p3, q3, rfl, h3, r3⟩ := args_cons r2
      obtain ⟨rfl, _, _⟩ := trodAll_nil r3
      obtain rfl : args = #[v0, v1, v2, v3] := by cases args; simp_all
      obtain ⟨ia, ax, ay_, da, rfl, hax, hax', hay, hay'⟩ := pt_arg4 (hval 0 86 v0 rfl rfl) h0
      obtain ⟨ib, bx, by_, db, rfl, hbx, hbx', hby, hby'⟩ := pt_arg4 (hval 1 86 v1 rfl rfl) h1
      obtain ⟨ic, cx, cy_, dc, rfl, hcx, hcx', hcy, hcy'⟩ := pt_arg4 (hval 2 86 v2 rfl rfl) h2
      obtain ⟨ie, ex, ey_, de, rfl, hex, hex', hey, hey'⟩ := pt_arg4 (hval 3 86 v3 rfl rfl) h3
      exact polyCrosses ia ib ic ie ⟨ax, ay_⟩ ⟨bx, by_⟩ ⟨cx, cy_⟩ ⟨ex, ey_⟩ da db dc de ⟨hax, hax', hay, hay'⟩ ⟨hbx, hbx', hby, hby'⟩ ⟨hcx, hcx', hcy, hcy'⟩ ⟨hex, hex', hey, hey'⟩ W)

theorem polyCrosses_holds : Rows.PolyCrossesSaid :=
  OpenClaim.holds_of_wide 12 Try.f12 rfl rfl rfl rfl rfl rfl rfl ⟨rfl, rfl, rfl, rfl, rfl⟩ rfl rfl rfl rfl rfl (by kernel_rfl) Try.func12 (by kernel_rfl)
    (of_decide_eq_true (by kernel_rfl)) (by unfold Func.isWrapper; rw [if_neg (of_decide_eq_false (by kernel_rfl))]; exact ⟨rfl, rfl⟩)
    (fun os started H enc _ => polyCrosses_lifted os started H enc)
#print axioms polyCrosses_holds
end Go.Proofs.Ytohdhbamdeenlaa
