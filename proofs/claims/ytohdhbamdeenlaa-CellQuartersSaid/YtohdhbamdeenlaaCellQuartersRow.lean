/-
  CellQuarters answers true for any cell, place and quarter, and changes nothing that was there: a cell is its four quarters; each place of it is in just one. For every input, without a condition.
-/
import Derived.Test.YtohdhbamdeenlaaCellQuartersEnd
import Derived.Test.YtohdhbamdeenlaaOpen
namespace Go.Proofs.Ytohdhbamdeenlaa
open Go.ChangeShapes Go.WideShapes Go.ChangeAt Go.RowKit
set_option linter.unusedVariables false
set_option maxRecDepth 100000

theorem cell_argQ {H : Type} {enc : TypeId × Value → H} {W : World} {b0 : Nat} {v : Value} {d : DataW H} {p : List MemPlace} (hv : Value.okWide Try.prog W .any b0 64 v) (h : DataW.Trod enc Try.prog W 0 (fun _ => true) true 64 v d p) :
    ∃ a b c : Int, v = .agg #[.int .u32 a, .int .u32 b, .int .i64 c] ∧ 0 ≤ a ∧ a ≤ 4294967295 ∧ 0 ≤ b ∧ b ≤ 4294967295 ∧ -9223372036854775808 ≤ c ∧ c ≤ 9223372036854775807 := by
  obtain ⟨a, b, c, ev, wa, wb, wc⟩ := open_three Try.underlying64 (by kernel_rfl) (by kernel_rfl) Try.underlying54 Try.underlying54 Try.underlying3 hv h
  have h1 := bounds_u32 wa
  have h2 := bounds_u32 wb
  have h3 := bounds_i64 wc
  exact ⟨a, b, c, ev, by omega, by omega, by omega, by omega, by omega, by omega⟩

theorem cellQuarters_lifted (os : Os) (started : os.Started) (H : Type) (enc : TypeId × Value → H) :
    ReturnsInHanded {} Try.checked os 8 .any (Rows.cellQuartersSpec.pre6 enc Try.prog Try.f8 [] false) (Rows.cellQuartersSpec.post enc Try.prog Try.f8 false true false false) :=
  lift (C := Try.checked) (s := Rows.cellQuartersSpec) own (by kernel_rfl) Try.func8 laidOut rfl rfl Try.underlying4 (by kernel_rfl)
    (fun H ds hd => by match ds, hd with | [d1, d2, d3, d4], _ => rfl) os started H enc
    (ChangeSpec.witness6 (enc := enc) (C := Try.checked) false ⟨#[], #[.agg #[.int .u32 0, .int .u32 0, .int .i64 0], .int .u32 0, .int .u32 0, .int .i64 0], []⟩ 8 (by kernel_rfl) (by kernel_rfl) (by kernel_rfl) (by kernel_rfl))
    (fun W base args ds ps hval0 hA0 => by
      have hval : ∀ (j : Nat) t v, Try.f8.params[j]? = some t → args[j]? = some v → Value.okWide Try.prog W .any base t v := hval0
      have hA : DataW.TrodAll enc Try.prog W 0 (fun _ => true) true Try.f8.params.toList args.toList ds ps := hA0
      rw [Try.params8] at hA hval
      obtain ⟨v0, s0, d0, e0, p0, q0, g0, h0, r0⟩ := args_cons hA
      obtain ⟨v1, s1, d1, e1, p1, q1, rfl, h1, r1⟩ := args_cons r0
      obtain ⟨v2, s2, d2, e2, p2, q2, rfl, h2, r2⟩ := args_cons r1
      obtain ⟨v3, s3, d3, e3, p3, q3, rfl, h3, r3⟩ := args_cons r2
      obtain ⟨rfl, _, _⟩ := trodAll_nil r3
      obtain rfl : args = #[v0, v1, v2, v3] := by cases args; simp_all
      obtain ⟨cx, cy, l, rfl, gx, gx', gy, gy', _, _⟩ := cell_argQ (hval 0 64 v0 rfl rfl) h0
      obtain ⟨x, rfl, hx, hx'⟩ := open_u32 Try.underlying54 (hval 1 54 v1 rfl rfl) h1
      obtain ⟨y, rfl, hy, hy'⟩ := open_u32 Try.underlying54 (hval 2 54 v2 rfl rfl) h2
      obtain ⟨q, rfl, hq, hq'⟩ := open_i64 Try.underlying3 (hval 3 3 v3 rfl rfl) h3
      exact cellQuarters cx cy l x y q gx gx' gy gy' hx hx' hy hy' W)

theorem cellQuarters_holds : Rows.CellQuartersSaid :=
  OpenClaim.holds_of_wide 8 Try.f8 rfl rfl rfl rfl rfl rfl rfl ⟨rfl, rfl, rfl, rfl, rfl⟩ rfl rfl rfl rfl rfl (by kernel_rfl) Try.func8 (by kernel_rfl)
    (of_decide_eq_true (by kernel_rfl)) (by unfold Func.isWrapper; rw [if_neg (of_decide_eq_false (by kernel_rfl))]; exact ⟨rfl, rfl⟩)
    (fun os started H enc _ => cellQuarters_lifted os started H enc)
#print axioms cellQuarters_holds
end Go.Proofs.Ytohdhbamdeenlaa
