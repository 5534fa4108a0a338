/-
  WideTells answers true for any two places and any two distances, and changes nothing that was there: the squared distance, and which of two is less, are as by hand. For every input, without a condition.
-/
import Derived.Test.YtmgjghgelidmiaaWideTells
import Derived.Test.YtmgjghgelidmiaaOpen
namespace Go.Proofs.Ytmgjghgelidmiaa
open Go.ChangeShapes Go.WideShapes Go.ChangeAt Go.RowKit
set_option linter.unusedVariables false

theorem dist_argT {H : Type} {enc : TypeId × Value → H} {W : World} {b0 : Nat} {v : Value} {d : DataW H} {p : List MemPlace} (hv : Value.okWide Try.prog W .any b0 65 v) (h : DataW.Trod enc Try.prog W 0 (fun _ => true) true 65 v d p) :
    ∃ a b : Int, v = .agg #[.int .u64 a, .int .u64 b] ∧ 0 ≤ a ∧ 0 ≤ b ∧ a < 18446744073709551616 ∧ b < 18446744073709551616 := by
  obtain ⟨a, b, e, wa, wb⟩ := open_two Try.underlying65 (by kernel_rfl) (by kernel_rfl) Try.underlying63 Try.underlying63 hv h
  have h1 := bounds_u64 wa
  have h2 := bounds_u64 wb
  exact ⟨a, b, e, by omega, by omega, by omega, by omega⟩

set_option maxRecDepth 100000 in
theorem wideTells_lifted (os : Os) (started : os.Started) (H : Type) (enc : TypeId × Value → H) :
    ReturnsInHanded {} Try.checked os 8 .any (Rows.wideTellsSpec.pre6 enc Try.prog Try.f8 [] false) (Rows.wideTellsSpec.post enc Try.prog Try.f8 false true false false) :=
  lift (C := Try.checked) (s := Rows.wideTellsSpec) own (by kernel_rfl) Try.func8 laidOut rfl rfl Try.underlying4 (by kernel_rfl)
    (fun H ds hd => by match ds, hd with | [d1, d2, d3, d4, d5, d6], _ => rfl) os started H enc
    (ChangeSpec.witness6 (enc := enc) (C := Try.checked) false ⟨#[], #[.int .u32 0, .int .u32 0, .int .u32 0, .int .u32 0, .agg #[.int .u64 0, .int .u64 0], .agg #[.int .u64 0, .int .u64 0]], []⟩ 8 (by kernel_rfl) (by kernel_rfl) (by kernel_rfl) (by kernel_rfl))
    (fun W base args ds ps hval0 hA0 => by
      have hval : ∀ (j : Nat) t v, Try.f8.params[j]? = some t → args[j]? = some v → Value.okWide Try.prog W .any base t v := hval0
      have hA : DataW.TrodAll enc Try.prog W 0 (fun _ => true) true Try.f8.params.toList args.toList ds ps := hA0
      rw [Try.params8] at hA hval
      obtain ⟨v0, s0, d0, e0, p0, q0, g0, h0, r0⟩ := args_cons hA
      obtain ⟨v1, s1, d1, e1, p1, q1, rfl, h1, r1⟩ := args_cons r0
      obtain ⟨v2, s2, d2, e2, p2, q2, rfl, h2, r2⟩ := args_cons r1
      obtain ⟨v3, s3, d3, e3, p3, q3, rfl, h3, r3⟩ := args_cons r2
      obtain ⟨v4, s4, d4, e4, p4, q4, rfl, h4, r4⟩ := args_cons r3
      obtain ⟨v5, s5, d5, e5, p5, q5, rfl, h5, r5⟩ := args_cons r4
      obtain ⟨rfl, _, _⟩ := trodAll_nil r5
      obtain rfl : args = #[v0, v1, v2, v3, v4, v5] := by cases args; simp_all
      obtain ⟨x0, rfl, hx0, hx0'⟩ := open_u32 Try.underlying54 (hval 0 54 v0 rfl rfl) h0
      obtain ⟨y0, rfl, hy0, hy0'⟩ := open_u32 Try.underlying54 (hval 1 54 v1 rfl rfl) h1
      obtain ⟨x1, rfl, hx1, hx1'⟩ := open_u32 Try.underlying54 (hval 2 54 v2 rfl rfl) h2
      obtain ⟨y1, rfl, hy1, hy1'⟩ := open_u32 Try.underlying54 (hval 3 54 v3 rfl rfl) h3
      obtain ⟨a, b, rfl, ha, hb, ha', hb'⟩ := dist_argT (hval 4 65 v4 rfl rfl) h4
      obtain ⟨c, d, rfl, hc, hd, hc', hd'⟩ := dist_argT (hval 5 65 v5 rfl rfl) h5
      exact wideTells x0 y0 x1 y1 a b c d hx0 hx0' hy0 hy0' hx1 hx1' hy1 hy1' W)

theorem wideTells_holds : Rows.WideTellsSaid :=
  OpenClaim.holds_of_wide 8 Try.f8 rfl rfl rfl rfl rfl rfl rfl ⟨rfl, rfl, rfl, rfl, rfl⟩ rfl rfl rfl rfl rfl (by kernel_rfl) Try.func8 (by kernel_rfl)
    (of_decide_eq_true (by kernel_rfl)) (by unfold Func.isWrapper; rw [if_neg (of_decide_eq_false (by kernel_rfl))]; exact ⟨rfl, rfl⟩)
    (fun os started H enc _ => wideTells_lifted os started H enc)
#print axioms wideTells_holds
end Go.Proofs.Ytmgjghgelidmiaa
