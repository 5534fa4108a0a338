/-
  WideAdds answers true for any two distances, and changes nothing that was there: a sum has its carry, and is the same in any order. For every input, without a condition.
-/
import Derived.Test.YtmgjghgelidmiaaWideLaw
import Derived.Test.YtmgjghgelidmiaaOpen
namespace Go.Proofs.Ytmgjghgelidmiaa
open Go.ChangeShapes Go.WideShapes Go.ChangeAt Go.RowKit
set_option linter.unusedVariables false

theorem dist_arg {H : Type} {enc : TypeId × Value → H} {W : World} {b0 : Nat} {v : Value} {d : DataW H} {p : List MemPlace} (hv : Value.okWide Try.prog W .any b0 65 v) (h : DataW.Trod enc Try.prog W 0 (fun _ => true) true 65 v d p) :
    ∃ a b : Int, v = .agg #[.int .u64 a, .int .u64 b] ∧ 0 ≤ a ∧ 0 ≤ b ∧ a < 18446744073709551616 ∧ b < 18446744073709551616 := by
  obtain ⟨a, b, e, wa, wb⟩ := open_two Try.underlying65 (by kernel_rfl) (by kernel_rfl) Try.underlying63 Try.underlying63 hv h
  have h1 := bounds_u64 wa
  have h2 := bounds_u64 wb
  exact ⟨a, b, e, by omega, by omega, by omega, by omega⟩

set_option maxRecDepth 100000 in
theorem wideAdds_lifted (os : Os) (started : os.Started) (H : Type) (enc : TypeId × Value → H) :
    ReturnsInHanded {} Try.checked os 9 .any (Rows.wideAddsSpec.pre6 enc Try.prog Try.f9 [] false) (Rows.wideAddsSpec.post enc Try.prog Try.f9 false true false false) :=
  lift (C := Try.checked) (s := Rows.wideAddsSpec) own (by kernel_rfl) Try.func9 laidOut rfl rfl Try.underlying4 (by kernel_rfl)
    (fun H ds hd => by match ds, hd with | [d1, d2], _ => rfl) os started H enc
    (ChangeSpec.witness6 (enc := enc) (C := Try.checked) false ⟨#[], #[.agg #[.int .u64 0, .int .u64 0], .agg #[.int .u64 0, .int .u64 0]], []⟩ 8 (by kernel_rfl) (by kernel_rfl) (by kernel_rfl) (by kernel_rfl))
    (fun W base args ds ps hval0 hA0 => by
      have hval : ∀ (j : Nat) t v, Try.f9.params[j]? = some t → args[j]? = some v → Value.okWide Try.prog W .any base t v := hval0
      have hA : DataW.TrodAll enc Try.prog W 0 (fun _ => true) true Try.f9.params.toList args.toList ds ps := hA0
      rw [Try.params9] at hA hval
      obtain ⟨v0, s0, d0, e0, p0, q0, g0, h0, r0⟩ := args_cons hA
      obtain ⟨v1, s1, d1, e1, p1, q1, rfl, h1, r1⟩ := args_cons r0
      obtain ⟨rfl, _, _⟩ := trodAll_nil r1
      obtain rfl : args = #[v0, v1] := by cases args; simp_all
      obtain ⟨a, b, rfl, ha, hb, ha', hb'⟩ := dist_arg (hval 0 65 v0 rfl rfl) h0
      obtain ⟨c, d, rfl, hc, hd, hc', hd'⟩ := dist_arg (hval 1 65 v1 rfl rfl) h1
      exact wideAdds a b c d ha hb hc hd ha' hb' hc' hd' W)

theorem wideAdds_holds : Rows.WideAddsSaid :=
  OpenClaim.holds_of_wide 9 Try.f9 rfl rfl rfl rfl rfl rfl rfl ⟨rfl, rfl, rfl, rfl, rfl⟩ rfl rfl rfl rfl rfl (by kernel_rfl) Try.func9 (by kernel_rfl)
    (of_decide_eq_true (by kernel_rfl)) (by unfold Func.isWrapper; rw [if_neg (of_decide_eq_false (by kernel_rfl))]; exact ⟨rfl, rfl⟩)
    (fun os started H enc _ => wideAdds_lifted os started H enc)
#print axioms wideAdds_holds
end Go.Proofs.Ytmgjghgelidmiaa
