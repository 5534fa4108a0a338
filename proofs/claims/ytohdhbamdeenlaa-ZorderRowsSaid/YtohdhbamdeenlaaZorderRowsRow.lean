/-
  ZorderRows answers true for any place, level and other place, and changes nothing that was there: a cell's places are side by side in the row. For every input, without a condition.
-/
import Derived.Test.YtohdhbamdeenlaaZorderRowsWalk
import Derived.Test.YtohdhbamdeenlaaOpen
namespace Go.Proofs.Ytohdhbamdeenlaa
open Go.ChangeShapes Go.WideShapes Go.ChangeAt Go.RowKit
set_option linter.unusedVariables false
set_option maxRecDepth 100000

theorem zorderRows_lifted (os : Os) (started : os.Started) (H : Type) (enc : TypeId × Value → H) :
    ReturnsInHanded {} Try.checked os 10 .any (Rows.zorderRowsSpec.pre6 enc Try.prog Try.f10 [] false) (Rows.zorderRowsSpec.post enc Try.prog Try.f10 false true false false) :=
  lift (C := Try.checked) (s := Rows.zorderRowsSpec) own (by kernel_rfl) Try.func10 laidOut rfl rfl Try.underlying4 (by kernel_rfl)
    (fun H ds hd => by match ds, hd with | [d1, d2, d3, d4, d5], _ => rfl) os started H enc
    (ChangeSpec.witness6 (enc := enc) (C := Try.checked) false ⟨#[], #[.int .u32 0, .int .u32 0, .int .i64 0, .int .u32 0, .int .u32 0], []⟩ 8 (by kernel_rfl) (by kernel_rfl) (by kernel_rfl) (by kernel_rfl))
    (fun W base args ds ps hval0 hA0 => by
      have hval : ∀ (j : Nat) t v, Try.f10.params[j]? = some t → args[j]? = some v → Value.okWide Try.prog W .any base t v := hval0
      have hA : DataW.TrodAll enc Try.prog W 0 (fun _ => true) true Try.f10.params.toList args.toList ds ps := hA0
      rw [Try.params10] at hA hval
      obtain ⟨v0, s0, d0, e0, p0, q0, g0, h0, r0⟩ := args_cons hA
      obtain ⟨v1, s1, d1, e1, p1, q1, rfl, h1, r1⟩ := args_cons r0
      obtain ⟨v2, s2, d2, e2, p2, q2, rfl, h2, r2⟩ := args_cons r1
      obtain ⟨v3, s3, d3, e3, p3, q3, rfl, h3, r3⟩ := args_cons r2
      obtain ⟨v4, s4, d4, e4, p4, q4, rfl, h4, r4⟩ := args_cons r3
      obtain ⟨rfl, _, _⟩ := trodAll_nil r4
      obtain rfl : args = #[v0, v1, v2, v3, v4] := by cases args; simp_all
      obtain ⟨x, rfl, hx, hx'⟩ := open_u32 Try.underlying54 (hval 0 54 v0 rfl rfl) h0
      obtain ⟨y, rfl, hy, hy'⟩ := open_u32 Try.underlying54 (hval 1 54 v1 rfl rfl) h1
      obtain ⟨l, rfl, hl, hl'⟩ := open_i64 Try.underlying3 (hval 2 3 v2 rfl rfl) h2
      obtain ⟨u, rfl, hu, hu'⟩ := open_u32 Try.underlying54 (hval 3 54 v3 rfl rfl) h3
      obtain ⟨v, rfl, hv, hv'⟩ := open_u32 Try.underlying54 (hval 4 54 v4 rfl rfl) h4
      exact zorderRows x y l u v hx hx' hy hy' hu hu' hv hv' W)

theorem zorderRows_holds : Rows.ZorderRowsSaid :=
  OpenClaim.holds_of_wide 10 Try.f10 rfl rfl rfl rfl rfl rfl rfl ⟨rfl, rfl, rfl, rfl, rfl⟩ rfl rfl rfl rfl rfl (by kernel_rfl) Try.func10 (by kernel_rfl)
    (of_decide_eq_true (by kernel_rfl)) (by unfold Func.isWrapper; rw [if_neg (of_decide_eq_false (by kernel_rfl))]; exact ⟨rfl, rfl⟩)
    (fun os started H enc _ => zorderRows_lifted os started H enc)
#print axioms zorderRows_holds
end Go.Proofs.Ytohdhbamdeenlaa
