/-
  GroveApart answers true for any octet and any two nodes, and changes nothing that was there: a clone, changed, changes nothing; what is got, changed, changes nothing. For every input, without a condition.
-/
import Derived.Test.YtpgibngohbohdaaGroveApart
import Derived.Test.YtpgibngohbohdaaNodeArg
import Derived.Test.YtpgibngohbohdaaOctArg
import Derived.Test.YtpgibngohbohdaaLift
import Derived.Test.YtpgibngohbohdaaOpen
namespace Go.Proofs.Ytpgibngohbohdaa
open Go.ChangeShapes Go.WideShapes Go.ChangeAt Go.RowKit
set_option linter.unusedVariables false
set_option maxRecDepth 100000

theorem groveApart_lifted (os : Os) (started : os.Started) (H : Type) (enc : TypeId × Value → H) :
    ReturnsInHanded {} Try.checked os 6 .any (Rows.groveApartSpec.pre6 enc Try.prog Try.f6 [] false) (Rows.groveApartSpec.post enc Try.prog Try.f6 false true false false) :=
  lift (C := Try.checked) (s := Rows.groveApartSpec) own (by kernel_rfl) Try.func6 laidOut rfl rfl Try.underlying4 (by kernel_rfl)
    (fun H ds hd => by match ds, hd with | [d1, d2, d3], _ => rfl) os started H enc
    (ChangeSpec.witness6 (enc := enc) (C := Try.checked) false ⟨#[], #[.int .u8 0, .agg #[.bool false, .slice none 0 0, .int .i64 0, .int .i64 0, .int .i64 0, .int .i64 0, .int .i64 0, .int .i64 0, .int .i64 0, .int .i64 0, .int .i64 0], .agg #[.bool false, .slice none 0 0, .int .i64 0, .int .i64 0, .int .i64 0, .int .i64 0, .int .i64 0, .int .i64 0, .int .i64 0, .int .i64 0, .int .i64 0]], []⟩ 8 (by kernel_rfl) (by kernel_rfl) (by kernel_rfl) (by kernel_rfl))
    (fun W base args ds ps hval0 hA0 => by
      have hval : ∀ (j : Nat) t v, Try.f6.params[j]? = some t → args[j]? = some v → Value.okWide Try.prog W .any base t v := hval0
      have hA : DataW.TrodAll enc Try.prog W 0 (fun _ => true) true Try.f6.params.toList args.toList ds ps := hA0
      rw [Try.params6] at hA hval
      obtain ⟨v0, s0, d0, e0, p0, q0, g0, h0, r0⟩ := args_cons hA
      obtain ⟨v1, s1, d1, e1, p1, q1, rfl, h1, r1⟩ := args_cons r0
      obtain ⟨v2, s2, d2, e2, p2, q2, rfl, h2, r2⟩ := args_cons r1
      obtain ⟨rfl, _, _⟩ := trodAll_nil r2
      obtain rfl : args = #[v0, v1, v2] := by cases args; simp_all
      obtain ⟨a, rfl, _, _, wa⟩ := open_int Try.underlying5 (hval 0 5 v0 rfl rfl) h0
      have ba := bounds_u8 wa
      obtain ⟨lf, q, n, cap, f, nx, k, c, rfl, c1, c2, HR, hf, _⟩ := nd_of (hval 1 56 v1 rfl rfl) h1
      obtain ⟨lf', q', n', cap', f', nx', k', c', rfl, c1', c2', HR', hf', _⟩ := nd_of (hval 2 56 v2 rfl rfl) h2
      exact groveApart a ba.1 ba.2 lf q n cap f hf nx k c c1 c2 lf' q' n' cap' f' hf' nx' k' c' c1' c2' W HR HR')

theorem groveApart_holds : Rows.GroveApartSaid :=
  OpenClaim.holds_of_wide 6 Try.f6 rfl rfl rfl rfl rfl rfl rfl ⟨rfl, rfl, rfl, rfl, rfl⟩ rfl rfl rfl rfl rfl (by kernel_rfl) Try.func6 (by kernel_rfl)
    (of_decide_eq_true (by kernel_rfl)) (by unfold Func.isWrapper; rw [if_neg (of_decide_eq_false (by kernel_rfl))]; exact ⟨rfl, rfl⟩)
    (fun os started H enc _ => groveApart_lifted os started H enc)
#print axioms groveApart_holds
end Go.Proofs.Ytpgibngohbohdaa
