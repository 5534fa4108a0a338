/-
  FrameBack answers true for any kind, stamp and text, and any other kind and stamp, and changes nothing that was there: what is sealed is opened; it is of its kind and stamp, and of no others. For every input, without a condition.
-/
import Derived.Test.YtgnnikjpnmalmaaFrameBack
import Derived.Test.YtgnnikjpnmalmaaStampArg
import Derived.Test.YtgnnikjpnmalmaaOctArg
namespace Go.Proofs.Ytgnnikjpnmalmaa
open Go.ChangeShapes Go.WideShapes Go.ChangeAt Go.RowKit
set_option linter.unusedVariables false
set_option maxRecDepth 100000

theorem frameBack_lifted (os : Os) (started : os.Started) (H : Type) (enc : TypeId × Value → H) :
    ReturnsInHanded {} Try.checked os 10 .any (Rows.frameBackSpec.pre6 enc Try.prog Try.f10 [] false) (Rows.frameBackSpec.post enc Try.prog Try.f10 false true false false) :=
  lift (C := Try.checked) (s := Rows.frameBackSpec) own (by kernel_rfl) Try.func10 laidOut rfl rfl Try.underlying4 (by kernel_rfl)
    (fun H ds hd => by match ds, hd with | [d1, d2, d3, d4, d5], _ => rfl) os started H enc
    (ChangeSpec.witness6 (enc := enc) (C := Try.checked) false ⟨#[], #[.int .i64 0, .agg #[.int .i64 0, .int .i64 0, .int .i64 0], .slice none 0 0, .int .i64 0, .agg #[.int .i64 0, .int .i64 0, .int .i64 0]], []⟩ 8 (by kernel_rfl) (by kernel_rfl) (by kernel_rfl) (by kernel_rfl))
    (fun W base args ds ps hval0 hA0 => by
      have hval : ∀ (j : Nat) t v, Try.f10.params[j]? = some t → args[j]? = some v → Value.okWide Try.prog W .any base t v := hval0
      have hA : DataW.TrodAll enc Try.prog W 0 (fun _ => true) true Try.f10.params.toList args.toList ds ps := hA0
      rw [Try.params10] at hA hval
      obtain ⟨v0, s0, d0, e0, p0, q0, g0, h0, r0⟩ := args_cons hA
      obtain ⟨v1, s1, d1, e1, p1, q1, rfl, h1, r1⟩ := args_cons r0
      obtain ⟨v2, s2, d2, e2, p2, q2, rfl, h2, r2⟩ := args_cons r1
      obtain ⟨v3, s3, d3, e3, p3, q3, rfl, h3, r3⟩ := args_cons r2
      obtain ⟨v4, s4, d4, e4, p4, q4, rfl, h4, r4⟩ := args_cons r3
      obtain ⟨rfl, _, _⟩ := trodAll_nil r4
      obtain rfl : args = #[v0, v1, v2, v3, v4] := by cases args; simp_all
      obtain ⟨k, rfl, _, _⟩ := open_i64 Try.underlying3 (hval 0 3 v0 rfl rfl) h0
      obtain ⟨t, _, rfl⟩ := st_of (hval 1 75 v1 rfl rfl) h1
      obtain ⟨l, a, cap, rfl, c1, c2, O, _, _⟩ := octl_of (hval 2 22 v2 rfl rfl) h2
      obtain ⟨k', rfl, _, _⟩ := open_i64 Try.underlying3 (hval 3 3 v3 rfl rfl) h3
      obtain ⟨t', _, rfl⟩ := st_of (hval 4 75 v4 rfl rfl) h4
      exact frameBack k k' t t' l a cap c1 c2 W O)

theorem frameBack_holds : Rows.FrameBackSaid :=
  OpenClaim.holds_of_wide 10 Try.f10 rfl rfl rfl rfl rfl rfl rfl ⟨rfl, rfl, rfl, rfl, rfl⟩ rfl rfl rfl rfl rfl (by kernel_rfl) Try.func10 (by kernel_rfl)
    (of_decide_eq_true (by kernel_rfl)) (by unfold Func.isWrapper; rw [if_neg (of_decide_eq_false (by kernel_rfl))]; exact ⟨rfl, rfl⟩)
    (fun os started H enc _ => frameBack_lifted os started H enc)
#print axioms frameBack_holds
end Go.Proofs.Ytgnnikjpnmalmaa
