/-
  TrackStraight answers true for any points, and changes nothing that was there: straightened, a way has its places, but those that lie on the side between two that are kept. For every input, without a condition.
-/
import Derived.Test.YtjenhnigdgkkoaaTrackStraight
import Derived.Test.YtjenhnigdgkkoaaSlices
import Derived.Test.YtjenhnigdgkkoaaPtAll
import Derived.Test.YtjenhnigdgkkoaaLift
import Derived.Test.YtjenhnigdgkkoaaOpen
namespace Go.Proofs.Ytjenhnigdgkkoaa
open Go.ChangeShapes Go.WideShapes Go.ChangeAt Go.RowKit
set_option linter.unusedVariables false
set_option maxRecDepth 100000

theorem trackStraight_lifted (os : Os) (started : os.Started) (H : Type) (enc : TypeId × Value → H) :
    ReturnsInHanded {} Try.checked os 7 .any (Rows.trackStraightSpec.pre6 enc Try.prog Try.f7 [] false) (Rows.trackStraightSpec.post enc Try.prog Try.f7 false true false false) :=
  lift (C := Try.checked) (s := Rows.trackStraightSpec) own (by kernel_rfl) Try.func7 laidOut rfl rfl Try.underlying4 (by kernel_rfl)
    (fun H ds hd => by match ds, hd with | [d1], _ => rfl) os started H enc
    (ChangeSpec.witness6 (enc := enc) (C := Try.checked) false ⟨#[], #[.slice none 0 0], []⟩ 8 (by kernel_rfl) (by kernel_rfl) (by kernel_rfl) (by kernel_rfl))
    (fun W base args ds ps hval0 hA0 => by
      have hval : ∀ (j : Nat) t v, Try.f7.params[j]? = some t → args[j]? = some v → Value.okWide Try.prog W .any base t v := hval0
      have hA : DataW.TrodAll enc Try.prog W 0 (fun _ => true) true Try.f7.params.toList args.toList ds ps := hA0
      rw [Try.params7] at hA hval
      obtain ⟨v0, s0, d0, e0, p0, q0, g0, h0, r0⟩ := args_cons hA
      obtain ⟨rfl, _, _⟩ := trodAll_nil r0
      obtain rfl : args = #[v0] := by cases args; simp_all
      obtain ⟨n, f0, hf0, hs⟩ := pts_of (hval 0 22 v0 rfl rfl) h0
      obtain ⟨p, cap, rfl, c1, c2, HR0⟩ := hs.open
      obtain ⟨f, hf, HR⟩ := pts_total hf0 HR0
      exact trackStraight p n cap f hf c1 c2 W HR)

theorem trackStraight_holds : Rows.TrackStraightSaid :=
  OpenClaim.holds_of_wide 7 Try.f7 rfl rfl rfl rfl rfl rfl rfl ⟨rfl, rfl, rfl, rfl, rfl⟩ rfl rfl rfl rfl rfl (by kernel_rfl) Try.func7 (by kernel_rfl)
    (of_decide_eq_true (by kernel_rfl)) (by unfold Func.isWrapper; rw [if_neg (of_decide_eq_false (by kernel_rfl))]; exact ⟨rfl, rfl⟩)
    (fun os started H enc _ => trackStraight_lifted os started H enc)
#print axioms trackStraight_holds
end Go.Proofs.Ytjenhnigdgkkoaa
