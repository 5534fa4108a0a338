/-
  TrackThins answers true for any points and any distance, and changes nothing that was there: of a way that is thinned each is far enough from the last that was kept; what was left out was not. For every input, without a condition.
-/
import Derived.Test.YtjenhnigdgkkoaaTrackThins
import Derived.Test.YtjenhnigdgkkoaaSlices
import Derived.Test.YtjenhnigdgkkoaaPtAll
import Derived.Test.YtjenhnigdgkkoaaLift
import Derived.Test.YtjenhnigdgkkoaaOpen
namespace Go.Proofs.Ytjenhnigdgkkoaa
open Go.ChangeShapes Go.WideShapes Go.ChangeAt Go.RowKit
set_option linter.unusedVariables false
set_option maxRecDepth 100000

theorem dist_arg46 {H : Type} {enc : TypeId × Value → H} {W : World} {b0 : Nat} {v : Value} {d : DataW H} {p : List MemPlace} (hv : Value.okWide Try.prog W .any b0 34 v) (h : DataW.Trod enc Try.prog W 0 (fun _ => true) true 34 v d p) :
    ∃ a b : Int, v = .agg #[.int .u64 a, .int .u64 b] ∧ 0 ≤ a ∧ 0 ≤ b ∧ a < 18446744073709551616 ∧ b < 18446744073709551616 := by
  obtain ⟨a, b, e, wa, wb⟩ := open_two Try.underlying34 (by kernel_rfl) (by kernel_rfl) Try.underlying32 Try.underlying32 hv h
  have h1 := bounds_u64 wa
  have h2 := bounds_u64 wb
  exact ⟨a, b, e, by omega, by omega, by omega, by omega⟩

theorem trackThins_lifted (os : Os) (started : os.Started) (H : Type) (enc : TypeId × Value → H) :
    ReturnsInHanded {} Try.checked os 6 .any (Rows.trackThinsSpec.pre6 enc Try.prog Try.f6 [] false) (Rows.trackThinsSpec.post enc Try.prog Try.f6 false true false false) :=
  lift (C := Try.checked) (s := Rows.trackThinsSpec) own (by kernel_rfl) Try.func6 laidOut rfl rfl Try.underlying4 (by kernel_rfl)
    (fun H ds hd => by match ds, hd with | [d1, d2], _ => rfl) os started H enc
    (ChangeSpec.witness6 (enc := enc) (C := Try.checked) false ⟨#[], #[.slice none 0 0, .agg #[.int .u64 0, .int .u64 0]], []⟩ 8 (by kernel_rfl) (by kernel_rfl) (by kernel_rfl) (by kernel_rfl))
    (fun W base args ds ps hval0 hA0 => by
      have hval : ∀ (j : Nat) t v, Try.f6.params[j]? = some t → args[j]? = some v → Value.okWide Try.prog W .any base t v := hval0
      have hA : DataW.TrodAll enc Try.prog W 0 (fun _ => true) true Try.f6.params.toList args.toList ds ps := hA0
      rw [Try.params6] at hA hval
      obtain ⟨v0, s0, d0, e0, p0, q0, g0, h0, r0⟩ := args_cons hA
      obtain ⟨v1, s1, d1, e1, p1, q1, rfl, h1, r1⟩ := args_cons r0
      obtain ⟨rfl, _, _⟩ := trodAll_nil r1
      obtain rfl : args = #[v0, v1] := by cases args; simp_all
      obtain ⟨n, f0, hf0, hs⟩ := pts_of (hval 0 22 v0 rfl rfl) h0
      obtain ⟨p, cap, rfl, c1, c2, HR0⟩ := hs.open
      obtain ⟨f, hf, HR⟩ := pts_total hf0 HR0
      obtain ⟨a, b, rfl, _, _, _, _⟩ := dist_arg46 (hval 1 34 v1 rfl rfl) h1
      exact trackThins p n cap f hf c1 c2 a b W HR)

theorem trackThins_holds : Rows.TrackThinsSaid :=
  OpenClaim.holds_of_wide 6 Try.f6 rfl rfl rfl rfl rfl rfl rfl ⟨rfl, rfl, rfl, rfl, rfl⟩ rfl rfl rfl rfl rfl (by kernel_rfl) Try.func6 (by kernel_rfl)
    (of_decide_eq_true (by kernel_rfl)) (by unfold Func.isWrapper; rw [if_neg (of_decide_eq_false (by kernel_rfl))]; exact ⟨rfl, rfl⟩)
    (fun os started H enc _ => trackThins_lifted os started H enc)
#print axioms trackThins_holds
end Go.Proofs.Ytjenhnigdgkkoaa
