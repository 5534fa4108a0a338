/-
  LayoutTells answers true for any geometry, segment, place, sector and epoch, and changes nothing that was there: which geometries may be, and where segments and regions are. For every input, without a condition.
-/
import Derived.Test.YtdnjgnnifclidaaLayoutTellsWalk
import Derived.Test.YtdnjgnnifclidaaOpen
namespace Go.Proofs.Ytdnjgnnifclidaa
open Go.ChangeShapes Go.WideShapes Go.ChangeAt Go.RowKit
set_option linter.unusedVariables false
set_option maxRecDepth 100000

theorem layoutTells_lifted (os : Os) (started : os.Started) (H : Type) (enc : TypeId × Value → H) :
    ReturnsInHanded {} Try.checked os 6 .any (Rows.layoutTellsSpec.pre6 enc Try.prog Try.f6 [] false) (Rows.layoutTellsSpec.post enc Try.prog Try.f6 false true false false) :=
  lift (C := Try.checked) (s := Rows.layoutTellsSpec) own (by kernel_rfl) Try.func6 laidOut rfl rfl Try.underlying4 (by kernel_rfl)
    (fun H ds hd => by match ds, hd with | [d1, d2, d3, d4, d5], _ => rfl) os started H enc
    (ChangeSpec.witness6 (enc := enc) (C := Try.checked) false ⟨#[], #[.agg #[.int .i64 0, .int .i64 0], .int .i64 0, .int .i64 0, .int .i64 0, .int .i64 0], []⟩ 8 (by kernel_rfl) (by kernel_rfl) (by kernel_rfl) (by kernel_rfl))
    (fun W base args ds ps hval0 hA0 => by
      have hval : ∀ (j : Nat) t v, Try.f6.params[j]? = some t → args[j]? = some v → Value.okWide Try.prog W .any base t v := hval0
      have hA : DataW.TrodAll enc Try.prog W 0 (fun _ => true) true Try.f6.params.toList args.toList ds ps := hA0
      rw [Try.params6] at hA hval
      obtain ⟨v0, s0, d0, e0, p0, q0, g0, h0, r0⟩ := args_cons hA
      obtain ⟨v1, s1, d1, e1, p1, q1, rfl, h1, r1⟩ := args_cons r0
      obtain ⟨v2, s2, d2, e2, p2, q2, rfl, h2, r2⟩ := args_cons r1
      obtain ⟨v3, s3, d3, e3, p3, q3, rfl, h3, r3⟩ := args_cons r2
      obtain ⟨v4, s4, d4, e4, p4, q4, rfl, h4, r4⟩ := args_cons r3
      obtain ⟨rfl, _, _⟩ := trodAll_nil r4
      obtain rfl : args = #[v0, v1, v2, v3, v4] := by cases args; simp_all
      obtain ⟨n, z, rfl, _, _⟩ := open_two Try.underlying46 (by kernel_rfl) (by kernel_rfl) Try.underlying3 Try.underlying3 (hval 0 46 v0 rfl rfl) h0
      obtain ⟨k, rfl, hk, hk'⟩ := open_i64 Try.underlying3 (hval 1 3 v1 rfl rfl) h1
      obtain ⟨o, rfl, ho, ho'⟩ := open_i64 Try.underlying3 (hval 2 3 v2 rfl rfl) h2
      obtain ⟨s, rfl, hs, hs'⟩ := open_i64 Try.underlying3 (hval 3 3 v3 rfl rfl) h3
      obtain ⟨e, rfl, he, he'⟩ := open_i64 Try.underlying3 (hval 4 3 v4 rfl rfl) h4
      exact layoutTells n z k o s e W)

theorem layoutTells_holds : Rows.LayoutTellsSaid :=
  OpenClaim.holds_of_wide 6 Try.f6 rfl rfl rfl rfl rfl rfl rfl ⟨rfl, rfl, rfl, rfl, rfl⟩ rfl rfl rfl rfl rfl (by kernel_rfl) Try.func6 (by kernel_rfl)
    (of_decide_eq_true (by kernel_rfl)) (by unfold Func.isWrapper; rw [if_neg (of_decide_eq_false (by kernel_rfl))]; exact ⟨rfl, rfl⟩)
    (fun os started H enc _ => layoutTells_lifted os started H enc)
#print axioms layoutTells_holds
end Go.Proofs.Ytdnjgnnifclidaa
