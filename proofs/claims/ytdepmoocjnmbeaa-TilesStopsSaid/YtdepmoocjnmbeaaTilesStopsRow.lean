/-
  TilesStops answers true for any window and any number, and changes nothing that was there: no cell that the window does not have wholly could be replaced by its quarters within what was asked for, unless it is a single place. For every input, without a condition.
-/
import Derived.Test.YtdepmoocjnmbeaaTilesStops
import Derived.Test.YtdepmoocjnmbeaaLift
import Derived.Test.YtdepmoocjnmbeaaOpen
namespace Go.Proofs.Ytdepmoocjnmbeaa
open Go.ChangeShapes Go.WideShapes Go.ChangeAt Go.RowKit
set_option linter.unusedVariables false
set_option maxRecDepth 100000

theorem rect_argS {H : Type} {enc : TypeId × Value → H} {W : World} {b0 : Nat} {v : Value} {d : DataW H} {p : List MemPlace} (hv : Value.okWide Try.prog W .any b0 24 v) (h : DataW.Trod enc Try.prog W 0 (fun _ => true) true 24 v d p) :
    ∃ a b c e : Int, v = .agg #[.int .u32 a, .int .u32 b, .int .u32 c, .int .u32 e] ∧ 0 ≤ a ∧ a ≤ 4294967295 ∧ 0 ≤ b ∧ b ≤ 4294967295 ∧ 0 ≤ c ∧ c ≤ 4294967295 ∧ 0 ≤ e ∧ e ≤ 4294967295 := by
  obtain ⟨a, b, c, e, ev, wa, wb, wc, we⟩ := open_four Try.underlying24 (by kernel_rfl) (by kernel_rfl) Try.underlying22 Try.underlying22 Try.underlying22 Try.underlying22 hv h
  have h1 := bounds_u32 wa
  have h2 := bounds_u32 wb
  have h3 := bounds_u32 wc
  have h4 := bounds_u32 we
  exact ⟨a, b, c, e, ev, by omega, by omega, by omega, by omega, by omega, by omega, by omega, by omega⟩

theorem tilesStops_lifted (os : Os) (started : os.Started) (H : Type) (enc : TypeId × Value → H) :
    ReturnsInHanded {} Try.checked os 4 .any (Rows.tilesStopsSpec.pre6 enc Try.prog Try.f4 [] false) (Rows.tilesStopsSpec.post enc Try.prog Try.f4 false true false false) :=
  lift (C := Try.checked) (s := Rows.tilesStopsSpec) own (by kernel_rfl) Try.func4 laidOut rfl rfl Try.underlying4 (by kernel_rfl)
    (fun H ds hd => by match ds, hd with | [d1, d2], _ => rfl) os started H enc
    (ChangeSpec.witness6 (enc := enc) (C := Try.checked) false ⟨#[], #[.agg #[.int .u32 0, .int .u32 0, .int .u32 0, .int .u32 0], .int .i64 0], []⟩ 8 (by kernel_rfl) (by kernel_rfl) (by kernel_rfl) (by kernel_rfl))
    (fun W base args ds ps hval0 hA0 => by
      have hval : ∀ (j : Nat) t v, Try.f4.params[j]? = some t → args[j]? = some v → Value.okWide Try.prog W .any base t v := hval0
      have hA : DataW.TrodAll enc Try.prog W 0 (fun _ => true) true Try.f4.params.toList args.toList ds ps := hA0
      rw [Try.params4] at hA hval
      obtain ⟨v0, s0, d0, e0, p0, q0, g0, h0, r0⟩ := args_cons hA
      obtain ⟨v1, s1, d1, e1, p1, q1, rfl, h1, r1⟩ := args_cons r0
      obtain ⟨rfl, _, _⟩ := trodAll_nil r1
      obtain rfl : args = #[v0, v1] := by cases args; simp_all
      obtain ⟨a, b, c, e, rfl, ha, ha', hb, hb', hc, hc', he, he'⟩ := rect_argS (hval 0 24 v0 rfl rfl) h0
      obtain ⟨m, rfl, hm, hm'⟩ := open_i64 Try.underlying3 (hval 1 3 v1 rfl rfl) h1
      exact tilesStops ⟨a, b, c, e⟩ ha ha' hb hb' hc hc' he he' m W)

theorem tilesStops_holds : Rows.TilesStopsSaid :=
  OpenClaim.holds_of_wide 4 Try.f4 rfl rfl rfl rfl rfl rfl rfl ⟨rfl, rfl, rfl, rfl, rfl⟩ rfl rfl rfl rfl rfl (by kernel_rfl) Try.func4 (by kernel_rfl)
    (of_decide_eq_true (by kernel_rfl)) (by unfold Func.isWrapper; rw [if_neg (of_decide_eq_false (by kernel_rfl))]; exact ⟨rfl, rfl⟩)
    (fun os started H enc _ => tilesStops_lifted os started H enc)
#print axioms tilesStops_holds
end Go.Proofs.Ytdepmoocjnmbeaa
