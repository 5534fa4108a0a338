/-
  TilesCover answers true for any window, any number and any place, and changes nothing that was there: a window's cells are no more than were asked for; each place of the window is in just one of them; all meet the window. For every input, without a condition.
-/
import Derived.Test.YtdepmoocjnmbeaaTilesCovers
import Derived.Test.YtdepmoocjnmbeaaLift
import Derived.Test.YtdepmoocjnmbeaaOpen
namespace Go.Proofs.Ytdepmoocjnmbeaa
open Go.ChangeShapes Go.WideShapes Go.ChangeAt Go.RowKit
set_option linter.unusedVariables false
set_option maxRecDepth 100000

theorem rect_argC {H : Type} {enc : TypeId × Value → H} {W : World} {b0 : Nat} {v : Value} {d : DataW H} {p : List MemPlace} (hv : Value.okWide Try.prog W .any b0 24 v) (h : DataW.Trod enc Try.prog W 0 (fun _ => true) true 24 v d p) :
    ∃ a b c e : Int, v = .agg #[.int .u32 a, .int .u32 b, .int .u32 c, .int .u32 e] ∧ 0 ≤ a ∧ a ≤ 4294967295 ∧ 0 ≤ b ∧ b ≤ 4294967295 ∧ 0 ≤ c ∧ c ≤ 4294967295 ∧ 0 ≤ e ∧ e ≤ 4294967295 := by
  obtain ⟨a, b, c, e, ev, wa, wb, wc, we⟩ := open_four Try.underlying24 (by kernel_rfl) (by kernel_rfl) Try.underlying22 Try.underlying22 Try.underlying22 Try.underlying22 hv h
  have h1 := bounds_u32 wa
  have h2 := bounds_u32 wb
  have h3 := bounds_u32 wc
  have h4 := bounds_u32 we
  exact ⟨a, b, c, e, ev, by omega, by omega, by omega, by omega, by omega, by omega, by omega, by omega⟩

theorem tilesCover_lifted (os : Os) (started : os.Started) (H : Type) (enc : TypeId × Value → H) :
    ReturnsInHanded {} Try.checked os 3 .any (Rows.tilesCoverSpec.pre6 enc Try.prog Try.f3 [] false) (Rows.tilesCoverSpec.post enc Try.prog Try.f3 false true false false) :=
  lift (C := Try.checked) (s := Rows.tilesCoverSpec) own (by kernel_rfl) Try.func3 laidOut rfl rfl Try.underlying4 (by kernel_rfl)
    (fun H ds hd => by match ds, hd with | [d1, d2, d3, d4], _ => rfl) os started H enc
    (ChangeSpec.witness6 (enc := enc) (C := Try.checked) false ⟨#[], #[.agg #[.int .u32 0, .int .u32 0, .int .u32 0, .int .u32 0], .int .i64 0, .int .u32 0, .int .u32 0], []⟩ 8 (by kernel_rfl) (by kernel_rfl) (by kernel_rfl) (by kernel_rfl))
    (fun W base args ds ps hval0 hA0 => by
      have hval : ∀ (j : Nat) t v, Try.f3.params[j]? = some t → args[j]? = some v → Value.okWide Try.prog W .any base t v := hval0
      have hA : DataW.TrodAll enc Try.prog W 0 (fun _ => true) true Try.f3.params.toList args.toList ds ps := hA0
      rw [Try.params3] at hA hval
      obtain ⟨v0, s0, d0, e0, p0, q0, g0, h0, r0⟩ := args_cons hA
      obtain ⟨v1, s1, d1, e1, p1, q1, rfl, h1, r1⟩ := args_cons r0
      obtain ⟨v2, s2, d2, e2, p2, q2, rfl, h2, r2⟩ := args_cons r1
      obtain ⟨v3, s3, d3, e3, p3, q3, rfl, h3, r3⟩ := args_cons r2
      obtain ⟨rfl, _, _⟩ := trodAll_nil r3
      obtain rfl : args = #[v0, v1, v2, v3] := by cases args; simp_all
      obtain ⟨a, b, c, e, rfl, ha, ha', hb, hb', hc, hc', he, he'⟩ := rect_argC (hval 0 24 v0 rfl rfl) h0
      obtain ⟨m, rfl, hm, hm'⟩ := open_i64 Try.underlying3 (hval 1 3 v1 rfl rfl) h1
      obtain ⟨x, rfl, hx, hx'⟩ := open_u32 Try.underlying22 (hval 2 22 v2 rfl rfl) h2
      obtain ⟨y, rfl, hy, hy'⟩ := open_u32 Try.underlying22 (hval 3 22 v3 rfl rfl) h3
      exact tilesCover ⟨a, b, c, e⟩ ha ha' hb hb' hc hc' he he' m x y hx hx' hy hy' W)

theorem tilesCover_holds : Rows.TilesCoverSaid :=
  OpenClaim.holds_of_wide 3 Try.f3 rfl rfl rfl rfl rfl rfl rfl ⟨rfl, rfl, rfl, rfl, rfl⟩ rfl rfl rfl rfl rfl (by kernel_rfl) Try.func3 (by kernel_rfl)
    (of_decide_eq_true (by kernel_rfl)) (by unfold Func.isWrapper; rw [if_neg (of_decide_eq_false (by kernel_rfl))]; exact ⟨rfl, rfl⟩)
    (fun os started H enc _ => tilesCover_lifted os started H enc)
#print axioms tilesCover_holds
end Go.Proofs.Ytdepmoocjnmbeaa
