/-
  VictimTells answers true for any segments, and changes nothing that was there: which of any two segments is better is as of exact products; the first of the best is picked. For every input, without a condition.
-/
import Derived.Test.YtohdhbamdeenlaaVictimTells
import Derived.Test.YtohdhbamdeenlaaSlices
namespace Go.Proofs.Ytohdhbamdeenlaa
open Go.ChangeShapes Go.WideShapes Go.ChangeAt Go.RowKit
set_option linter.unusedVariables false
set_option maxRecDepth 100000

set_option maxRecDepth 100000 in
open Go.Joins Go.Deep in
/-- A slice of segments that comes in. -/
theorem segs_of {H : Type} {enc : TypeId × Value → H} {W : World} {b0 : Nat} {v : Value} {d : DataW H} {p : List MemPlace} (hv : Value.okWide Try.prog W .any b0 93 v) (h : DataW.Trod enc Try.prog W 0 (fun _ => true) true 93 v d p) :
    ∃ (n : Nat) (lv ag : Nat → Int), Sl W 2 v n (fun i => [.int .i64 (lv i), .int .i64 (ag i)]) := by
  obtain ⟨n, F, ⟨p, cap, hv, h1, h2, h3⟩, hF⟩ := sl_of Try.underlying93 Try.underlying96 (by kernel_rfl) (by kernel_rfl) (by decide) hv h
  have each : ∀ i, i < n → ∃ q : Int × Int, F i 0 = .int .i64 q.1 ∧ F i 1 = .int .i64 q.2 := by
    intro i hi
    obtain ⟨m0, y0, t0⟩ := hF i hi 0 _ rfl
    obtain ⟨m1, y1, t1⟩ := hF i hi 1 _ rfl
    obtain ⟨a, e0, _, w0⟩ := DataW.trod_int Try.underlying3 t0
    obtain ⟨b, e1, _, w1⟩ := DataW.trod_int Try.underlying3 t1
    simp at e0 e1
    exact ⟨(a, b), e0, e1⟩
  have hg : ∃ g : Nat → Int × Int, ∀ i, i < n → F i 0 = .int .i64 (g i).1 ∧ F i 1 = .int .i64 (g i).2 :=
    ⟨fun i => Classical.epsilon fun q : Int × Int => F i 0 = .int .i64 q.1 ∧ F i 1 = .int .i64 q.2, fun i hi => Classical.epsilon_spec (each i hi)⟩
  obtain ⟨g, hg⟩ := hg
  refine ⟨n, fun i => (g i).1, fun i => (g i).2, p, cap, hv, h1, h2, h3.imp id fun ⟨b, o, e, hlt, hc⟩ => ⟨b, o, e, hlt, fun i hi j v hv => ?_⟩⟩
  match j, hv with
  | 0, hv => simp at hv; subst hv; rw [← (hg i hi).1]; exact hc i hi 0 (by decide)
  | 1, hv => simp at hv; subst hv; rw [← (hg i hi).2]; exact hc i hi 1 (by decide)

theorem victimTells_lifted (os : Os) (started : os.Started) (H : Type) (enc : TypeId × Value → H) :
    ReturnsInHanded {} Try.checked os 14 .any (Rows.victimTellsSpec.pre6 enc Try.prog Try.f14 [] false) (Rows.victimTellsSpec.post enc Try.prog Try.f14 false true false false) :=
  lift (C := Try.checked) (s := Rows.victimTellsSpec) own (by kernel_rfl) Try.func14 laidOut rfl rfl Try.underlying4 (by kernel_rfl)
    (fun H ds hd => by match ds, hd with | [d1, d2, d3, d4, d5], _ => rfl) os started H enc
    (ChangeSpec.witness6 (enc := enc) (C := Try.checked) false ⟨#[], #[.int .i64 0, .slice none 0 0, .slice none 0 0, .int .i64 0, .int .i64 0], []⟩ 8 (by kernel_rfl) (by kernel_rfl) (by kernel_rfl) (by kernel_rfl))
    (fun W base args ds ps hval0 hA0 => by
      have hval : ∀ (j : Nat) t v, Try.f14.params[j]? = some t → args[j]? = some v → Value.okWide Try.prog W .any base t v := hval0
      have hA : DataW.TrodAll enc Try.prog W 0 (fun _ => true) true Try.f14.params.toList args.toList ds ps := hA0
      rw [Try.params14] at hA hval
      obtain ⟨v0, s0, d0, e0, p0, q0, g0, h0, r0⟩ := args_cons hA
      obtain ⟨v1, s1, d1, e1, p1, q1, rfl, h1, r1⟩ := args_cons r0
      obtain ⟨v2, s2, d2, e2, p2, q2, rfl, h2, r2⟩ := args_cons r1
      obtain ⟨v3, s3, d3, e3, p3, q3, rfl, h3, r3⟩ := args_cons r2
      obtain ⟨v4, s4, d4, e4, p4, q4, rfl, h4, r4⟩ := args_cons r3
      obtain ⟨rfl, _, _⟩ := trodAll_nil r4
      obtain rfl : args = #[v0, v1, v2, v3, v4] := by cases args; simp_all
      obtain ⟨size, rfl, hsize, hsize'⟩ := open_i64 Try.underlying3 (hval 0 3 v0 rfl rfl) h0
      obtain ⟨n, lv, ag, hs⟩ := segs_of (hval 1 93 v1 rfl rfl) h1
      obtain ⟨pl, capl, rfl, l1, l2, RL⟩ := hs.open
      obtain ⟨m, g, _, hs2⟩ := ints_of (hval 2 94 v2 rfl rfl) h2
      obtain ⟨po, capo, rfl, l3, l4, RO⟩ := hs2.open
      obtain ⟨epoch, rfl, hepoch, hepoch'⟩ := open_i64 Try.underlying3 (hval 3 3 v3 rfl rfl) h3
      obtain ⟨age, rfl, hage, hage'⟩ := open_i64 Try.underlying3 (hval 4 3 v4 rfl rfl) h4
      exact victimTells size epoch age pl po n capl m capo lv ag g l1 l2 l3 l4 W RL RO)

theorem victimTells_holds : Rows.VictimTellsSaid :=
  OpenClaim.holds_of_wide 14 Try.f14 rfl rfl rfl rfl rfl rfl rfl ⟨rfl, rfl, rfl, rfl, rfl⟩ rfl rfl rfl rfl rfl (by kernel_rfl) Try.func14 (by kernel_rfl)
    (of_decide_eq_true (by kernel_rfl)) (by unfold Func.isWrapper; rw [if_neg (of_decide_eq_false (by kernel_rfl))]; exact ⟨rfl, rfl⟩)
    (fun os started H enc _ => victimTells_lifted os started H enc)
#print axioms victimTells_holds
end Go.Proofs.Ytohdhbamdeenlaa
