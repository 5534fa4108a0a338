/-
  SpanLongest answers true for any roads, and changes nothing that was there: the last of the longest roads is told; no other one is longer. For every input, without a condition.
-/
import Derived.Test.YtahdhgaoofpefaaSpanLongest
import Derived.Test.YtahdhgaoofpefaaSlicesC
import Derived.Test.YtahdhgaoofpefaaLift
import Derived.Test.YtahdhgaoofpefaaOpen
namespace Go.Proofs.Ytahdhgaoofpefaa
open Go.ChangeShapes Go.WideShapes Go.ChangeAt Go.RowKit
set_option linter.unusedVariables false
set_option maxRecDepth 100000

set_option maxRecDepth 100000 in
/-- A slice of roads that comes in. -/
theorem rds_of {H : Type} {enc : TypeId × Value → H} {W : World} {b0 : Nat} {v : Value} {d : DataW H} {p : List MemPlace} (hv : Value.okWide Try.prog W .any b0 68 v) (h : DataW.Trod enc Try.prog W 0 (fun _ => true) true 68 v d p) :
    ∃ (n : Nat) (f : Nat → Rd) (q : Option Addr) (cap : Nat), v = .slice q n cap ∧ n ≤ cap ∧ cap ≤ maxLen ∧ RowP W q 4 n (fun i => rcells (f i)) := by
  obtain ⟨n, G, ⟨q, cap, hv, h1, h2, h3⟩, hG⟩ := sl_cells Try.underlying68 (show Try.prog.cellsOf 70 = 4 by kernel_rfl) (by decide) hv h
  have hci : Try.prog.cellsOf 3 = 1 := by kernel_rfl
  have hcu : Try.prog.cellsOf 48 = 1 := by kernel_rfl
  have hcd : Try.prog.cellsOf 50 = 2 := by kernel_rfl
  have each : ∀ i, i < n → ∃ e : Rd, G i = rcells e := by
    intro i hi
    obtain ⟨hl, m, y, ht⟩ := hG i hi
    obtain ⟨xs, m', _, hx, _, hxl, hfield⟩ := DataW.trod_struct Try.underlying70 ht
    have hxl' : xs.length = 3 := hxl
    generalize G i = L at *
    match L, hl, xs, hxl' with
    | [c0, c1, c2, c3], _, [y0, y1, y2], _ =>
      have f0 := hfield 0 _ rfl
      have f1 := hfield 1 _ rfl
      have f2 := hfield 2 _ rfl
      simp [hci, hcd] at f0 f1 f2
      obtain ⟨a', e0, _, _⟩ := DataW.trod_int Try.underlying3 f0
      obtain ⟨b', e1, _, _⟩ := DataW.trod_int Try.underlying3 f1
      obtain ⟨zs, m2, _, hz, _, hzl, hfz⟩ := DataW.trod_struct Try.underlying50 f2
      have hzl' : zs.length = 2 := hzl
      match zs, hzl' with
      | [z0, z1], _ =>
        have g0 := hfz 0 _ rfl
        have g1 := hfz 1 _ rfl
        simp [hcu] at g0 g1
        obtain ⟨c', e2, _, _⟩ := DataW.trod_int Try.underlying48 g0
        obtain ⟨d', e3, _, _⟩ := DataW.trod_int Try.underlying48 g1
        simp at e0 e1 e2 e3
        exact ⟨⟨a', b', c', d'⟩, by rw [e0, e1, e2, e3]; rfl⟩
  have hg : ∃ g : Nat → Rd, ∀ i, i < n → G i = rcells (g i) := by
    haveI : Nonempty Rd := ⟨⟨0, 0, 0, 0⟩⟩
    exact ⟨fun i => Classical.epsilon fun e => G i = rcells e, fun i hi => Classical.epsilon_spec (each i hi)⟩
  obtain ⟨g, hg⟩ := hg
  refine ⟨n, g, q, cap, hv, h1, h2, h3.imp id fun ⟨b, o, e, hlt, hc⟩ => ⟨b, o, e, hlt, fun i hi j v hv => ?_⟩⟩
  rw [← hg i hi] at hv
  exact hc i hi j v hv

theorem spanLongest_lifted (os : Os) (started : os.Started) (H : Type) (enc : TypeId × Value → H) :
    ReturnsInHanded {} Try.checked os 9 .any (Rows.spanLongestSpec.pre6 enc Try.prog Try.f9 [] false) (Rows.spanLongestSpec.post enc Try.prog Try.f9 false true false false) :=
  lift (C := Try.checked) (s := Rows.spanLongestSpec) own (by kernel_rfl) Try.func9 laidOut rfl rfl Try.underlying4 (by kernel_rfl)
    (fun H ds hd => by match ds, hd with | [d1], _ => rfl) os started H enc
    (ChangeSpec.witness6 (enc := enc) (C := Try.checked) false ⟨#[], #[.slice none 0 0], []⟩ 8 (by kernel_rfl) (by kernel_rfl) (by kernel_rfl) (by kernel_rfl))
    (fun W base args ds ps hval0 hA0 => by
      have hval : ∀ (j : Nat) t v, Try.f9.params[j]? = some t → args[j]? = some v → Value.okWide Try.prog W .any base t v := hval0
      have hA : DataW.TrodAll enc Try.prog W 0 (fun _ => true) true Try.f9.params.toList args.toList ds ps := hA0
      rw [Try.params9] at hA hval
      obtain ⟨v0, s0, d0, e0, p0, q0, g0, h0, r0⟩ := args_cons hA
      obtain ⟨rfl, _, _⟩ := trodAll_nil r0
      obtain rfl : args = #[v0] := by cases args; simp_all
      obtain ⟨n, f, q, cap, rfl, c1, c2, HR⟩ := rds_of (hval 0 68 v0 rfl rfl) h0
      exact spanLongest q n cap f c1 c2 W HR)

theorem spanLongest_holds : Rows.SpanLongestSaid :=
  OpenClaim.holds_of_wide 9 Try.f9 rfl rfl rfl rfl rfl rfl rfl ⟨rfl, rfl, rfl, rfl, rfl⟩ rfl rfl rfl rfl rfl (by kernel_rfl) Try.func9 (by kernel_rfl)
    (of_decide_eq_true (by kernel_rfl)) (by unfold Func.isWrapper; rw [if_neg (of_decide_eq_false (by kernel_rfl))]; exact ⟨rfl, rfl⟩)
    (fun os started H enc _ => spanLongest_lifted os started H enc)
#print axioms spanLongest_holds
end Go.Proofs.Ytahdhgaoofpefaa
