/-
  HeapRuns answers true for any items and any Bools, and changes nothing that was there: whatever is pushed and popped, it is always the least one that goes. For every input, without a condition.
-/
import Derived.Test.YtibjccfillhfpaaHeapRuns
import Derived.Test.YtibjccfillhfpaaHeapArg
import Derived.Test.YtibjccfillhfpaaLift
import Derived.Test.YtibjccfillhfpaaOpen
namespace Go.Proofs.Ytibjccfillhfpaa
open Go.ChangeShapes Go.WideShapes Go.ChangeAt Go.RowKit Go.Joins Go.Deep
set_option linter.unusedVariables false
set_option maxRecDepth 100000

set_option maxRecDepth 100000 in
/-- A slice of Bools that comes in. -/
theorem bools_of {H : Type} {enc : TypeId × Value → H} {W : World} {b0 : Nat} {v : Value} {d : DataW H} {p : List MemPlace} (hv : Value.okWide Try.prog W .any b0 44 v) (h : DataW.Trod enc Try.prog W 0 (fun _ => true) true 44 v d p) :
    ∃ (n : Nat) (g : Nat → Bool) (q : Option Addr) (cap : Nat), v = .slice q n cap ∧ n ≤ cap ∧ cap ≤ maxLen ∧ RowP W q 1 n (fun i => [.bool (g i)]) := by
  obtain ⟨n, G, ⟨q, cap, hv, h1, h2, h3⟩, hG⟩ := sl_cells Try.underlying44 (show Try.prog.cellsOf 4 = 1 by kernel_rfl) (by decide) hv h
  have each : ∀ i, i < n → ∃ e : Bool, G i = [.bool e] := fun i hi => by
    obtain ⟨hl, m, y, ht⟩ := hG i hi
    obtain ⟨b, e, _⟩ := DataW.trod_bool Try.underlying4 ht
    exact ⟨b, e⟩
  have hg : ∃ g : Nat → Bool, ∀ i, i < n → G i = [.bool (g i)] :=
    ⟨fun i => Classical.epsilon fun e => G i = [.bool e], fun i hi => Classical.epsilon_spec (each i hi)⟩
  obtain ⟨g, hg⟩ := hg
  refine ⟨n, g, q, cap, hv, h1, h2, h3.imp id fun ⟨b, o, e, hlt, hc⟩ => ⟨b, o, e, hlt, fun i hi j v hv => ?_⟩⟩
  rw [← hg i hi] at hv
  exact hc i hi j v hv

theorem heapRuns_lifted (os : Os) (started : os.Started) (H : Type) (enc : TypeId × Value → H) :
    ReturnsInHanded {} Try.checked os 6 .any (Rows.heapRunsSpec.pre6 enc Try.prog Try.f6 [] false) (Rows.heapRunsSpec.post enc Try.prog Try.f6 false true false false) :=
  lift (C := Try.checked) (s := Rows.heapRunsSpec) own (by kernel_rfl) Try.func6 laidOut rfl rfl Try.underlying4 (by kernel_rfl)
    (fun H ds hd => by match ds, hd with | [d1, d2], _ => rfl) os started H enc
    (ChangeSpec.witness6 (enc := enc) (C := Try.checked) false ⟨#[], #[.slice none 0 0, .slice none 0 0], []⟩ 8 (by kernel_rfl) (by kernel_rfl) (by kernel_rfl) (by kernel_rfl))
    (fun W base args ds ps hval0 hA0 => by
      have hval : ∀ (j : Nat) t v, Try.f6.params[j]? = some t → args[j]? = some v → Value.okWide Try.prog W .any base t v := hval0
      have hA : DataW.TrodAll enc Try.prog W 0 (fun _ => true) true Try.f6.params.toList args.toList ds ps := hA0
      rw [Try.params6] at hA hval
      obtain ⟨v0, s0, d0, e0, p0, q0, g0, h0, r0⟩ := args_cons hA
      obtain ⟨v1, s1, d1, e1, p1, q1, rfl, h1, r1⟩ := args_cons r0
      obtain ⟨rfl, _, _⟩ := trodAll_nil r1
      obtain rfl : args = #[v0, v1] := by cases args; simp_all
      obtain ⟨n, f, q, cap, rfl, c1, c2, HR⟩ := its_of (hval 0 46 v0 rfl rfl) h0
      obtain ⟨np, gb, pp, capp, rfl, d1, d2, HB⟩ := bools_of (hval 1 44 v1 rfl rfl) h1
      exact heapRuns q n cap f c1 c2 pp np capp gb d1 d2 W HR HB)

theorem heapRuns_holds : Rows.HeapRunsSaid :=
  OpenClaim.holds_of_wide 6 Try.f6 rfl rfl rfl rfl rfl rfl rfl ⟨rfl, rfl, rfl, rfl, rfl⟩ rfl rfl rfl rfl rfl (by kernel_rfl) Try.func6 (by kernel_rfl)
    (of_decide_eq_true (by kernel_rfl)) (by unfold Func.isWrapper; rw [if_neg (of_decide_eq_false (by kernel_rfl))]; exact ⟨rfl, rfl⟩)
    (fun os started H enc _ => heapRuns_lifted os started H enc)
#print axioms heapRuns_holds
end Go.Proofs.Ytibjccfillhfpaa
