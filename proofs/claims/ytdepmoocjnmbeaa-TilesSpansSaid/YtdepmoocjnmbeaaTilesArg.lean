/-
  What comes in: a slice of cells.
-/
import Derived.Test.YtdepmoocjnmbeaaTilesOrd
import Derived.Test.YtdepmoocjnmbeaaOpen
namespace Go.Proofs.Ytdepmoocjnmbeaa
open Go.ChangeShapes Go.WideShapes Go.ChangeAt Go.RowKit Go.Joins Go.Deep
set_option linter.unusedVariables false

set_option maxRecDepth 100000 in
/-- A slice of cells that comes in. -/
theorem cls_of {H : Type} {enc : TypeId × Value → H} {W : World} {b0 : Nat} {v : Value} {d : DataW H} {p : List MemPlace} (hv : Value.okWide Try.prog W .any b0 27 v) (h : DataW.Trod enc Try.prog W 0 (fun _ => true) true 27 v d p) :
    ∃ (n : Nat) (f : Nat → Cl) (a : Option Addr) (cap : Nat), v = .slice a n cap ∧ n ≤ cap ∧ cap ≤ maxLen ∧ (∀ i, i < n → (f i).may) ∧ RowP W a 3 n (fun i => clT.cells (f i)) := by
  obtain ⟨n, F, ⟨q, cap, hv, h1, h2, h3⟩, hF⟩ := sl_of Try.underlying27 Try.underlying32 (by kernel_rfl) (by kernel_rfl) (by decide) hv h
  have each : ∀ i, i < n → ∃ e : Cl, e.may ∧ [F i 0, F i 1, F i 2] = clT.cells e := by
    intro i hi
    obtain ⟨m0, z0, t0⟩ := hF i hi 0 _ rfl
    obtain ⟨m1, z1, t1⟩ := hF i hi 1 _ rfl
    obtain ⟨m2, z2, t2⟩ := hF i hi 2 _ rfl
    obtain ⟨a', e0, _, w0⟩ := DataW.trod_int Try.underlying22 t0
    obtain ⟨b', e1, _, w1⟩ := DataW.trod_int Try.underlying22 t1
    obtain ⟨c', e2, _, _⟩ := DataW.trod_int Try.underlying3 t2
    simp at e0 e1 e2
    have g0 := bounds_u32 w0
    have g1 := bounds_u32 w1
    exact ⟨⟨a', b', c'⟩, ⟨g0.1, g0.2, g1.1, g1.2⟩, by rw [e0, e1, e2]; rfl⟩
  have hg : ∃ g : Nat → Cl, ∀ i, i < n → (g i).may ∧ [F i 0, F i 1, F i 2] = clT.cells (g i) := by
    haveI : Nonempty Cl := ⟨⟨0, 0, 0⟩⟩
    exact ⟨fun i => Classical.epsilon fun e => e.may ∧ [F i 0, F i 1, F i 2] = clT.cells e, fun i hi => Classical.epsilon_spec (each i hi)⟩
  obtain ⟨g, hg⟩ := hg
  refine ⟨n, g, q, cap, hv, h1, h2, fun i hi => (hg i hi).1, ?_⟩
  refine h3.imp id fun ⟨b, o, e, hlt, hc⟩ => ⟨b, o, e, hlt, fun i hi j v hv' => ?_⟩
  have hv2 : (clT.cells (g i))[j]? = some v := hv'
  rw [← (hg i hi).2] at hv2
  match j, hv2 with
  | 0, hv => simp at hv; subst hv; exact hc i hi 0 (by decide)
  | 1, hv => simp at hv; subst hv; exact hc i hi 1 (by decide)
  | 2, hv => simp at hv; subst hv; exact hc i hi 2 (by decide)
end Go.Proofs.Ytdepmoocjnmbeaa
