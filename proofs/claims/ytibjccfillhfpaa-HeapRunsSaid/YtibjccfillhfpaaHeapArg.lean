/-
  What an argument that comes in is: items.
-/
import Derived.Test.YtibjccfillhfpaaHeapMath
import Derived.Test.YtibjccfillhfpaaSlicesC
import Derived.Test.YtibjccfillhfpaaOpen
namespace Go.Proofs.Ytibjccfillhfpaa
open Go.ChangeShapes Go.WideShapes Go.ChangeAt Go.RowKit Go.Joins Go.Deep
set_option linter.unusedVariables false
set_option maxRecDepth 100000 in
theorem it_cells {H : Type} {enc : TypeId × Value → H} {W : World} {m : Nat} {L : List Value} {y : DataW H × List MemPlace} (hl : L.length = 4) (ht : DataW.trod enc Try.prog W 0 (fun _ => true) true m 55 L = some y) : ∃ e : It, L = icells e := by
  have hci : Try.prog.cellsOf 3 = 1 := by kernel_rfl
  have hcu : Try.prog.cellsOf 51 = 1 := by kernel_rfl
  have hcd : Try.prog.cellsOf 53 = 2 := by kernel_rfl
  obtain ⟨xs, m', _, hx, _, hxl, hfield⟩ := DataW.trod_struct Try.underlying55 ht
  have hxl' : xs.length = 3 := hxl
  match L, hl, xs, hxl' with
  | [c0, c1, c2, c3], _, [y0, y1, y2], _ =>
    have f0 := hfield 0 _ rfl
    have f1 := hfield 1 _ rfl
    have f2 := hfield 2 _ rfl
    simp [hci, hcd] at f0 f1 f2
    obtain ⟨a', e0, _, _⟩ := DataW.trod_int Try.underlying3 f1
    obtain ⟨b', e1, _, _⟩ := DataW.trod_int Try.underlying3 f2
    obtain ⟨zs, m2, _, hz, _, hzl, hfz⟩ := DataW.trod_struct Try.underlying53 f0
    have hzl' : zs.length = 2 := hzl
    match zs, hzl' with
    | [z0, z1], _ =>
      have g0 := hfz 0 _ rfl
      have g1 := hfz 1 _ rfl
      simp [hcu] at g0 g1
      obtain ⟨c', e2, _, _⟩ := DataW.trod_int Try.underlying51 g0
      obtain ⟨d', e3, _, _⟩ := DataW.trod_int Try.underlying51 g1
      simp at e0 e1 e2 e3
      exact ⟨⟨c', d', a', b'⟩, by rw [e0, e1, e2, e3]; rfl⟩

set_option maxRecDepth 100000 in
/-- A slice of items that comes in. -/
theorem its_of {H : Type} {enc : TypeId × Value → H} {W : World} {b0 : Nat} {v : Value} {d : DataW H} {p : List MemPlace} (hv : Value.okWide Try.prog W .any b0 46 v) (h : DataW.Trod enc Try.prog W 0 (fun _ => true) true 46 v d p) :
    ∃ (n : Nat) (f : Nat → It) (q : Option Addr) (cap : Nat), v = .slice q n cap ∧ n ≤ cap ∧ cap ≤ maxLen ∧ RowP W q 4 n (fun i => icells (f i)) := by
  obtain ⟨n, G, ⟨q, cap, hv, h1, h2, h3⟩, hG⟩ := sl_cells Try.underlying46 (show Try.prog.cellsOf 55 = 4 by kernel_rfl) (by decide) hv h
  have each : ∀ i, i < n → ∃ e : It, G i = icells e := fun i hi => by
    obtain ⟨hl, m, y, ht⟩ := hG i hi
    exact it_cells hl ht
  have hg : ∃ g : Nat → It, ∀ i, i < n → G i = icells (g i) := by
    haveI : Nonempty It := ⟨zIt⟩
    exact ⟨fun i => Classical.epsilon fun e => G i = icells e, fun i hi => Classical.epsilon_spec (each i hi)⟩
  obtain ⟨g, hg⟩ := hg
  refine ⟨n, g, q, cap, hv, h1, h2, h3.imp id fun ⟨b, o, e, hlt, hc⟩ => ⟨b, o, e, hlt, fun i hi j v hv => ?_⟩⟩
  rw [← hg i hi] at hv
  exact hc i hi j v hv

set_option maxRecDepth 100000 in
/-- An item that comes in. -/
theorem it_of {H : Type} {enc : TypeId × Value → H} {W : World} {b0 : Nat} {v : Value} {d : DataW H} {p : List MemPlace} (hv : Value.okWide Try.prog W .any b0 55 v) (h : DataW.Trod enc Try.prog W 0 (fun _ => true) true 55 v d p) : ∃ x : It, v = itval x := by
  obtain ⟨cs, rfl, hsz⟩ := okWide_struct Try.underlying55 hv
  obtain ⟨fuel, hf⟩ := h
  have hC : Try.prog.cellsOf 55 = 4 := by kernel_rfl
  obtain ⟨xs, m', _, hx, hl, hxl, hfield⟩ := DataW.trod_struct Try.underlying55 hf
  have hl' : cs.toList.length = 4 := by rw [← hC]; exact hl
  obtain ⟨e, he⟩ := it_cells hl' hf
  refine ⟨e, ?_⟩
  obtain ⟨l⟩ := cs
  simp at he
  rw [he]
  rfl
end Go.Proofs.Ytibjccfillhfpaa
