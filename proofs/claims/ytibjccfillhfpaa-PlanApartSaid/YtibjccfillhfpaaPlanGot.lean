/-
  Layer 18: what Parts hands back, in one form.
-/
import Derived.Test.YtibjccfillhfpaaPlanIs
namespace Go.Proofs.Ytibjccfillhfpaa
open Go.RowKit
set_option linter.unusedVariables false
set_option linter.unusedSimpArgs false

/-- What is handed back, in one form. -/
structure Got (n z : Int) (p : Plc) (F : List Int) (L : List En) (w' : World) (pv : Option Addr) (nv cv : Nat) (qs qo qx : Int) (nf : Nat) (code : Int) : Prop where
  ways : (placedB n z p F = false ∧ code = 4 ∧ nv = 0 ∧ nf = 0 ∧ qs = 0 ∧ qo = 0 ∧ qx = 0) ∨
    (placedB n z p F = true ∧ L.all goodE = false ∧ code = 12 ∧ nv = 0 ∧ nf = 0 ∧ qs = 0 ∧ qo = 0 ∧ qx = 0) ∨
    (placedB n z p F = true ∧ L.all goodE = true ∧ planP z p F L = none ∧ code = 10 ∧ nv = 0 ∧ nf = 0) ∨
    (placedB n z p F = true ∧ L.all goodE = true ∧ ∃ V f, planP z p F L = some (V.map PtV.data, ⟨qs, qo, qx⟩, f) ∧ code = 0 ∧ nv = V.length ∧ nf = f.length ∧ nv ≤ cv ∧ cv ≤ maxLen ∧ RowOf ptT w' pv V ∧ ∀ y ∈ V, RowOf enT w' y.q y.es ∧ y.es.length ≤ y.cap ∧ y.cap ≤ maxLen)
theorem PartsPost.got {n z : Int} {p : Plc} {F : List Int} {L : List En} {w w' : World} {e : Ending} (h : PartsPost n z p F L w e w') :
    ∃ pv nv cv qs qo qx pf nf cf code, e = .returned (.tuple #[.slice pv nv cv, plv qs qo qx, .slice pf nf cf, .int .i64 code]) ∧ Below w.heap.size w w' ∧ Got n z p F L w' pv nv cv qs qo qx nf code := by
  obtain ⟨hb, ⟨h1, rfl⟩ | ⟨h1, h2, rfl⟩ | ⟨h1, h2, h3, rfl⟩ | ⟨h1, h2, V, q, f, v, vf, h3, rfl, hV, hf⟩⟩ := h
  · exact ⟨none, 0, 0, 0, 0, 0, none, 0, 0, 4, rfl, hb, ⟨.inl ⟨h1, rfl, rfl, rfl, rfl, rfl, rfl⟩⟩⟩
  · exact ⟨none, 0, 0, 0, 0, 0, none, 0, 0, 12, rfl, hb, ⟨.inr (.inl ⟨h1, h2, rfl, rfl, rfl, rfl, rfl, rfl⟩)⟩⟩
  · exact ⟨none, 0, 0, 0, 0, 0, none, 0, 0, 10, rfl, hb, ⟨.inr (.inr (.inl ⟨h1, h2, h3, rfl, rfl, rfl⟩))⟩⟩
  · obtain ⟨pv, cv, rfl, c1, c2, RV⟩ := hV.row.open ptOk
    obtain ⟨pf, cf, rfl, d1, d2, RF⟩ := hf.open inOk
    refine ⟨pv, V.length, cv, q.seg, q.off, q.next, pf, f.length, cf, 0, rfl, hb, ⟨.inr (.inr (.inr ⟨h1, h2, V, f, h3, rfl, rfl, rfl, c1, c2, RV, fun y hy => ?_⟩))⟩⟩
    obtain ⟨pe, ce, he, e1, e2, RE⟩ := (hV.es y hy).open enOk
    cases he
    exact ⟨RE, e1, e2⟩

def wantI (b : Bool) : Int := if b = true then 0 else 12

end Go.Proofs.Ytibjccfillhfpaa
