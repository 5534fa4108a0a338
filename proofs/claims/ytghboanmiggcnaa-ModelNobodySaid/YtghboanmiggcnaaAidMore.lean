/-
  More small facts of memory: a whole struct stored, cell by cell.
-/
import Derived.Test.YtghboanmiggcnaaAid
namespace Go.Proofs.Ytghboanmiggcnaa
open Go.RowKit
set_option linter.unusedVariables false

/-- The world behind these stores, one cell behind the other. -/
def setAll (w : World) (b : Nat) : Nat → List Value → World
  | _, [] => w
  | o, v :: vs => setAll (w.setCell ⟨b, o, none⟩ v) b (o + 1) vs
def fillC (c : Array Value) : Nat → List Value → Array Value
  | _, [] => c
  | o, v :: vs => fillC (c.setIfInBounds o v) (o + 1) vs

theorem Blk.fill {b : Nat} : ∀ (vs : List Value) (o : Nat) {w : World} {c : Array Value}, Blk w b c → o + vs.length ≤ c.size → Blk (setAll w b o vs) b (fillC c o vs)
  | [], _, _, _, h, _ => h
  | v :: vs, o, w, c, h, hs => Blk.fill vs (o + 1) (h.set o v (by simp at hs; omega)) (by simp at hs ⊢; omega)
theorem Blk.past {b b' : Nat} {c : Array Value} (hne : b' ≠ b) : ∀ (vs : List Value) (o : Nat) {w : World}, Blk w b c → Blk (setAll w b' o vs) b c
  | [], _, _, h => h
  | v :: vs, o, w, h => Blk.past hne vs (o + 1) (h.other ⟨b', o, none⟩ hne v)
theorem below_fill {B b : Nat} {w1 : World} (hB : B ≤ b) : ∀ (vs : List Value) (o : Nat) {w : World}, Below B w1 w → Below B w1 (setAll w b o vs)
  | [], _, _, h => h
  | v :: vs, o, w, h => below_fill hB vs (o + 1) (Below.setCell (p := ⟨b, o, none⟩) h hB v)
theorem size_setAll {b : Nat} : ∀ (vs : List Value) (o : Nat) (w : World), (setAll w b o vs).heap.size = w.heap.size
  | [], _, _ => rfl
  | v :: vs, o, w => (size_setAll vs (o + 1) _).trans (by simp [World.setCell])
end Go.Proofs.Ytghboanmiggcnaa
