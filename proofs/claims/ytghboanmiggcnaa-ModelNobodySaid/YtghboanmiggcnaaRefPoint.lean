/-
  The document's own points as octets: a point's octets.
-/
import Derived.Test.YtghboanmiggcnaaPointGetWalk
import Derived.Test.YtghboanmiggcnaaRefCat
import Derived.Deep.RegionWith
import Derived.Deep.DeepCutAuto
namespace Go.Proofs.Ytghboanmiggcnaa
open Go.RowKit
set_option linter.unusedVariables false
set_option linter.unusedSimpArgs false

theorem Fresh.octs {w w' : World} {v : Value} {l : List UInt8} (h : Fresh w w' v l) : ∃ a cap, v = .slice a l.length cap ∧ Octs w' a l ∧ Below w.heap.size w w' := by
  obtain ⟨a, cap, rfl, O, hb⟩ := h
  exact ⟨a, cap, rfl, Octs.of_own O, hb⟩
theorem own_base {w : World} {base base' : Nat} {e : TypeId} {size : Nat} {v : Value} {n : Nat} {xs : List Value} (h : w.ownsRow base e size v n xs) (hb : base' ≤ base) : w.ownsRow base' e size v n xs := by
  refine ⟨h.1, h.2.imp id ?_⟩
  rintro ⟨g, cap, cur, hv, hg, rest⟩
  exact ⟨g, cap, cur, hv, Nat.le_trans hb hg, rest⟩
theorem undrew {w w' : World} (h : Below w.drew.heap.size w.drew w') : Below w.heap.size w w' := ⟨h.os, h.tape, h.output, h.size, h.block⟩
end Go.Proofs.Ytghboanmiggcnaa
