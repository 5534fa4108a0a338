/-
  Package little: an Out where all goes well, call by call; an In whose octets suffice.
-/
import Derived.Test.YtghboanmiggcnaaLittleStep
import Derived.Test.YtghboanmiggcnaaPointGetWalk
namespace Go.Proofs.Ytghboanmiggcnaa
open Go.RowKit
set_option linter.unusedVariables false
set_option linter.unusedSimpArgs false

/-- An Out that holds l, where all went well; below p the world is as w0 was. -/
def WS (w0 : World) (p : Nat) (room : Int) (w : World) (l : List UInt8) : Prop := ∃ a, OutS w p a room l 0 ∧ Below p w0 w

theorem WS.grew {w0 w w' : World} {p : Nat} {room : Int} {l l' : List UInt8} {a a' : Option Addr} (O : OutS w p a room l 0) (hb : Below p w0 w) (O' : OutS w' p a' room l' 0) (G : Grew p a a' w w') : WS w0 p room w' l' :=
  ⟨a', O', hb.trans (O.below G)⟩
theorem WS.more {w0 w w' : World} {p : Nat} {room : Int} {l : List UInt8} (h : WS w0 p room w l) (hb : Below w.heap.size w w') : WS w0 p room w' l := by
  obtain ⟨a, O, h0⟩ := h
  exact ⟨a, O.more hb, h0.trans (hb.mono (Nat.le_of_lt O.lt))⟩
theorem WS.below {w0 w : World} {p : Nat} {room : Int} {l : List UInt8} (h : WS w0 p room w l) : Below p w0 w := by
  obtain ⟨a, _, hb⟩ := h; exact hb
theorem WS.lt {w0 w : World} {p : Nat} {room : Int} {l : List UInt8} (h : WS w0 p room w l) : p < w.heap.size := by
  obtain ⟨a, O, _⟩ := h; exact O.lt
/-- A step of an In, seen from a world ahead of it. -/
theorem in_below {w0 w w' : World} {p : Nat} (h : Below w0.heap.size w0 w) (hp : w0.heap.size ≤ p) (S : Sole (fun k => k = p) w w') : Below w0.heap.size w0 w' :=
  h.trans (S.below h.size fun k hk => by omega)
end Go.Proofs.Ytghboanmiggcnaa
