/-
  Package point: which may be; a point's octets.
-/
import Derived.Test.YtghboanmiggcnaaLittleStep
import Derived.Test.YtghboanmiggcnaaSlices
namespace Go.Proofs.Ytghboanmiggcnaa
open Go.RowKit
set_option linter.unusedVariables false
set_option linter.unusedSimpArgs false

/-- Some step there is; where all is well it is the octets. -/
theorem step_some (room : Int) (l : List UInt8) (e : Int) (bad : Prop) (m : Int) (nl : List UInt8) (hl : (l.length : Int) ≤ room) (hm : (nl.length : Int) = m) :
    ∃ l' e', Step room l e bad m nl l' e' ∧ (l'.length : Int) ≤ room ∧ (e = 0 → ¬ bad → (l.length : Int) + m ≤ room → l' = l ++ nl ∧ e' = 0) := by
  by_cases h0 : e = 0
  · by_cases hb : bad
    · exact ⟨l, 4, .inr (.inl ⟨h0, hb, rfl, rfl⟩), hl, fun _ h _ => absurd hb h⟩
    · by_cases hr : (l.length : Int) + m ≤ room
      · exact ⟨l ++ nl, 0, .inr (.inr (.inl ⟨h0, hb, hr, rfl, rfl⟩)), by rw [List.length_append]; omega, fun _ _ _ => ⟨rfl, rfl⟩⟩
      · exact ⟨l, 10, .inr (.inr (.inr ⟨h0, hb, by omega, rfl, rfl⟩)), hl, fun _ _ h => absurd h hr⟩
  · exact ⟨l, e, .inl ⟨by simpa using h0, rfl, rfl⟩, hl, fun h => absurd h h0⟩

/-- A point's octets. -/
def pointB (P : Pt) : List UInt8 := leB P.id.toNat 4 ++ leB P.x.toNat 4 ++ leB P.y.toNat 4 ++ leB P.d.size 1 ++ P.d.data.toList
theorem pointB_length (P : Pt) : (pointB P).length = 13 + P.d.size := by
  simp only [pointB, List.length_append, leB_length, size_list]
/-- May a point be? -/
def Pt.may (P : Pt) : Prop := 1 ≤ P.id ∧ P.id < 2147483648 ∧ P.d.size ≤ 16

/-- One call more of an Out: its state, and what is known where all went well. -/
def OutK (w0 w : World) (p : Nat) (a : Option Addr) (room : Int) (fine : Prop) (l : List UInt8) : Prop :=
  ∃ a' l' e', OutS w p a' room l' e' ∧ Grew p a a' w0 w ∧ (l'.length : Int) ≤ room ∧ (fine → l' = l ∧ e' = 0)

theorem OutK.more {w0 w w' : World} {p : Nat} {a : Option Addr} {room : Int} {fine : Prop} {l : List UInt8} (h : OutK w0 w p a room fine l) (hb : Below w.heap.size w w') : OutK w0 w' p a room fine l := by
  obtain ⟨a1, l1, e1, O, G, hl, hf⟩ := h
  exact ⟨a1, l1, e1, O.more hb, G.trans ⟨Sole.made hb, .inl rfl⟩, hl, hf⟩
theorem OutK.imp {w0 w : World} {p : Nat} {a : Option Addr} {room : Int} {fine fine' : Prop} {l l' : List UInt8} (h : OutK w0 w p a room fine l) (hf : fine' → fine) (hl : fine' → l = l') : OutK w0 w p a room fine' l' := by
  obtain ⟨a1, l1, e1, O, G, hle, hf'⟩ := h
  exact ⟨a1, l1, e1, O, G, hle, fun x => ⟨(hf' (hf x)).1.trans (hl x), (hf' (hf x)).2⟩⟩
theorem OutK.sole {w0 w : World} {p : Nat} {a : Option Addr} {room : Int} {fine : Prop} {l : List UInt8} (h : OutK w0 w p a room fine l) : Sole (Mine p a) w0 w := by
  obtain ⟨_, _, _, _, G, _, _⟩ := h; exact G.sole
theorem OutK.mine {w0 w : World} {p : Nat} {a : Option Addr} {room : Int} {fine : Prop} {l : List UInt8} (h : OutK w0 w p a room fine l) {l0 : List UInt8} {e0 : Int} (O : OutS w0 p a room l0 e0) {k : Nat} (hk : Mine p a k) : k < w0.heap.size := (O.mine hk).2

theorem OutK.begin {w0 w1 w : World} {p : Nat} {a : Option Addr} {room : Int} {fine : Prop} {l : List UInt8} (hb : Below w0.heap.size w0 w1) (h : OutK w1 w p a room fine l) : OutK w0 w p a room fine l := by
  obtain ⟨a1, l1, e1, O, G, hle, hf⟩ := h
  exact ⟨a1, l1, e1, O, Grew.trans ⟨Sole.made hb, .inl rfl⟩ G, hle, hf⟩
/-- A block beside the Out. -/
theorem OutK.blk {w0 w : World} {p g : Nat} {a : Option Addr} {room : Int} {fine : Prop} {l : List UInt8} {c : Array Value} (h : OutK w0 w p a room fine l) (hB : Blk w0 g c) (hg : ¬ Mine p a g) : Blk w g c := hB.sole h.sole hg

end Go.Proofs.Ytghboanmiggcnaa
