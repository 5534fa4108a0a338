/-
  Package little: an In that was opened: take, Left, Err, Text.
-/
import Derived.Test.YtghboanmiggcnaaLittleNobody
import Derived.Test.YtghboanmiggcnaaOctClone
namespace Go.Proofs.Ytghboanmiggcnaa
open Go.RowKit
set_option linter.unusedVariables false
set_option linter.unusedSimpArgs false

/-- An In's cells: what is left, its error. -/
abbrev inC (a : Option Addr) (n cap : Nat) (e : Int) : Array Value := #[.bool true, .slice a n cap, .int .i64 e]
/-- A slice of octets, somewhere below p. -/
def Lies (w : World) (p : Nat) (a : Option Addr) (l : List UInt8) (cap : Nat) : Prop :=
  l.length ≤ cap ∧ cap ≤ maxLen ∧ Octs w a l ∧ ((a = none ∧ cap = 0) ∨ ∃ b o, a = some ⟨b, o, none⟩ ∧ (l ≠ [] → b < p))
/-- An In: what is left of it, its error. -/
def InS (w : World) (p : Nat) (l : List UInt8) (e : Int) : Prop := ∃ a cap, Blk w p (inC a l.length cap e) ∧ Lies w p a l cap

theorem Lies.spot {w : World} {p : Nat} {a : Option Addr} {l : List UInt8} {cap : Nat} (h : Lies w p a l cap) : ∀ x, a = some x → x.spot = none := by
  rintro x rfl
  rcases h.2.2.2 with ⟨h, _⟩ | ⟨b, o, h, _⟩
  · cases h
  · cases h; rfl
theorem Lies.sole {S : Nat → Prop} {w w' : World} {p : Nat} {a : Option Addr} {l : List UInt8} {cap : Nat} (h : Lies w p a l cap) (hs : Sole S w w') (hn : ∀ k, k < p → ¬ S k) : Lies w' p a l cap := by
  refine ⟨h.1, h.2.1, h.2.2.1.sole hs fun b o e hl => ?_, h.2.2.2⟩
  rcases h.2.2.2 with ⟨h, _⟩ | ⟨b', o', h, hb⟩
  · rw [h] at e; cases e
  · rw [h] at e; cases e
    exact hn _ (hb hl)
theorem InS.kept {S : Nat → Prop} {w w' : World} {p : Nat} {l : List UInt8} {e : Int} (h : InS w p l e) (hs : Sole S w w') (hn : ∀ k, k ≤ p → ¬ S k) : InS w' p l e := by
  obtain ⟨a, cap, B, L⟩ := h
  exact ⟨a, cap, B.sole hs (hn p (Nat.le_refl _)), L.sole hs fun k hk => hn k (by omega)⟩
theorem InS.more {w w' : World} {p : Nat} {l : List UInt8} {e : Int} (h : InS w p l e) (hb : Below w.heap.size w w') : InS w' p l e :=
  h.kept (S := fun _ => False) (Sole.made hb) fun _ _ x => x
theorem InS.lt {w : World} {p : Nat} {l : List UInt8} {e : Int} (h : InS w p l e) : p < w.heap.size := by
  obtain ⟨a, cap, B, L⟩ := h; exact B.lt

end Go.Proofs.Ytghboanmiggcnaa
