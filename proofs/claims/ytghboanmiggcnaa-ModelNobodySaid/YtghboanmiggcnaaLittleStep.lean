/-
  Layer 1: one field written: what becomes of an Out, and of the law's own octets.
-/
import Derived.Test.YtghboanmiggcnaaLittleField
import Derived.Test.YtghboanmiggcnaaLittleAlive
namespace Go.Proofs.Ytghboanmiggcnaa
open Go.RowKit
set_option linter.unusedVariables false
set_option linter.unusedSimpArgs false

/-- What becomes of an Out with l and e by m octets more, which are nl. -/
def Step (room : Int) (l : List UInt8) (e : Int) (bad : Prop) (m : Int) (nl : List UInt8) (l' : List UInt8) (e' : Int) : Prop :=
  ((e == 0) = false ∧ l' = l ∧ e' = e) ∨ (e = 0 ∧ bad ∧ l' = l ∧ e' = 4) ∨ (e = 0 ∧ ¬ bad ∧ (l.length : Int) + m ≤ room ∧ l' = l ++ nl ∧ e' = 0) ∨ (e = 0 ∧ ¬ bad ∧ room < (l.length : Int) + m ∧ l' = l ∧ e' = 10)

/-- The law's own octets: a row of its own, apart from the Out's. -/
structure AllS (w : World) (base p : Nat) (a : Option Addr) (v : Value) (l : List UInt8) : Prop where
  own : w.ownsRow base 5 1 v l.length (Lib.byteCells l)
  apart : ∀ k, v.ownBlock = some k → ¬ Mine p a k
theorem AllS.more {w w' : World} {base p : Nat} {a : Option Addr} {v : Value} {l : List UInt8} (h : AllS w base p a v l) (hb : Below w.heap.size w w') : AllS w' base p a v l :=
  ⟨own_sole (S := fun _ => False) h.own (Sole.made hb) fun _ _ x => x, h.apart⟩
theorem AllS.out {w w' : World} {base p : Nat} {a a' : Option Addr} {v : Value} {l : List UInt8} (h : AllS w base p a v l) (hg : Grew p a a' w w') : AllS w' base p a' v l := by
  refine ⟨own_sole h.own hg.sole h.apart, fun k hk hm => ?_⟩
  have lt := (h.own.lt k hk).2
  rcases hm with rfl | ⟨x, hx, rfl⟩
  · exact h.apart _ hk (.inl rfl)
  · rcases hg.new with e | ⟨g, e, hgs⟩
    · exact h.apart _ hk (.inr ⟨x, e ▸ hx, rfl⟩)
    · rw [e] at hx; cases hx
      simp only at lt
      omega
theorem fits_of {r l m : Int} (h : decide (r - l < m) = false) : l + m ≤ r := by have := of_decide_eq_false h; omega
theorem full_of {r l m : Int} (h : r - l < m) : r < l + m := by omega
theorem fit_len {r : Int} {l nl : List UInt8} {m : Nat} (h : decide (r - (l.length : Int) < (m : Int)) = false) (hn : nl.length = m) : (((l ++ nl).length : Nat) : Int) ≤ r := by
  have := of_decide_eq_false h
  rw [List.length_append, hn]; omega
/-- The law's own bound of m octets. -/
theorem bound_of (m : Nat) (h : m ≤ 6) : ∃ q : Int, q = 256 ^ m ∧ IntKind.i64.wrap (2 ^ (8 * m)) = q ∧ wrap64 (2 ^ (8 * m)) = q ∧ 1 ≤ q := by
  have c : m = 0 ∨ m = 1 ∨ m = 2 ∨ m = 3 ∨ m = 4 ∨ m = 5 ∨ m = 6 := by omega
  rcases c with rfl | rfl | rfl | rfl | rfl | rfl | rfl <;> exact ⟨_, rfl, by decide, by unfold wrap64; decide, by decide⟩
/-- The value of the law's own row. -/
theorem AllS.form {w : World} {base p : Nat} {a : Option Addr} {v : Value} {l : List UInt8} (h : AllS w base p a v l) : ∃ ga gc, v = .slice ga l.length gc := by
  rcases h.own.2 with ⟨rfl, h0⟩ | ⟨g, c, cur, rfl, _⟩
  · exact ⟨none, 0, by rw [h0]⟩
  · exact ⟨_, c, rfl⟩
end Go.Proofs.Ytghboanmiggcnaa
