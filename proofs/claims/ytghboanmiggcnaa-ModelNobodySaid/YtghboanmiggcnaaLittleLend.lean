/-
  Package little: an Out's state; lend, where there is room.
-/
import Derived.Test.YtghboanmiggcnaaLittleOut
import Derived.Test.YtghboanmiggcnaaOctAppend
import Derived.WalkKit
namespace Go.Proofs.Ytghboanmiggcnaa
open Go.RowKit
set_option linter.unusedVariables false
set_option linter.unusedSimpArgs false

/-- An Out's own blocks: its cells, and its row. -/
def Mine (p : Nat) (a : Option Addr) (k : Nat) : Prop := k = p ∨ ∃ x : Addr, a = some x ∧ x.block = k
/-- An Out: what was written, its error. -/
def OutS (w : World) (p : Nat) (a : Option Addr) (room : Int) (l : List UInt8) (e : Int) : Prop :=
  ∃ cap, Blk w p (outC room a l.length cap e) ∧ w.ownsRow (p + 1) 5 1 (.slice a l.length cap) l.length (Lib.byteCells l)
/-- What a call of an Out changes. -/
structure Grew (p : Nat) (a a' : Option Addr) (w w' : World) : Prop where
  sole : Sole (Mine p a) w w'
  new : a' = a ∨ ∃ g, a' = some ⟨g, 0, none⟩ ∧ w.heap.size ≤ g

theorem Grew.refl (p : Nat) (a : Option Addr) (w : World) : Grew p a a w w := ⟨Sole.refl _ _, .inl rfl⟩
theorem Grew.trans {p : Nat} {a a' a'' : Option Addr} {w w1 w2 : World} (h : Grew p a a' w w1) (k : Grew p a' a'' w1 w2) : Grew p a a'' w w2 := by
  refine ⟨h.sole.trans' k.sole fun j hj hm => ?_, ?_⟩
  · rcases hm with rfl | ⟨x, hx, rfl⟩
    · exact .inl rfl
    · rcases h.new with e | ⟨g, e, hg⟩
      · exact .inr ⟨x, e ▸ hx, rfl⟩
      · rw [e] at hx; cases hx
        simp only at hj
        omega
  · rcases k.new with e | ⟨g, e, hg⟩
    · rcases h.new with e' | ⟨g, e', hg⟩
      · exact .inl (e.trans e')
      · exact .inr ⟨g, e.trans e', hg⟩
    · exact .inr ⟨g, e, Nat.le_trans h.sole.size hg⟩
theorem OutS.lt {w : World} {p : Nat} {a : Option Addr} {room : Int} {l : List UInt8} {e : Int} (h : OutS w p a room l e) : p < w.heap.size := by
  obtain ⟨cap, B, _⟩ := h; exact B.lt
/-- Its row lies behind its cells. -/
theorem OutS.mine {w : World} {p : Nat} {a : Option Addr} {room : Int} {l : List UInt8} {e : Int} (h : OutS w p a room l e) {k : Nat} (hk : Mine p a k) : p ≤ k ∧ k < w.heap.size := by
  obtain ⟨cap, B, O⟩ := h
  rcases hk with rfl | ⟨x, rfl, rfl⟩
  · exact ⟨Nat.le_refl _, B.lt⟩
  · have := O.lt x.block rfl
    exact ⟨by omega, this.2⟩
theorem OutS.kept {S : Nat → Prop} {w w' : World} {p : Nat} {a : Option Addr} {room : Int} {l : List UInt8} {e : Int} (h : OutS w p a room l e) (hs : Sole S w w') (hn : ∀ k, Mine p a k → ¬ S k) : OutS w' p a room l e := by
  obtain ⟨cap, B, O⟩ := h
  refine ⟨cap, B.sole hs (hn p (.inl rfl)), own_sole O hs fun k hk => ?_⟩
  rcases a with _ | x
  · cases hk
  · exact hn k (.inr ⟨x, rfl, by simpa [Value.ownBlock] using hk⟩)
theorem OutS.more {w w' : World} {p : Nat} {a : Option Addr} {room : Int} {l : List UInt8} {e : Int} (h : OutS w p a room l e) (hb : Below w.heap.size w w') : OutS w' p a room l e :=
  h.kept (S := fun _ => False) (Sole.made hb) fun _ _ x => x
theorem OutS.below {w w' : World} {p : Nat} {a a' : Option Addr} {room : Int} {l : List UInt8} {e : Int} (h : OutS w p a room l e) (hb : Grew p a a' w w') : Below p w w' :=
  hb.sole.below (Nat.le_of_lt h.lt) fun k hk => (h.mine hk).1
theorem OutS.new (w : World) (room : Int) (t : TypeId) : OutS (w.alloc (.cells (outC room none 0 0 0) t)) w.heap.size none room [] 0 :=
  ⟨0, Blk.new w _ t, World.ownsRow_nil _ _ _ _⟩
theorem OutS.fail {w : World} {p : Nat} {a : Option Addr} {room : Int} {l : List UInt8} {e : Int} (h : OutS w p a room l e) (c : Int) : OutS (w.setCell ⟨p, 3, none⟩ (.int .i64 c)) p a room l c ∧ Grew p a a w (w.setCell ⟨p, 3, none⟩ (.int .i64 c)) := by
  obtain ⟨cap, B, O⟩ := h
  exact ⟨⟨cap, B.set 3 _ (by simp), ownsRow_setCell_below O (Nat.lt_succ_self p) _⟩, Sole.setCell _ _ (.inl rfl), .inl rfl⟩

end Go.Proofs.Ytghboanmiggcnaa
