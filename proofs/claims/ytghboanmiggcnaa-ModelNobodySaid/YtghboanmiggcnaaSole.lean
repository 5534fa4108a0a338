/-
  What changes, but for certain blocks: nothing. The frame of calls that write a few blocks and make others.
-/
import Derived.Test.YtghboanmiggcnaaAid
import Derived.Laws.AppendOwn
import Derived.Lib.BufferMore
namespace Go.Proofs.Ytghboanmiggcnaa
open Go.RowKit
set_option linter.unusedVariables false

/-- Of the blocks that were there only those of S may be others. -/
structure Sole (S : Nat → Prop) (w w' : World) : Prop where
  os : w'.os = w.os
  tape : w'.tape = w.tape
  output : w'.output = w.output
  size : w.heap.size ≤ w'.heap.size
  block : ∀ k, k < w.heap.size → ¬ S k → w'.heap[k]? = w.heap[k]?

theorem Sole.refl (S : Nat → Prop) (w : World) : Sole S w w := ⟨rfl, rfl, rfl, Nat.le_refl _, fun _ _ _ => rfl⟩
theorem Sole.mono {S T : Nat → Prop} {a b : World} (h : Sole S a b) (hs : ∀ k, k < a.heap.size → S k → T k) : Sole T a b :=
  ⟨h.os, h.tape, h.output, h.size, fun k hk hn => h.block k hk fun hS => hn (hs k hk hS)⟩
theorem Sole.trans' {S T : Nat → Prop} {a b c : World} (h : Sole S a b) (k : Sole T b c) (hT : ∀ k, k < a.heap.size → T k → S k) : Sole S a c :=
  ⟨k.os.trans h.os, k.tape.trans h.tape, k.output.trans h.output, Nat.le_trans h.size k.size, fun i hi hn => (k.block i (Nat.lt_of_lt_of_le hi h.size) fun x => hn (hT i hi x)).trans (h.block i hi hn)⟩
theorem Sole.trans {S : Nat → Prop} {a b c : World} (h : Sole S a b) (k : Sole S b c) : Sole S a c := h.trans' k fun _ _ x => x
theorem Sole.of_below {S : Nat → Prop} {B : Nat} {a b : World} (h : Below B a b) (hs : ∀ k, k < a.heap.size → B ≤ k → S k) : Sole S a b :=
  ⟨h.os, h.tape, h.output, h.size, fun k hk hn => h.block k (by by_cases e : k < B; exact e; exact absurd (hs k hk (by omega)) hn)⟩
theorem Sole.made {S : Nat → Prop} {a b : World} (h : Below a.heap.size a b) : Sole S a b := Sole.of_below h fun k hk h2 => by omega
theorem Sole.below {S : Nat → Prop} {B : Nat} {a b : World} (h : Sole S a b) (hB : B ≤ a.heap.size) (hs : ∀ k, S k → B ≤ k) : Below B a b :=
  ⟨h.os, h.tape, h.output, h.size, fun k hk => h.block k (by omega) fun x => by have := hs k x; omega⟩
theorem Sole.grown {S : Nat → Prop} {a b : World} {r : Option Nat} (h : a.grownBy b r) (hs : ∀ k, r = some k → S k) : Sole S a b :=
  ⟨h.os, h.tape, h.output, h.size, fun k hk hn => h.block k hk fun e => hn (hs k e.symm)⟩
theorem Sole.setCell {S : Nat → Prop} (w : World) {b o : Nat} (v : Value) (hs : S b) : Sole S w (w.setCell ⟨b, o, none⟩ v) :=
  ⟨rfl, rfl, rfl, by simp [World.setCell], fun k hk hn => Below.heap_setCell _ _ _ _ fun e => hn (by rw [e]; exact hs)⟩
theorem Sole.drew {S : Nat → Prop} {a b : World} (h : Sole S a b) : Sole S a b.drew := ⟨h.os, h.tape, h.output, h.size, h.block⟩
theorem Sole.alloc {S : Nat → Prop} (w : World) (o : Obj) : Sole S w (w.alloc o) := Sole.made (Below.alloc (Below.refl _ _) (Nat.le_refl _) o)
theorem Sole.cell {S : Nat → Prop} {w w' : World} (h : Sole S w w') {b o : Nat} (hb : b < w.heap.size) (hn : ¬ S b) : w'.cell? ⟨b, o, none⟩ = w.cell? ⟨b, o, none⟩ := World.cell?_of_block (a := ⟨b, o, none⟩) (h.block b hb hn)
theorem Sole.frozen {S : Nat → Prop} {w w' : World} (h : Sole S w w') {b o : Nat} (hb : b < w.heap.size) (hn : ¬ S b) : w'.frozen? ⟨b, o, none⟩ = w.frozen? ⟨b, o, none⟩ := World.frozen?_of_block (a := ⟨b, o, none⟩) (h.block b hb hn)
theorem Blk.sole {S : Nat → Prop} {w w' : World} {b : Nat} {c : Array Value} (h : Blk w b c) (hs : Sole S w w') (hn : ¬ S b) : Blk w' b c :=
  ⟨Nat.lt_of_lt_of_le h.lt hs.size, fun o => (hs.cell h.lt hn).trans (h.cell o), fun o => (hs.frozen h.lt hn).trans (h.frz o)⟩
theorem own_sole {S : Nat → Prop} {w w' : World} {base : Nat} {e : TypeId} {size : Nat} {v : Value} {n : Nat} {xs : List Value} (h : w.ownsRow base e size v n xs) (hs : Sole S w w') (hn : ∀ k, v.ownBlock = some k → ¬ S k) : w'.ownsRow base e size v n xs := by
  refine ⟨h.1, h.2.imp id ?_⟩
  rintro ⟨g, cap, cur, rfl, hb, hg, h1, h2, h3, h4⟩
  exact ⟨g, cap, cur, rfl, hb, (hs.block g (h.lt g rfl).2 (hn g rfl)).trans hg, h1, h2, h3, h4⟩
theorem own_blk {w : World} {base : Nat} {e : TypeId} {v : Value} {n : Nat} {xs : List Value} (h : w.ownsRow base e 1 v n xs) (hn : n ≠ 0) : ∃ g cap cur, v = .slice (some ⟨g, 0, none⟩) n cap ∧ base ≤ g ∧ n ≤ cap ∧ cap ≤ maxLen ∧ Blk w g cur ∧ cur.size = cap ∧ (∀ j, j < n → cur[j]? = xs[j]?) := by
  rcases h.2 with ⟨_, h0⟩ | ⟨g, cap, cur, rfl, hb, hg, h1, h2, h3, h4⟩
  · exact absurd h0 hn
  · refine ⟨g, cap, cur, rfl, hb, h1, h2, ⟨(h.lt g rfl).2, fun o => by simp [World.cell?, hg], fun o => by simp [World.frozen?, hg]⟩, by simpa using h3, fun j hj => ?_⟩
    rw [← h4, List.getElem?_take_of_lt (by omega)]
    simp
/-- A store into an owned row. -/
theorem own_set {w : World} {base g cap : Nat} {e : TypeId} {n : Nat} {xs : List Value} (h : w.ownsRow base e 1 (.slice (some ⟨g, 0, none⟩) n cap) n xs) (j : Nat) (v : Value) : (w.setCell ⟨g, j, none⟩ v).ownsRow base e 1 (.slice (some ⟨g, 0, none⟩) n cap) n (xs.set j v) := by
  refine ⟨by rw [List.length_set]; exact h.1, .inr ?_⟩
  rcases h.2 with ⟨hv, _⟩ | ⟨g', cap', cur, hv, hb, hg, h1, h2, h3, h4⟩
  · cases hv
  · cases hv
    refine ⟨g, cap, cur.setIfInBounds j v, rfl, hb, Lib.heap_setCell_same hg v, h1, h2, by simpa using h3, ?_⟩
    rw [Array.toList_setIfInBounds, ← h4, List.take_set]
end Go.Proofs.Ytghboanmiggcnaa
