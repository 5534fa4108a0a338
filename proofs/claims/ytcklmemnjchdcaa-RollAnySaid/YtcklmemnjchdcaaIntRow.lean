/-
  Whole numbers in a row of the call's own.
-/
import Derived.Test.YtcklmemnjchdcaaPtRow
import Derived.Deep.AppendLies
namespace Go.Proofs.Ytcklmemnjchdcaa
open Go.RowKit
set_option linter.unusedVariables false

/-- Whole numbers in a row of the call's own. -/
def IntsOwn (w : World) (base : Nat) (v : Value) (l : List Int) : Prop := w.ownsRow base 3 1 v l.length (l.map (Value.int .i64))
theorem IntsOwn.open {w : World} {base : Nat} {v : Value} {l : List Int} (h : IntsOwn w base v l) :
    ∃ p cap, v = .slice p l.length cap ∧ l.length ≤ cap ∧ cap ≤ maxLen ∧ RowP w p 1 l.length (fun i => [.int .i64 (l.getD i 0)]) := by
  rcases h.2 with ⟨rfl, h0⟩ | ⟨g, cap, cur, rfl, hb, hg, h1, h2, h3, h4⟩
  · exact ⟨none, 0, by rw [h0], by omega, Nat.zero_le _, .inl h0⟩
  · refine ⟨_, cap, rfl, h1, h2, .inr ⟨g, 0, rfl, (h.lt g rfl).2, fun i hi j u hu => ?_⟩⟩
    rcases j with _ | j
    · simp at hu
      subst hu
      have := h.cells (g := g) rfl i (.int .i64 (l.getD i 0)) (by simp [hi])
      unfold Addr.add at this
      rw [Nat.zero_add, Nat.mul_one, Nat.add_zero]
      split at this
      · rename_i e
        subst e
        exact this
      · simpa using this
    · simp at hu
theorem IntsOwn.nil (w : World) (base : Nat) : IntsOwn w base (.slice none 0 0) [] := World.ownsRow_nil _ _ _ _
theorem IntsOwn.more {w w' : World} {base : Nat} {v : Value} {l : List Int} (h : IntsOwn w base v l) (hb : Below w.heap.size w w') : IntsOwn w' base v l :=
  own_sole h (Sole.made (S := fun _ => False) hb) fun _ _ x => x
theorem IntsOwn.mono {w : World} {a b : Nat} {v : Value} {l : List Int} (h : IntsOwn w b v l) (hab : a ≤ b) : IntsOwn w a v l := by
  refine ⟨h.1, h.2.imp id ?_⟩
  rintro ⟨g, cap, cur, e, hb, r⟩
  exact ⟨g, cap, cur, e, Nat.le_trans hab hb, r⟩
theorem new_cells (w : World) (c : Array Value) (t : TypeId) : ∀ j u, c.toList[j]? = some u → (w.alloc (.cells c t)).cell? (Addr.add ⟨w.heap.size, 0, none⟩ j) = some u :=
  World.news_of_block (cs := c) (t := t) (fr := (0, 0)) (heap_alloc_new w _)
theorem one_int (x : Int) : ∀ u ∈ [Value.int .i64 x], u.oneCell' = true := by
  intro u hu
  simp at hu
  subst hu
  rfl
/-- One more. -/
theorem ints_grow {base : Nat} {w0 w3 w9 : World} {v v9 : Value} {l : List Int} {x : Int} {o : Obj} (hb : Below base w0 w3) (h : IntsOwn w3 base v l) (hs : base ≤ w3.heap.size)
    (hown : w9.ownsRow base 3 1 v9 (l.length + 1) (l.map (Value.int .i64) ++ [.int .i64 x])) (hgrow : (w3.alloc o).grownBy w9 v.ownBlock) : IntsOwn w9 base v9 (l ++ [x]) ∧ Below base w0 w9 := by
  refine ⟨?_, (hb.alloc hs _).grown hgrow (by simp; omega) fun k hk => (h.lt k hk).1⟩
  unfold IntsOwn
  rw [List.length_append, List.map_append]
  exact hown
end Go.Proofs.Ytcklmemnjchdcaa
