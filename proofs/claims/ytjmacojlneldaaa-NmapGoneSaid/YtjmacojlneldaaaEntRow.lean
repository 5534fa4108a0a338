/-
  Entries in a row of the call's own: a list of them, and the row that a walk reads.
-/
import Derived.Test.YtjmacojlneldaaaNmapGoneMath
namespace Go.Proofs.Ytjmacojlneldaaa
open Go.RowKit
set_option linter.unusedVariables false

theorem enTab : (Try.prog.info? 61).map (fun i => (i.zero, i.size, i.bytes)) = some (some (.agg #[.int .i64 0, .int .i64 0]), 2, 16) := by kernel_rfl

/-- The cells of entries, one behind the other. -/
def flatE (L : List En) : List Value := L.flatMap ecells
theorem flatE_nil : flatE [] = [] := rfl
theorem flatE_append (L M : List En) : flatE (L ++ M) = flatE L ++ flatE M := by simp [flatE]
theorem flatE_one (q : En) : flatE [q] = ecells q := by simp [flatE]
theorem flatE_length : ∀ L : List En, (flatE L).length = L.length * 2
  | [] => rfl
  | q :: L => by
    have h := flatE_length L
    simp only [flatE, List.flatMap_cons, List.length_append, List.length_cons] at h ⊢
    rw [h]
    simp [ecells]
    omega
theorem flatE_get : ∀ (L : List En) (i j : Nat) (hi : i < L.length) (v : Value), (ecells L[i])[j]? = some v → (flatE L)[i * 2 + j]? = some v
  | [], i, j, hi, v, h => absurd hi (Nat.not_lt_zero _)
  | q :: L, 0, j, hi, v, h => by
    have hj : j < (ecells q).length := (List.getElem?_eq_some_iff.1 h).1
    simp only [flatE, List.flatMap_cons, Nat.zero_mul, Nat.zero_add]
    rw [List.getElem?_append_left hj]
    exact h
  | q :: L, i + 1, j, hi, v, h => by
    have ih := flatE_get L i j (by simpa using hi) v (by simpa using h)
    simp only [flatE, List.flatMap_cons]
    rw [List.getElem?_append_right (by simp [ecells]; omega)]
    rw [show (i + 1) * 2 + j - (ecells q).length = i * 2 + j by simp [ecells]; omega]
    exact ih

/-- A row of the call's own holds these entries. -/
def EntsOwn (w : World) (base : Nat) (v : Value) (L : List En) : Prop := w.ownsRow base 61 2 v L.length (flatE L)
/-- The i-th of them. -/
def enAt (L : List En) (i : Nat) : En := (L[i]?).getD ⟨0, 0⟩
theorem enAt_eq (L : List En) (i : Nat) (hi : i < L.length) : enAt L i = L[i] := by simp [enAt, hi]

theorem EntsOwn.nil (w : World) (base : Nat) : EntsOwn w base (.slice none 0 0) [] := World.ownsRow_nil _ _ _ _
theorem EntsOwn.more {w w' : World} {base : Nat} {v : Value} {L : List En} (h : EntsOwn w base v L) (hb : Below w.heap.size w w') : EntsOwn w' base v L :=
  own_sole h (Sole.made (S := fun _ => False) hb) fun _ _ x => x
theorem EntsOwn.sole {S : Nat → Prop} {w w' : World} {base : Nat} {v : Value} {L : List En} (h : EntsOwn w base v L) (hs : Sole S w w') (hn : ∀ k, v.ownBlock = some k → ¬ S k) : EntsOwn w' base v L := own_sole h hs hn
theorem EntsOwn.open {w : World} {base : Nat} {v : Value} {L : List En} (h : EntsOwn w base v L) :
    ∃ p cap, v = .slice p L.length cap ∧ L.length ≤ cap ∧ cap ≤ maxLen ∧ RowP w p 2 L.length (fun i => ecells (enAt L i)) := by
  rcases h.2 with ⟨rfl, h0⟩ | ⟨g, cap, cur, rfl, hb, hg, h1, h2, h3, h4⟩
  · exact ⟨none, 0, by rw [h0], by omega, Nat.zero_le _, .inl h0⟩
  · refine ⟨_, cap, rfl, h1, h2, .inr ⟨g, 0, rfl, (h.lt g rfl).2, fun i hi j u hu => ?_⟩⟩
    rw [enAt_eq L i hi] at hu
    have hf := flatE_get L i j hi u hu
    have := h.cells (g := g) rfl (i * 2 + j) u hf
    rw [Nat.zero_add]
    unfold Addr.add at this
    split at this
    · rename_i e
      simpa [e] using this
    · simpa using this

/-- The entries of the law's two rows, behind k rounds. -/
def rowE (e : Nat → En) (k : Nat) : List En := (List.range k).map e
theorem rowE_len (e : Nat → En) (k : Nat) : (rowE e k).length = k := by simp [rowE]
theorem rowE_snoc (e : Nat → En) (k : Nat) : rowE e (k + 1) = rowE e k ++ [e k] := by simp [rowE, List.range_succ]
theorem rowE_at (e : Nat → En) (k i : Nat) (hi : i < k) : enAt (rowE e k) i = e i := by simp [enAt, rowE, hi]
/-- As the contract of Apply wants it. -/
theorem rowE_row {w : World} {base : Nat} {v : Value} {e : Nat → En} {k : Nat} (h : EntsOwn w base v (rowE e k)) :
    ∃ p cap, v = .slice p k cap ∧ k ≤ cap ∧ cap ≤ maxLen ∧ RowP w p 2 k (fun i => ecells (e i)) := by
  obtain ⟨p, cap, e1, h1, h2, R⟩ := h.open
  rw [rowE_len] at e1 h1 R
  refine ⟨p, cap, e1, h1, h2, R.imp id fun ⟨b, o, e2, r⟩ => ⟨b, o, e2, r.lt, fun i hi j u hu => r.cell i hi j u ?_⟩⟩
  rw [rowE_at e k i hi]
  exact hu
end Go.Proofs.Ytjmacojlneldaaa
