/-
  Points in a row of the call's own: a list of them, and the row that a walk reads.
-/
import Derived.Test.YtcklmemnjchdcaaSole
import Derived.Test.YtcklmemnjchdcaaSlices
namespace Go.Proofs.Ytcklmemnjchdcaa
open Go.RowKit
set_option linter.unusedVariables false

theorem ptTab : (Try.prog.info? 168).map (fun i => (i.zero, i.size, i.bytes)) = some (some (.agg #[.int .i64 0, .int .u32 0, .int .u32 0, .string ByteArray.empty]), 4, 32) := by kernel_rfl
theorem intTab : (Try.prog.info? 3).map (fun i => (i.zero, i.size, i.bytes)) = some (some (.int .i64 0), 1, 8) := by kernel_rfl

/-- The cells of points, one behind the other. -/
def flatP (L : List Pt) : List Value := L.flatMap pcells
theorem flatP_nil : flatP [] = [] := rfl
theorem flatP_append (L M : List Pt) : flatP (L ++ M) = flatP L ++ flatP M := by simp [flatP]
theorem flatP_one (q : Pt) : flatP [q] = pcells q := by simp [flatP]
theorem flatP_length : ∀ L : List Pt, (flatP L).length = L.length * 4
  | [] => rfl
  | q :: L => by
    have h := flatP_length L
    simp only [flatP, List.flatMap_cons, List.length_append, List.length_cons] at h ⊢
    rw [h]
    simp [pcells]
    omega
theorem flatP_get : ∀ (L : List Pt) (i j : Nat) (hi : i < L.length) (v : Value), (pcells L[i])[j]? = some v → (flatP L)[i * 4 + j]? = some v
  | [], i, j, hi, v, h => absurd hi (Nat.not_lt_zero _)
  | q :: L, 0, j, hi, v, h => by
    have hj : j < (pcells q).length := (List.getElem?_eq_some_iff.1 h).1
    simp only [flatP, List.flatMap_cons, Nat.zero_mul, Nat.zero_add]
    rw [List.getElem?_append_left hj]
    exact h
  | q :: L, i + 1, j, hi, v, h => by
    have ih := flatP_get L i j (by simpa using hi) v (by simpa using h)
    simp only [flatP, List.flatMap_cons]
    rw [List.getElem?_append_right (by simp [pcells]; omega)]
    rw [show (i + 1) * 4 + j - (pcells q).length = i * 4 + j by simp [pcells]; omega]
    exact ih

/-- A row of the call's own holds these points. -/
def PtsOwn (w : World) (base : Nat) (v : Value) (L : List Pt) : Prop := w.ownsRow base 168 4 v L.length (flatP L)
/-- The i-th of them. -/
def ptAt (L : List Pt) (i : Nat) : Pt := (L[i]?).getD ⟨0, 0, 0, ByteArray.empty⟩
theorem ptAt_eq (L : List Pt) (i : Nat) (hi : i < L.length) : ptAt L i = L[i] := by simp [ptAt, hi]
theorem ptAt_mem (L : List Pt) (i : Nat) (hi : i < L.length) : ptAt L i ∈ L := by rw [ptAt_eq L i hi]; exact List.getElem_mem hi

theorem PtsOwn.nil (w : World) (base : Nat) : PtsOwn w base (.slice none 0 0) [] := World.ownsRow_nil _ _ _ _
theorem PtsOwn.more {w w' : World} {base : Nat} {v : Value} {L : List Pt} (h : PtsOwn w base v L) (hb : Below w.heap.size w w') : PtsOwn w' base v L :=
  own_sole h (Sole.made (S := fun _ => False) hb) fun _ _ x => x
theorem PtsOwn.sole {S : Nat → Prop} {w w' : World} {base : Nat} {v : Value} {L : List Pt} (h : PtsOwn w base v L) (hs : Sole S w w') (hn : ∀ k, v.ownBlock = some k → ¬ S k) : PtsOwn w' base v L := own_sole h hs hn
theorem PtsOwn.open {w : World} {base : Nat} {v : Value} {L : List Pt} (h : PtsOwn w base v L) :
    ∃ p cap, v = .slice p L.length cap ∧ L.length ≤ cap ∧ cap ≤ maxLen ∧ RowP w p 4 L.length (fun i => pcells (ptAt L i)) := by
  rcases h.2 with ⟨rfl, h0⟩ | ⟨g, cap, cur, rfl, hb, hg, h1, h2, h3, h4⟩
  · exact ⟨none, 0, by rw [h0], by omega, Nat.zero_le _, .inl h0⟩
  · refine ⟨_, cap, rfl, h1, h2, .inr ⟨g, 0, rfl, (h.lt g rfl).2, fun i hi j u hu => ?_⟩⟩
    rw [ptAt_eq L i hi] at hu
    have hf := flatP_get L i j hi u hu
    have := h.cells (g := g) rfl (i * 4 + j) u hf
    rw [Nat.zero_add]
    unfold Addr.add at this
    split at this
    · rename_i e
      simpa [e] using this
    · simpa using this

/-- Two rows of unlike elements are two blocks. -/
theorem own_apart {w : World} {b b' : Nat} {e e' : TypeId} {s s' : Nat} {v v' : Value} {n n' : Nat} {xs xs' : List Value} (h : w.ownsRow b e s v n xs) (h' : w.ownsRow b' e' s' v' n' xs') (hne : e ≠ e') :
    ∀ k, v.ownBlock = some k → v'.ownBlock ≠ some k := by
  intro k hk hk'
  rcases h.2 with ⟨rfl, _⟩ | ⟨g, cap, cur, rfl, hb, hg, _⟩
  · cases hk
  · rcases h'.2 with ⟨rfl, _⟩ | ⟨g', cap', cur', rfl, hb', hg', _⟩
    · cases hk'
    · simp [Value.ownBlock] at hk hk'
      subst hk
      subst hk'
      rw [hg] at hg'
      cases hg'
      exact hne rfl
end Go.Proofs.Ytcklmemnjchdcaa
