/-
  Points in a row of the call's own: a list of them, and the row that a walk reads.
-/
import Derived.Test.YtjmacojlneldaaaSole
import Derived.Test.YtjmacojlneldaaaSlices
namespace Go.Proofs.Ytjmacojlneldaaa
open Go.RowKit
set_option linter.unusedVariables false

theorem intTab : (Try.prog.info? 3).map (fun i => (i.zero, i.size, i.bytes)) = some (some (.int .i64 0), 1, 8) := by kernel_rfl

/-- The cells of points, one behind the other. -/
def flatP (L : List Pt) : List Value := L.flatMap pcells
theorem flatP_nil : flatP [] = [] := rfl
theorem flatP_append (L M : List Pt) : flatP (L ++ M) = flatP L ++ flatP M := by simp [flatP]
theorem flatP_one (q : Pt) : flatP [q] = pcells q := by simp [flatP]
theorem flatP_length : ∀ L : List Pt, (flatP L).length = L.length * 4
  | [] => rfl
  | q :: L => by
    have h := flatP_length L
    simp only [flatP, List.flatMap_cons, List.length_append, List.length_cons] at h ⊢
    rw [h]
    simp [pcells]
    omega
theorem flatP_get : ∀ (L : List Pt) (i j : Nat) (hi : i < L.length) (v : Value), (pcells L[i])[j]? = some v → (flatP L)[i * 4 + j]? = some v
  | [], i, j, hi, v, h => absurd hi (Nat.not_lt_zero _)
  | q :: L, 0, j, hi, v, h => by
    have hj : j < (pcells q).length := (List.getElem?_eq_some_iff.1 h).1
    simp only [flatP, List.flatMap_cons, Nat.zero_mul, Nat.zero_add]
    rw [List.getElem?_append_left hj]
    exact h
  | q :: L, i + 1, j, hi, v, h => by
    have ih := flatP_get L i j (by simpa using hi) v (by simpa using h)
    simp only [flatP, List.flatMap_cons]
    rw [List.getElem?_append_right (by simp [pcells]; omega)]
    rw [show (i + 1) * 4 + j - (pcells q).length = i * 4 + j by simp [pcells]; omega]
    exact ih

/-- The i-th of them. -/
def ptAt (L : List Pt) (i : Nat) : Pt := (L[i]?).getD ⟨0, 0, 0, ByteArray.empty⟩
theorem ptAt_eq (L : List Pt) (i : Nat) (hi : i < L.length) : ptAt L i = L[i] := by simp [ptAt, hi]
theorem ptAt_mem (L : List Pt) (i : Nat) (hi : i < L.length) : ptAt L i ∈ L := by rw [ptAt_eq L i hi]; exact List.getElem_mem hi

/-- Two rows of unlike elements are two blocks. -/
theorem own_apart {w : World} {b b' : Nat} {e e' : TypeId} {s s' : Nat} {v v' : Value} {n n' : Nat} {xs xs' : List Value} (h : w.ownsRow b e s v n xs) (h' : w.ownsRow b' e' s' v' n' xs') (hne : e ≠ e') :
    ∀ k, v.ownBlock = some k → v'.ownBlock ≠ some k := by
  intro k hk hk'
  rcases h.2 with ⟨rfl, _⟩ | ⟨g, cap, cur, rfl, hb, hg, _⟩
  · cases hk
  · rcases h'.2 with ⟨rfl, _⟩ | ⟨g', cap', cur', rfl, hb', hg', _⟩
    · cases hk'
    · simp [Value.ownBlock] at hk hk'
      subst hk
      subst hk'
      rw [hg] at hg'
      cases hg'
      exact hne rfl
end Go.Proofs.Ytjmacojlneldaaa
