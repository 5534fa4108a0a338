/-
  Items in a row of the call's own: a list of them, the row that a walk reads, a store into it.
-/
import Derived.Test.YtgjdngpninpgmaaHeapMath
import Derived.Test.YtgjdngpninpgmaaSlices
import Derived.Test.YtgjdngpninpgmaaSole
import Derived.Test.YtgjdngpninpgmaaAidMore
import Derived.WalkKit
import Derived.Deep.RegionLaw
import Derived.Deep.RegionHeld3
import Derived.Deep.AppendLies
namespace Go.Proofs.Ytgjdngpninpgmaa
open Go.RowKit
set_option linter.unusedVariables false
set_option linter.unusedSimpArgs false

/-- The cells of items, one behind the other. -/
def flatI (L : List It) : List Value := L.flatMap icells
theorem flatI_append (L M : List It) : flatI (L ++ M) = flatI L ++ flatI M := by simp [flatI]
theorem flatI_one (q : It) : flatI [q] = icells q := by simp [flatI]
theorem flatI_length : ∀ L : List It, (flatI L).length = L.length * 4
  | [] => rfl
  | q :: L => by
    have h := flatI_length L
    simp only [flatI, List.flatMap_cons, List.length_append, List.length_cons] at h ⊢
    rw [h]
    simp [icells]
    omega
theorem flatI_get : ∀ (L : List It) (i j : Nat) (hi : i < L.length) (v : Value), (icells L[i])[j]? = some v → (flatI L)[i * 4 + j]? = some v
  | [], i, j, hi, v, h => absurd hi (Nat.not_lt_zero _)
  | q :: L, 0, j, hi, v, h => by
    have hj : j < (icells q).length := (List.getElem?_eq_some_iff.1 h).1
    simp only [flatI, List.flatMap_cons, Nat.zero_mul, Nat.zero_add]
    rw [List.getElem?_append_left hj]
    exact h
  | q :: L, i + 1, j, hi, v, h => by
    have ih := flatI_get L i j (by simpa using hi) v (by simpa using h)
    simp only [flatI, List.flatMap_cons]
    rw [List.getElem?_append_right (by simp [icells]; omega)]
    rw [show (i + 1) * 4 + j - (icells q).length = i * 4 + j by simp [icells]; omega]
    exact ih
theorem flatI_set : ∀ (L : List It) (i : Nat) (x : It), i < L.length → flatI (L.set i x) = ((((flatI L).set (i * 4) (.int .u64 x.h)).set (i * 4 + 1) (.int .u64 x.l)).set (i * 4 + 2) (.int .i64 x.o)).set (i * 4 + 3) (.int .i64 x.i)
  | [], i, x, h => absurd h (Nat.not_lt_zero _)
  | q :: L, 0, x, h => by simp [flatI, icells]
  | q :: L, i + 1, x, h => by
    have ih := flatI_set L i x (by simpa using h)
    simp only [flatI, List.flatMap_cons, List.set_cons_succ] at ih ⊢
    rw [ih]
    have e : ∀ (k : Nat) (M : List Value) (v : Value), (icells q ++ M).set ((i + 1) * 4 + k) v = icells q ++ M.set (i * 4 + k) v := by
      intro k M v
      rw [List.set_append_right _ _ (by simp [icells]; omega)]
      congr 2
      simp [icells]; omega
    have e0 := e 0
    simp only [Nat.add_zero] at e0
    rw [e0, e, e, e]
theorem itAt_eq (L : List It) (i : Nat) (hi : i < L.length) : itAt L i = L[i] := by simp [itAt, List.getD, hi]

theorem own_setC {w : World} {base g cap size : Nat} {e : TypeId} {n : Nat} {xs : List Value} (h : w.ownsRow base e size (.slice (some ⟨g, 0, none⟩) n cap) n xs) (j : Nat) (v : Value) : (w.setCell ⟨g, j, none⟩ v).ownsRow base e size (.slice (some ⟨g, 0, none⟩) n cap) n (xs.set j v) := by
  refine ⟨by rw [List.length_set]; exact h.1, .inr ?_⟩
  rcases h.2 with ⟨hv, _⟩ | ⟨g', cap', cur, hv, hb, hg, h1, h2, h3, h4⟩
  · cases hv
  · cases hv
    refine ⟨g, cap, cur.setIfInBounds j v, rfl, hb, Lib.heap_setCell_same hg v, h1, h2, by simpa using h3, ?_⟩
    rw [Array.toList_setIfInBounds, ← h4, List.take_set]
end Go.Proofs.Ytgjdngpninpgmaa
