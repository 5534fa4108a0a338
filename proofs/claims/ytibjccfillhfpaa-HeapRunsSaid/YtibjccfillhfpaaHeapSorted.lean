/-
  package heap: Sorted.
-/
import Derived.Test.YtibjccfillhfpaaHeapPush
import Derived.Test.YtibjccfillhfpaaHeapPop
import Derived.OwnWalk
import Derived.Laws.OwnMore
namespace Go.Proofs.Ytibjccfillhfpaa
open Go.RowKit
set_option linter.unusedVariables false
set_option linter.unusedSimpArgs false

def itsL (f : Nat → It) (k : Nat) : List It := (List.range k).map f
theorem itsL_len (f : Nat → It) (k : Nat) : (itsL f k).length = k := by simp [itsL]
theorem itsL_succ (f : Nat → It) (k : Nat) : itsL f (k + 1) = itsL f k ++ [f k] := by simp [itsL, List.range_succ]

theorem zero_items (n : Nat) : (madeCells (Value.agg #[.int .u64 0, .int .u64 0, .int .i64 0, .int .i64 0]).cells (n * 4)).toList = flatI (List.replicate n zIt) := by
  apply List.ext_getElem?
  intro t
  by_cases h : t < n * 4
  · have e : t = t / 4 * 4 + t % 4 := by omega
    have hi : t / 4 < (List.replicate n zIt).length := by rw [List.length_replicate]; omega
    have hr : (List.replicate n zIt)[t / 4] = zIt := by rw [List.getElem_replicate]
    have hz : ∃ v, (icells zIt)[t % 4]? = some v := by
      have : t % 4 < (icells zIt).length := by show t % 4 < 4; omega
      exact ⟨_, List.getElem?_eq_getElem this⟩
    obtain ⟨v, hv⟩ := hz
    have hf := flatI_get (List.replicate n zIt) (t / 4) (t % 4) hi v (by rw [hr]; exact hv)
    rw [← e] at hf
    rw [hf, Array.getElem?_toList]
    unfold madeCells
    rw [Array.getElem?_map, Array.getElem?_range, if_pos h]
    have h4 : t % 4 = 0 ∨ t % 4 = 1 ∨ t % 4 = 2 ∨ t % 4 = 3 := by omega
    rcases h4 with h4 | h4 | h4 | h4 <;> rw [h4] at hv <;> simp [icells, zIt] at hv <;> subst hv <;> simp [Value.cells, h4]
  · rw [List.getElem?_eq_none (by simp [size_madeCells]; omega), List.getElem?_eq_none (by rw [flatI_length, List.length_replicate]; omega)]

theorem pair_snoc {D L L' : List It} {x : It} (h1 : D.Pairwise leI) (h2 : ∀ a ∈ D, ∀ b ∈ L, leI a b) (hx : x ∈ L) : (D ++ [x]).Pairwise leI := by
  rw [List.pairwise_append]
  refine ⟨h1, List.pairwise_singleton _ _, fun a ha b hb => ?_⟩
  simp at hb
  subst hb
  exact h2 a ha _ hx

end Go.Proofs.Ytibjccfillhfpaa
