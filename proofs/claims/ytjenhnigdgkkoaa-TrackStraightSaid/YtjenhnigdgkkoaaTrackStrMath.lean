/-
  Layer 46: what is kept when a way is straightened: the first, the last, and the law's own step.
-/
import Derived.Test.YtjenhnigdgkkoaaTrackMath
namespace Go.Proofs.Ytjenhnigdgkkoaa
open Go.RowKit
set_option linter.unusedVariables false
set_option linter.unusedSimpArgs false

theorem head_snoc (K : List Pt) (p : Pt) (h : 0 < K.length) : ptAt (K ++ [p]) 0 = ptAt K 0 := by
  unfold ptAt
  rw [List.getElem?_append_left h]
theorem head_drop (K : List Pt) (h : 1 < K.length) : ptAt K.dropLast 0 = ptAt K 0 := by
  cases K with
  | nil => cases h
  | cons a K =>
    cases K with
    | nil => simp at h
    | cons b K => simp [ptAt, List.dropLast]
theorem str_first (f : Nat → Pt) : ∀ i, 0 < i → ptAt (keepL strStep f i) 0 = f 0
  | 0, h => absurd h (Nat.lt_irrefl _)
  | i + 1, _ => by
    show ptAt (strStep (keepL strStep f i) (f i)) 0 = f 0
    by_cases h0 : i = 0
    · subst h0; rfl
    · have ih := str_first f i (by omega)
      have hl := (str_last f i (by omega)).1
      generalize keepL strStep f i = K at *
      unfold strStep
      split
      · exact ih
      · split
        · rename_i h
          simp only [Bool.and_eq_true, decide_eq_true_eq] at h
          rw [head_snoc _ _ (by rw [List.length_dropLast]; omega), head_drop _ h.1]; exact ih
        · rw [head_snoc _ _ hl]; exact ih

/-- Is the place of the last? -/
def atLast (K : List Pt) (P : Pt) : Bool := decide (0 < K.length) && samB (lastP K) P
/-- Is the last one on the side from the one ahead? -/
def onLast (K : List Pt) (P : Pt) : Bool := decide (1 < K.length) && ((tn (p2 (lastP2 K)) (p2 (lastP K)) (p2 P) == 0) && wit (p2 (lastP K)) (p2 (lastP2 K)) (p2 P))
theorem str_law (K : List Pt) (P : Pt) : strStep K P = if atLast K P then K else (if onLast K P then K.dropLast else K) ++ [P] := by
  unfold strStep atLast onLast
  rw [on_law]
  split
  · rfl
  · split <;> rfl
end Go.Proofs.Ytjenhnigdgkkoaa
