/-
  Items compared; how many of a row are like one.
-/
import Derived.Test.YtibjccfillhfpaaHeapSorted
namespace Go.Proofs.Ytibjccfillhfpaa
open Go.RowKit
set_option linter.unusedVariables false
set_option linter.unusedSimpArgs false

def eqI8 (a b c d a' b' c' d' : Int) : Bool := decide (a = a') && (decide (b = b') && (decide (c = c') && decide (d = d')))
def eqI (x y : It) : Bool := eqI8 x.h x.l x.o x.i y.h y.l y.o y.i
theorem eqI_iff (x y : It) : eqI x y = true ↔ x = y := by
  cases x; cases y
  simp [eqI, eqI8]
@[go_sem high] theorem eql_it (a b c d a' b' c' d' : Int) (w : World) : (binOp .eql 55 (.agg #[.int .u64 a, .int .u64 b, .int .i64 c, .int .i64 d]) (.agg #[.int .u64 a', .int .u64 b', .int .i64 c', .int .i64 d'])).run Try.prog w = .ok (.bool (eqI8 a b c d a' b' c' d')) w := by
  by_cases h1 : a = a' <;> by_cases h2 : b = b' <;> by_cases h3 : c = c' <;> by_cases h4 : d = d' <;> simp [go_sem, eqI8, h1, h2, h3, h4]
@[go_sem high] theorem neq_it (a b c d a' b' c' d' : Int) (w : World) : (binOp .neq 55 (.agg #[.int .u64 a, .int .u64 b, .int .i64 c, .int .i64 d]) (.agg #[.int .u64 a', .int .u64 b', .int .i64 c', .int .i64 d'])).run Try.prog w = .ok (.bool (!eqI8 a b c d a' b' c' d')) w := by
  by_cases h1 : a = a' <;> by_cases h2 : b = b' <;> by_cases h3 : c = c' <;> by_cases h4 : d = d' <;> simp [go_sem, eqI8, h1, h2, h3, h4]

def cntTo (F : Nat → It) (x : It) : Nat → Nat
  | 0 => 0
  | t + 1 => cntTo F x t + if eqI (F t) x then 1 else 0
theorem cntTo_le (F : Nat → It) (x : It) : ∀ k, cntTo F x k ≤ k
  | 0 => Nat.le_refl _
  | k + 1 => by
    have := cntTo_le F x k
    show cntTo F x k + (if _ then 1 else 0) ≤ k + 1
    split <;> omega
theorem cntTo_its (F : Nat → It) (x : It) : ∀ k, cntTo F x k = (itsL F k).count x
  | 0 => rfl
  | k + 1 => by
    rw [itsL_succ, List.count_append, ← cntTo_its F x k]
    show cntTo F x k + _ = _
    congr 1
    rw [List.count_singleton]
    by_cases e : F k = x
    · rw [if_pos ((eqI_iff _ _).2 e)]; simp [e]
    · rw [if_neg (fun h => e ((eqI_iff _ _).1 h))]; simp [e]
theorem its_self (S : List It) : itsL (itAt S) S.length = S := by
  apply List.ext_getElem?
  intro i
  unfold itsL
  rw [List.getElem?_map]
  by_cases h : i < S.length
  · rw [List.getElem?_range h, List.getElem?_eq_getElem h]
    show some (itAt S i) = _
    rw [itAt_eq S i h]
  · rw [List.getElem?_eq_none (by rw [List.length_range]; omega), List.getElem?_eq_none (by omega)]
    rfl
theorem cnt_same {S : List It} {f : Nat → It} {n : Nat} (h : S.Perm (itsL f n)) (hl : S.length = n) (x : It) : cntTo (itAt S) x n = cntTo f x n := by
  rw [cntTo_its, cntTo_its, ← hl, its_self, hl]
  exact List.perm_iff_count.1 h x
theorem sorted_step {S : List It} (h : S.Pairwise leI) (i : Nat) (h0 : 0 < i) (hi : i < S.length) : lessB (itAt S i) (itAt S (i - 1)) = false := by
  rw [lessB_eq]
  apply decide_eq_false
  have := (List.pairwise_iff_getElem.1 h) (i - 1) i (by omega) hi (by omega)
  rw [itAt_eq S i hi, itAt_eq S (i - 1) (by omega)]
  exact this
end Go.Proofs.Ytibjccfillhfpaa
