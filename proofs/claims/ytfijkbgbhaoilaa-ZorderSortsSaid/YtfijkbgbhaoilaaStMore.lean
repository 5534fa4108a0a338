/-
  The stable sort, plainly: it is sorted; where one more goes.
-/
import Derived.Test.YtfijkbgbhaoilaaStMath
namespace Go.Proofs.Ytfijkbgbhaoilaa
set_option linter.unusedVariables false
set_option linter.unusedSimpArgs false

section
variable {α : Type} {lt : α → α → Bool}
theorem ins_sorted (K : Weak lt) (x : α) : ∀ L : List α, L.Pairwise (fun a b => lt b a = false) → (ins lt x L).Pairwise (fun a b => lt b a = false)
  | [], _ => by simp [ins]
  | y :: L, h => by
    rw [List.pairwise_cons] at h
    unfold ins
    split
    · rename_i hl
      have hyx := K.asym _ _ hl
      refine List.pairwise_cons.2 ⟨fun z hz => ?_, List.pairwise_cons.2 h⟩
      rcases List.mem_cons.1 hz with rfl | hz
      · exact hyx
      · exact K.neg _ _ _ (h.1 z hz) hyx
    · rename_i hl
      refine List.pairwise_cons.2 ⟨fun z hz => ?_, ins_sorted K x L h.2⟩
      rcases List.mem_cons.1 ((ins_perm x L).subset hz) with rfl | hz
      · simpa using hl
      · exact h.1 z hz
theorem foldl_sorted (K : Weak lt) : ∀ (L M : List α), M.Pairwise (fun a b => lt b a = false) → (L.foldl (fun l x => ins lt x l) M).Pairwise (fun a b => lt b a = false)
  | [], M, h => h
  | x :: L, M, h => foldl_sorted K L _ (ins_sorted K x M h)
theorem stS_sorted (K : Weak lt) (L : List α) : (stS lt L).Pairwise (fun a b => lt b a = false) := foldl_sorted K L [] List.Pairwise.nil
theorem foldl_perm : ∀ (L M : List α), (L.foldl (fun l x => ins lt x l) M).Perm (M ++ L)
  | [], M => by simp
  | x :: L, M => by
    refine (foldl_perm L (ins lt x M)).trans ?_
    have h := (ins_perm (lt := lt) x M).append_right L
    refine h.trans ?_
    exact (List.perm_middle (a := x) (l₁ := M) (l₂ := L)).symm
theorem stS_perm (L : List α) : (stS lt L).Perm L := by
  have h := foldl_perm (lt := lt) L []
  rw [List.nil_append] at h
  exact h
theorem stS_length (L : List α) : (stS lt L).length = L.length := (stS_perm L).length_eq
theorem stS_snoc (L : List α) (x : α) : stS lt (L ++ [x]) = ins lt x (stS lt L) := by
  unfold stS
  rw [List.foldl_append]
  rfl
/-- Where one more goes: behind the last one that it isn't ahead of. -/
theorem ins_take (K : Weak lt) (x : α) : ∀ (L : List α) (k : Nat), k ≤ L.length → L.Pairwise (fun a b => lt b a = false) → (∀ h : k < L.length, lt x L[k] = true) → (∀ h : k - 1 < L.length, 0 < k → lt x L[k - 1] = false) → ins lt x L = L.take k ++ x :: L.drop k
  | [], k, hk, _, _, _ => by
    have : k = 0 := by simpa using hk
    subst this; rfl
  | y :: L, 0, hk, _, h1, _ => by
    have := h1 (by simp)
    simp only [List.getElem_cons_zero] at this
    unfold ins
    rw [if_pos this]
    rfl
  | y :: L, k + 1, hk, hs, h1, h2 => by
    rw [List.pairwise_cons] at hs
    have hlast := h2 (by simp at hk ⊢; omega) (by omega)
    have hxy : lt x y = false := by
      cases k with
      | zero => simpa using hlast
      | succ k =>
        simp only [Nat.add_sub_cancel, List.getElem_cons_succ] at hlast
        exact K.neg _ _ _ hlast (hs.1 _ (List.getElem_mem _))
    unfold ins
    rw [if_neg (by simp [hxy])]
    have ih := ins_take K x L k (by simpa using hk) hs.2 (fun h => by have := h1 (by simpa using h); simpa using this) (fun h h0 => by
      cases k with
      | zero => omega
      | succ k => simpa using hlast)
    rw [ih]
    rfl
end
end Go.Proofs.Ytfijkbgbhaoilaa
