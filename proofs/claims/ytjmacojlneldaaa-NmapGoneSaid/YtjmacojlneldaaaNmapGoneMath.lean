/-
  Layer 17: what is where, when all Ids are told to be gone, and when they are written again.
-/
import Derived.Test.YtjmacojlneldaaaNmapApply
namespace Go.Proofs.Ytjmacojlneldaaa
open Go.RowKit Go.Maps
set_option linter.unusedVariables false
set_option linter.unusedSimpArgs false

/-- Where nodes are behind k entries. -/
def numA (F : Nat → Int) (f : Nat → En) (g : Nat → Int) : Nat → Nat → Int
  | 0, j => F j
  | k + 1, j => if j = (f k).i.toNat then (if (f k).k = 1 then g (usedA f k) else 0) else numA F f g k j
theorem cellA_num {c : Array Value} {F : Nat → Int} (hc : Nums c .i64 256 F) (f : Nat → En) (g : Nat → Int) {n : Nat} (hi : ∀ k, k < n → (f k).i.toNat < 256) : ∀ k, k ≤ n → Nums (cellA c f g k) .i64 256 (numA F f g k)
  | 0, _ => hc
  | k + 1, h => (cellA_num hc f g hi k (by omega)).set (hi k (by omega)) fun j hj => rfl
theorem ids_has (F : Nat → Int) (j : Nat) (h0 : 0 < j) (hF : F j ≠ 0) : ∀ k, j < k → (j : Int) ∈ idsL F k
  | 0, h => by omega
  | k + 1, h => by
    show (j : Int) ∈ idsL F k ++ _
    by_cases e : j = k
    · subst e
      have e1 : (decide (0 < (j : Int)) && (F j != 0)) = true := by simp [hF]; omega
      rw [e1]
      simp
    · exact List.mem_append_left _ (ids_has F j h0 hF k (by omega))
theorem ids_none (F : Nat → Int) (n : Nat) (h : ∀ j, 0 < j → j < n → F j = 0) : ∀ k, k ≤ n → idsL F k = []
  | 0, _ => rfl
  | k + 1, hk => by
    show idsL F k ++ _ = []
    rw [ids_none F n h k (by omega)]
    by_cases h0 : 0 < k
    · rw [h k h0 (by omega)]; simp
    · have e1 : decide (0 < (k : Int)) = false := decide_eq_false (by omega)
      rw [e1]; rfl

/-- The Ids that are somewhere, in a row of n. -/
structure Some1 (F : Nat → Int) (a : Nat → Int) (n : Nat) : Prop where
  at_ : ∀ i, i < n → ∃ j : Nat, j < 256 ∧ 0 < j ∧ a i = j ∧ F j ≠ 0
  all : ∀ j, 0 < j → j < 256 → F j ≠ 0 → ∃ i, i < n ∧ (a i).toNat = j
theorem some_ids (F : Nat → Int) : ∀ N, N = 256 → Some1 F (fun i => (idsL F N).getD i 0) (idsL F N).length := fun N hN =>
  { at_ := fun i hi => by
      obtain ⟨j, h1, h2, h3, h4⟩ := ids_mem F N ((idsL F N).getD i 0) (by simp [List.getD, hi])
      exact ⟨j, by omega, h2, h3, h4⟩
    all := fun j h0 hj hF => by
      obtain ⟨i, hi, e⟩ := List.getElem_of_mem (ids_has F j h0 hF N (by omega))
      refine ⟨i, hi, ?_⟩
      simp [List.getD, hi, e] }
def goneE (a : Nat → Int) (i : Nat) : En := ⟨2, a i⟩
def backE (a : Nat → Int) (i : Nat) : En := ⟨1, a i⟩
def atE (F a : Nat → Int) (i : Nat) : Int := F (a i).toNat
theorem good_at {F a : Nat → Int} {n : Nat} (h : Some1 F a n) (k : Int) (hk : k = 1 ∨ k = 2) {i : Nat} (hi : i < n) : goodE ⟨k, a i⟩ = true := by
  obtain ⟨j, h1, h2, e, _⟩ := h.at_ i hi
  rw [e]
  unfold goodE
  rcases hk with rfl | rfl <;> simp <;> omega
theorem used_gone (a : Nat → Int) : ∀ k, usedA (goneE a) k = 0
  | 0 => rfl
  | k + 1 => by show usedA (goneE a) k + (if (2 : Int) = 1 then 1 else 0) = 0; rw [used_gone a k]; rfl
theorem used_back (a : Nat → Int) : ∀ k, usedA (backE a) k = k
  | 0 => rfl
  | k + 1 => by show usedA (backE a) k + (if (1 : Int) = 1 then 1 else 0) = k + 1; rw [used_back a k]; rfl
theorem ok_gone {F a : Nat → Int} {n : Nat} (h : Some1 F a n) (m : Nat) : ∀ k, k ≤ n → okA (goneE a) m k = true
  | 0, _ => rfl
  | k + 1, hk => by
    show (okA (goneE a) m k && okE (goneE a k) (usedA (goneE a) k) m) = true
    rw [ok_gone h m k (by omega)]
    unfold okE
    rw [show goodE (goneE a k) = true from good_at h 2 (.inr rfl) (by omega)]
    rfl
theorem ok_back {F a : Nat → Int} {n : Nat} (h : Some1 F a n) : ∀ k, k ≤ n → okA (backE a) n k = true
  | 0, _ => rfl
  | k + 1, hk => by
    show (okA (backE a) n k && okE (backE a k) (usedA (backE a) k) n) = true
    rw [ok_back h k (by omega)]
    unfold okE
    rw [show goodE (backE a k) = true from good_at h 1 (.inl rfl) (by omega), used_back, decide_eq_true (show k < n by omega)]
    simp
theorem gone_done {F a : Nat → Int} {n : Nat} (h : Some1 F a n) : finA (goneE a) 0 n = true := by
  unfold finA; rw [ok_gone h 0 _ (Nat.le_refl _), used_gone]; rfl
theorem back_done {F a : Nat → Int} {n : Nat} (h : Some1 F a n) : finA (backE a) n n = true := by
  unfold finA; rw [ok_back h _ (Nat.le_refl _), used_back]; simp
theorem num_gone (F a g : Nat → Int) (j : Nat) : ∀ k, numA F (goneE a) g k j = if ∃ i, i < k ∧ (a i).toNat = j then 0 else F j
  | 0 => by rw [if_neg (fun ⟨i, h, _⟩ => by omega)]; rfl
  | k + 1 => by
    show (if j = (a k).toNat then (if (2 : Int) = 1 then g (usedA (goneE a) k) else 0) else numA F (goneE a) g k j) = _
    rw [num_gone F a g j k]
    by_cases e : j = (a k).toNat
    · rw [if_pos e, if_neg (show ¬ (2 : Int) = 1 by decide), if_pos ⟨k, by omega, e.symm⟩]
    · rw [if_neg e]
      by_cases h : ∃ i, i < k ∧ (a i).toNat = j
      · rw [if_pos h, if_pos (h.imp fun i hi => ⟨by omega, hi.2⟩)]
      · rw [if_neg h, if_neg]
        rintro ⟨i, hi, ei⟩
        by_cases hk : i = k
        · subst hk; exact e ei.symm
        · exact h ⟨i, by omega, ei⟩
theorem num_back (F G a : Nat → Int) (j : Nat) : ∀ k, numA G (backE a) (atE F a) k j = if ∃ i, i < k ∧ (a i).toNat = j then F j else G j
  | 0 => by rw [if_neg (fun ⟨i, h, _⟩ => by omega)]; rfl
  | k + 1 => by
    show (if j = (a k).toNat then (if (1 : Int) = 1 then atE F a (usedA (backE a) k) else 0) else numA G (backE a) (atE F a) k j) = _
    rw [num_back F G a j k, used_back]
    by_cases e : j = (a k).toNat
    · rw [if_pos e, if_pos rfl, if_pos ⟨k, by omega, e.symm⟩, e]; rfl
    · rw [if_neg e]
      by_cases h : ∃ i, i < k ∧ (a i).toNat = j
      · rw [if_pos h, if_pos (h.imp fun i hi => ⟨by omega, hi.2⟩)]
      · rw [if_neg h, if_neg]
        rintro ⟨i, hi, ei⟩
        by_cases hk : i = k
        · subst hk; exact e ei.symm
        · exact h ⟨i, by omega, ei⟩
theorem Some1.small {F a : Nat → Int} {n : Nat} (h : Some1 F a n) (i : Nat) (hi : i < n) : (a i).toNat < 256 := by
  obtain ⟨j, h1, _, e, _⟩ := h.at_ i hi
  rw [e]; omega
theorem Some1.pos {F a : Nat → Int} {n j : Nat} (h : Some1 F a n) (hx : ∃ i, i < n ∧ (a i).toNat = j) : 0 < j := by
  obtain ⟨i, hi, e⟩ := hx
  obtain ⟨q, h1, h2, eq, _⟩ := h.at_ i hi
  rw [eq] at e
  omega
def restF (F : Nat → Int) (j : Nat) : Int := if j = 0 then F 0 else 0
theorem gone_cells {c : Array Value} {F a : Nat → Int} {n : Nat} (hc : Nums c .i64 256 F) (h : Some1 F a n) (g : Nat → Int) : Nums (cellA c (goneE a) g n) .i64 256 (restF F) :=
  (cellA_num hc (goneE a) g (n := n) h.small n (Nat.le_refl _)).congr fun j hj => by
    rw [num_gone]
    unfold restF
    by_cases hx : ∃ i, i < n ∧ (a i).toNat = j
    · have := h.pos hx
      rw [if_pos hx, if_neg (by omega)]
    · rw [if_neg hx]
      by_cases h0 : j = 0
      · rw [if_pos h0, h0]
      · rw [if_neg h0]
        by_cases hF : F j = 0
        · exact hF.symm
        · exact absurd (h.all j (by omega) hj hF) hx
theorem gone_none (F : Nat → Int) : ∀ N, idsL (restF F) N = [] := fun N => ids_none _ N (fun j h _ => by unfold restF; rw [if_neg (by omega)]) N (Nat.le_refl _)
theorem back_cells {c d : Array Value} {F a : Nat → Int} {n : Nat} (hc : Nums c .i64 256 F) (hd : Nums d .i64 256 (restF F)) (h : Some1 F a n) : cellA d (backE a) (atE F a) n = c :=
  nums_eq ((cellA_num hd (backE a) (atE F a) (n := n) h.small n (Nat.le_refl _)).congr (g := F) fun j hj => by
    rw [num_back]
    by_cases hx : ∃ i, i < n ∧ (a i).toNat = j
    · rw [if_pos hx]
    · rw [if_neg hx]
      unfold restF
      by_cases h0 : j = 0
      · rw [if_pos h0, h0]
      · rw [if_neg h0]
        by_cases hF : F j = 0
        · exact hF
        · exact absurd (h.all j (by omega) hj hF) hx) hc
end Go.Proofs.Ytjmacojlneldaaa
