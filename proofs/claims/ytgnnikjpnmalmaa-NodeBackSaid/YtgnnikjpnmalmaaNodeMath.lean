/-
  Nodes and their octets: there and back.
-/
import Derived.Test.YtgnnikjpnmalmaaNodeRead
import Derived.Test.YtgnnikjpnmalmaaNodeSame
namespace Go.Proofs.Ytgnnikjpnmalmaa
open Go.RowKit
set_option linter.unusedVariables false
set_option linter.unusedSimpArgs false

theorem leB_byte (l : List UInt8) (i : Nat) (h : i < l.length) : leB (byteAt l i) 1 = (l.drop i).take 1 := by
  rw [← byte_of l i h]
  exact numOf_bytes _ 1 (by rw [List.length_take, List.length_drop]; omega)
theorem numsB_get (g : Nat → Int) (s : Nat) : ∀ n i, i < n → ((numsB g s n).drop (s * i)).take s = leB (g i).toNat s
  | 0, i, h => absurd h (Nat.not_lt_zero _)
  | n + 1, i, h => by
    simp only [numsB]
    have hl := numsB_length g s n
    have hs := leB_length s (g n).toNat
    by_cases e : i = n
    · subst e
      rw [List.drop_append_of_le_length (by omega), List.drop_of_length_le (by omega), List.nil_append, List.take_of_length_le (by omega)]
    · have hm : s * i + s ≤ s * n := by
        rw [← Nat.mul_succ]; exact Nat.mul_le_mul_left s (by omega)
      rw [List.drop_append_of_le_length (by omega), List.take_append_of_le_length (by rw [List.length_drop]; omega)]
      exact numsB_get g s n i (by omega)
theorem kids_back (k c : Nat → Int) (i : Nat) (h : i < 4) (h0 : 0 ≤ k i) (h1 : k i ≤ 255) : kidsR (otherO k c) i = k i := by
  have hl1 := numsB_length k 1 4
  have hl2 := numsB_length c 2 4
  have hl : (otherO k c).length = 13 := by simp [otherO, numsB_length, leB_length]
  have hd : (otherO k c).drop 1 = numsB k 1 4 ++ numsB c 2 4 := by
    unfold otherO
    rw [List.nil_append, List.append_assoc, List.drop_append_of_le_length (by rw [leB_length]; omega), List.drop_of_length_le (by rw [leB_length]; omega), List.nil_append]
  have hg := numsB_get k 1 4 i h
  rw [Nat.one_mul] at hg
  unfold kidsR
  rw [← byte_of _ _ (by omega), ← List.drop_drop, hd, List.drop_append_of_le_length (by omega), List.take_append_of_le_length (by rw [List.length_drop]; omega), hg, numOf_leB]
  omega
theorem cnts_back (k c : Nat → Int) (i : Nat) (h : i < 4) (h0 : 0 ≤ c i) (h1 : c i ≤ 65535) : cntsR (otherO k c) i = c i := by
  have hl1 := numsB_length k 1 4
  have hl2 := numsB_length c 2 4
  have hd : (otherO k c).drop 5 = numsB c 2 4 := by
    have e : otherO k c = ((leB (0 : Int).toNat 1) ++ numsB k 1 4) ++ numsB c 2 4 := by simp [otherO]
    rw [e, List.drop_append_of_le_length (by rw [List.length_append, leB_length]; omega), List.drop_of_length_le (by rw [List.length_append, leB_length]; omega), List.nil_append]
  have hg := numsB_get c 2 4 i h
  unfold cntsR
  rw [← List.drop_drop, hd, hg, numOf_leB]
  omega
theorem byteAt_zero (x : UInt8) (l : List UInt8) : byteAt (x :: l) 0 = x.toNat := rfl
theorem other_back (k c : Nat → Int) (h : otherB 0 0 k c = true) : leafR (otherO k c) = none ∧ otherR (otherO k c) = true ∧ (∀ i, i < 4 → kidsR (otherO k c) i = k i ∧ cntsR (otherO k c) i = c i) := by
  obtain ⟨_, _, hq⟩ := otherB_parts h
  have hb : byteAt (otherO k c) 0 = 0 := by
    have e : otherO k c = 0 :: (numsB k 1 4 ++ numsB c 2 4) := by simp [otherO, leB]
    rw [e]; rfl
  have hl : (otherO k c).length = 13 := by simp [otherO, numsB_length, leB_length]
  have hi : ∀ i, i < 4 → kidsR (otherO k c) i = k i ∧ cntsR (otherO k c) i = c i := fun i h4 => by
    obtain ⟨q1, q2, q3, q4, _⟩ := hq i h4
    exact ⟨kids_back k c i h4 q1 q2, cnts_back k c i h4 q3 q4⟩
  refine ⟨leafR_not (.inl (by omega)), ?_, hi⟩
  unfold otherR
  rw [hl, hb, otherB_congr 0 0 _ _ k c hi, h]
  rfl
theorem kids_put (l : List UInt8) : ∀ n, 1 + n ≤ l.length → numsB (kidsR l) 1 n = (l.drop 1).take n
  | 0, _ => by simp [numsB]
  | n + 1, h => by
    simp only [numsB]
    rw [kids_put l n (by omega), show (kidsR l n).toNat = byteAt l (1 + n) from rfl, leB_byte l _ (by omega), List.take_add, List.drop_drop]
theorem cnts_put (l : List UInt8) : ∀ n, 5 + 2 * n ≤ l.length → numsB (cntsR l) 2 n = (l.drop 5).take (2 * n)
  | 0, _ => by simp [numsB]
  | n + 1, h => by
    simp only [numsB]
    rw [cnts_put l n (by omega), show (cntsR l n).toNat = numOf ((l.drop (5 + 2 * n)).take 2) from rfl, numOf_bytes _ 2 (by rw [List.length_take, List.length_drop]; omega), show 2 * (n + 1) = 2 * n + 2 by omega, List.take_add, List.drop_drop]
theorem other_put (l : List UInt8) (h : otherR l = true) : otherB 0 0 (kidsR l) (cntsR l) = true ∧ otherO (kidsR l) (cntsR l) = l := by
  unfold otherR at h
  simp only [Bool.and_eq_true, decide_eq_true_eq] at h
  obtain ⟨h1, h2, h3⟩ := h
  refine ⟨h3, ?_⟩
  have e0 : leB (0 : Int).toNat 1 = l.take 1 := by
    have := leB_byte l 0 (by omega)
    rw [h2, List.drop_zero] at this
    exact this
  unfold otherO
  rw [kids_put l 4 (by omega), cnts_put l 4 (by omega), e0, List.nil_append, List.append_assoc]
  have e1 : (l.drop 5).take (2 * 4) = (l.drop 1).drop 4 := by
    rw [List.drop_drop, List.take_of_length_le (by rw [List.length_drop]; omega)]
  rw [e1, List.take_append_drop, List.take_append_drop]
theorem leaf_put (l : List UInt8) (L : List Pt) (h : leafR l = some L) : leafB L.length (ptAt L) (byteAt l 1) zf zf = true ∧ leafO (byteAt l 1) L.length (ptAt L) = l ∧ ∀ i, i < L.length → (ptAt L i).ok := by
  obtain ⟨h1, h2, h3, h4⟩ := leafR_some h
  obtain ⟨k1, k2, k3⟩ := rdK_back _ _ _ _ h3
  refine ⟨h4, ?_, fun i hi => (k3 i (by omega)).1⟩
  have a0 := leB_byte l 0 (by omega)
  have a1 := leB_byte l 1 (by omega)
  have a2 := leB_byte l 2 (by omega)
  rw [h2, List.drop_zero] at a0
  unfold leafO lheadB
  rw [k1, show ((byteAt l 1 : Nat) : Int).toNat = byteAt l 1 from rfl, show ((byteAt l 2 : Nat) : Int).toNat = byteAt l 2 from rfl, show (1 : Int).toNat = 1 from rfl, a0, a1, a2]
  rw [List.append_nil] at k2
  rw [← k2, List.nil_append, List.append_assoc, List.append_assoc]
  have t : ∀ (a b : Nat), (l.drop a).take b ++ l.drop (a + b) = l.drop a := fun a b => by
    rw [← List.drop_drop]; exact List.take_append_drop b (l.drop a)
  rw [t 2 1, t 1 1, List.take_append_drop]
theorem allL_congr (f g : Nat → Pt) : ∀ n, (∀ i, i < n → f i = g i) → allL f n = allL g n
  | 0, _ => rfl
  | n + 1, h => by
    have hg : goodL f n = goodL g n := by
      unfold goodL
      rw [h n (by omega)]
      by_cases h0 : n = 0
      · simp [h0]
      · rw [h (n - 1) (by omega)]
    simp only [allL]
    rw [allL_congr f g n fun i hi => h i (by omega), hg]
theorem leaf_back (nx : Int) (n : Nat) (f : Nat → Pt) (k c : Nat → Int) (hf : ∀ i, i < n → (f i).ok) (h : leafB n f nx k c = true) : ∃ L, leafR (leafO nx n f) = some L ∧ L.length = n ∧ (∀ j, j < n → ptAt L j = f j) ∧ (byteAt (leafO nx n f) 1 : Int) = nx := by
  obtain ⟨h1, h2, h3, h4, h5, h6⟩ := leafB_parts h
  obtain ⟨L, k1, k2, k3⟩ := rdK_all f n fun i hi => ⟨hf i hi, goodL_may (h6 i hi)⟩
  have hh : lheadB nx n = [1, UInt8.ofNat nx.toNat, UInt8.ofNat n] := by simp [lheadB, leB]
  have e : leafO nx n f = 1 :: UInt8.ofNat nx.toNat :: UInt8.ofNat n :: ptsB f n := by unfold leafO; rw [hh]; rfl
  have b0 : byteAt (leafO nx n f) 0 = 1 := by rw [e]; rfl
  have b1 : byteAt (leafO nx n f) 1 = nx.toNat := by
    rw [e]
    show (UInt8.ofNat nx.toNat).toNat = _
    have := byte_ofNat nx.toNat
    omega
  have b2 : byteAt (leafO nx n f) 2 = n := by
    rw [e]
    show (UInt8.ofNat n).toNat = _
    have := byte_ofNat n
    omega
  have b1' : (byteAt (leafO nx n f) 1 : Int) = nx := by rw [b1]; omega
  have hd : (leafO nx n f).drop 3 = ptsB f n := by rw [e]; rfl
  refine ⟨L, leafR_ok (by rw [e]; simp) b0 (by rw [hd, b2]; exact k1) ?_, k2, k3, b1'⟩
  rw [b1', k2]
  unfold leafB
  rw [decide_eq_true h1, decide_eq_true h2, decide_eq_true h3, allL_congr (ptAt L) f n k3, (allL_iff f n).2 h6]
  rfl
end Go.Proofs.Ytgnnikjpnmalmaa
