/-
  Package batch: there and back.
-/
import Derived.Test.YtgnnikjpnmalmaaBatchTells
import Derived.Test.YtgnnikjpnmalmaaBatchShort
namespace Go.Proofs.Ytgnnikjpnmalmaa
open Go.RowKit
set_option linter.unusedVariables false
set_option linter.unusedSimpArgs false

theorem list_of_bytes : ∀ (l m : List UInt8), l.length = m.length → (∀ i, i < l.length → byteAt l i = byteAt m i) → l = m := by
  intro l m hl h
  apply List.ext_getElem hl
  intro i h1 h2
  have := h i h1
  rw [byteAt_get l i h1, byteAt_get m i h2] at this
  exact UInt8.toNat_inj.1 this
theorem oc_nat (z : Int) (h0 : 0 ≤ z) (h1 : z ≤ 255) : (oc z).toNat = z.toNat := by
  have := oc_int z
  omega
theorem entO_bytes (f : Nat → En) : ∀ n i, i < n → byteAt (entO f n) (2 * i) = (oc (f i).k).toNat ∧ byteAt (entO f n) (2 * i + 1) = (oc (f i).i).toNat
  | 0, i, h => absurd h (Nat.not_lt_zero _)
  | n + 1, i, h => by
    simp only [entO]
    rw [byteAt_app, byteAt_app, entO_length]
    by_cases e : i = n
    · subst e
      rw [if_neg (by omega), if_neg (by omega), Nat.sub_self, show 2 * i + 1 - 2 * i = 1 by omega]
      exact ⟨rfl, rfl⟩
    · rw [if_pos (by omega), if_pos (by omega)]
      exact entO_bytes f n i (by omega)
theorem last_le (la : Bool) : 0 ≤ lastN la ∧ lastN la ≤ 1 := by cases la <;> decide
/-- A summary that may be, as its octets one by one. -/
theorem smB_eq (nx : Int) (la : Bool) (n : Nat) (f : Nat → En) (h : bCk nx n f = 0) : smB nx la n f = [oc nx, oc (lastN la), oc n] ++ entO f n := by
  obtain ⟨q1, q2, q3, q4⟩ := bCk_zero h
  unfold smB sheadB
  rw [entO_eq f n q4, oc_one nx q1 (by omega), oc_one (lastN la) (last_le la).1 (by have := (last_le la).2; omega), oc_one (n : Int) (by omega) (by omega)]
  rfl
theorem smB_length (nx : Int) (la : Bool) (n : Nat) (f : Nat → En) : (smB nx la n f).length = 3 + 2 * n := by
  unfold smB
  rw [List.length_append, sheadB_length, entB_length]
theorem sm_back (nx : Int) (la : Bool) (n : Nat) (f : Nat → En) (h : bCk nx n f = 0) :
    (byteAt (smB nx la n f) 0 : Int) = nx ∧ (((byteAt (smB nx la n f) 1 : Nat) : Int) == 1) = la ∧ byteAt (smB nx la n f) 1 ≤ 1 ∧ byteAt (smB nx la n f) 2 = n ∧ ∀ i, i < n → rdE (smB nx la n f) i = f i := by
  obtain ⟨q1, q2, q3, q4⟩ := bCk_zero h
  rw [smB_eq nx la n f h]
  have e0 : byteAt ([oc nx, oc (lastN la), oc n] ++ entO f n) 0 = (oc nx).toNat := rfl
  have e1 : byteAt ([oc nx, oc (lastN la), oc n] ++ entO f n) 1 = (oc (lastN la)).toNat := rfl
  have e2 : byteAt ([oc nx, oc (lastN la), oc n] ++ entO f n) 2 = (oc n).toNat := rfl
  rw [e0, e1, e2, oc_nat nx q1 (by omega), oc_nat n (by omega) (by omega)]
  refine ⟨by omega, by cases la <;> decide, by cases la <;> decide, by omega, fun i hi => ?_⟩
  obtain ⟨k1, k2, k3⟩ := q4 i hi
  obtain ⟨b1, b2⟩ := entO_bytes f n i hi
  unfold rdE
  rw [byteAt_app, byteAt_app, if_neg (by show ¬ _ < 3; omega), if_neg (by show ¬ _ < 3; omega)]
  rw [show 3 + 2 * i - [oc nx, oc (lastN la), oc n].length = 2 * i by show 3 + 2 * i - 3 = _; omega, show 4 + 2 * i - [oc nx, oc (lastN la), oc n].length = 2 * i + 1 by show 4 + 2 * i - 3 = _; omega, b1, b2, oc_nat _ (by omega) (by omega), oc_nat _ (by omega) (by omega)]
  have z1 : (((f i).k.toNat : Nat) : Int) = (f i).k := by omega
  have z2 : (((f i).i.toNat : Nat) : Int) = (f i).i := by omega
  rw [z1, z2]
theorem sm_readG (nx : Int) (la : Bool) (n : Nat) (f : Nat → En) (h : bCk nx n f = 0) : readG (smB nx la n f) = true := by
  obtain ⟨h0, h1, h2, h3, h4⟩ := sm_back nx la n f h
  unfold readG
  rw [h0, h3, bCk_congr nx n _ f h4, h, smB_length, decide_eq_true (show 3 ≤ 3 + 2 * n by omega), decide_eq_true h2]
  simp
theorem byteAt_take (l : List UInt8) (c i : Nat) (h : i < c) : byteAt (l.take c) i = byteAt l i := by
  unfold byteAt
  simp [List.getElem?_take, h]
/-- What is cut is none. -/
theorem cut_readG (nx : Int) (la : Bool) (n : Nat) (f : Nat → En) (h : bCk nx n f = 0) (c : Nat) (hc : c < 3 + 2 * n) : readG ((smB nx la n f).take c) = false := by
  obtain ⟨h0, h1, h2, h3, h4⟩ := sm_back nx la n f h
  have hl : ((smB nx la n f).take c).length = c := by rw [List.length_take, smB_length]; omega
  unfold readG
  rw [hl]
  by_cases h3c : 3 ≤ c
  · rw [byteAt_take _ c 2 (by omega), h3, show decide (c = 3 + 2 * n) = false from decide_eq_false (by omega)]
    simp
  · rw [show decide (3 ≤ c) = false from decide_eq_false h3c]; rfl
/-- What was read is put as it stood. -/
theorem read_back (b : List UInt8) (h : readG b = true) : bCk (byteAt b 0) (byteAt b 2) (rdE b) = 0 ∧ b.length = 3 + 2 * byteAt b 2 ∧ smB (byteAt b 0) ((byteAt b 1 : Int) == 1) (byteAt b 2) (rdE b) = b := by
  unfold readG at h
  simp only [Bool.and_eq_true, decide_eq_true_eq, beq_iff_eq] at h
  obtain ⟨h3, h1, hl, hc⟩ := h
  refine ⟨hc, hl, ?_⟩
  have hla : lastN ((byteAt b 1 : Int) == 1) = byteAt b 1 := by
    have : byteAt b 1 = 0 ∨ byteAt b 1 = 1 := by omega
    rcases this with e | e <;> rw [e] <;> decide
  obtain ⟨c1, c2, c3, c4⟩ := bCk_zero hc
  have b0 := byteAt_lt b 0
  have b1 := byteAt_lt b 1
  have b2 := byteAt_lt b 2
  rw [smB_eq _ _ _ _ hc, hla]
  apply list_of_bytes
  · rw [List.length_append, entO_length, hl]; simp
  · intro i hi
    rw [byteAt_app]
    by_cases h3i : i < 3
    · rw [if_pos (by simpa using h3i)]
      match i, h3i with
      | 0, _ => show (oc _).toNat = _; rw [oc_nat _ (by omega) (by omega)]; omega
      | 1, _ => show (oc _).toNat = _; rw [oc_nat _ (by omega) (by omega)]; omega
      | 2, _ => show (oc _).toNat = _; rw [oc_nat _ (by omega) (by omega)]; omega
    · rw [if_neg (by simpa using h3i)]
      rw [List.length_append, entO_length] at hi
      have hi' : i < 3 + 2 * byteAt b 2 := by simpa using hi
      show byteAt (entO (rdE b) (byteAt b 2)) (i - 3) = _
      obtain ⟨j, hj⟩ : ∃ j, i = 3 + 2 * j ∨ i = 4 + 2 * j := ⟨(i - 3) / 2, by omega⟩
      obtain ⟨d1, d2⟩ := entO_bytes (rdE b) (byteAt b 2) j (by omega)
      rcases hj with rfl | rfl
      · rw [show 3 + 2 * j - 3 = 2 * j by omega, d1]
        have := byteAt_lt b (3 + 2 * j)
        show (oc ((byteAt b (3 + 2 * j) : Nat) : Int)).toNat = _
        rw [oc_nat _ (by omega) (by omega)]; omega
      · rw [show 4 + 2 * j - 3 = 2 * j + 1 by omega, d2]
        have := byteAt_lt b (4 + 2 * j)
        show (oc ((byteAt b (4 + 2 * j) : Nat) : Int)).toNat = _
        rw [oc_nat _ (by omega) (by omega)]; omega
theorem allE_self (f g : Nat → En) : ∀ n, (∀ i, i < n → g i = f i) → allE f g n = true
  | 0, _ => rfl
  | n + 1, h => by
    simp only [allE]
    rw [allE_self f g n fun i hi => h i (by omega), h n (by omega)]
    simp [enEq]
theorem bSame_back (nx : Int) (la : Bool) (n : Nat) (f g : Nat → En) (h : ∀ i, i < n → g i = f i) : bSame nx nx la la n n f g = true := by
  unfold bSame
  rw [allE_self f g n h]
  simp
theorem bSame_zero (f g : Nat → En) : bSame 0 0 false false 0 0 f g = true := by
  unfold bSame; rfl
/-- A place of a length, whatever the number. -/
theorem place_of (c : Int) (m : Nat) (h0 : 0 < m) (hm : m ≤ 1000) : ∃ k : Nat, k < m ∧ IntKind.i64.wrap ((c.tmod m) + m) = c.tmod m + m ∧ ((c.tmod m) + m) % (m : Int) = (k : Int) ∧ ((c.tmod m) + m).tmod m = (k : Int) ∧ 0 ≤ c.tmod m + m := by
  have h1 : -(m : Int) < c.tmod m := by have := Int.tmod_lt_of_pos (-c) (show (0 : Int) < m by omega); rw [Int.neg_tmod] at this; omega
  have h2 : c.tmod m < m := Int.tmod_lt_of_pos c (by omega)
  have e : (c.tmod m + m).tmod m = (c.tmod m + m) % (m : Int) := Int.tmod_eq_emod_of_nonneg (by omega)
  have e1 := Int.emod_nonneg (c.tmod m + m) (show (m : Int) ≠ 0 by omega)
  have e2 := Int.emod_lt_of_pos (c.tmod m + m) (show (0 : Int) < m by omega)
  rw [e]
  exact ⟨((c.tmod m + m) % (m : Int)).toNat, by omega, IntWalk.i64_in _ (by omega), by omega, by omega, by omega⟩
end Go.Proofs.Ytgnnikjpnmalmaa
