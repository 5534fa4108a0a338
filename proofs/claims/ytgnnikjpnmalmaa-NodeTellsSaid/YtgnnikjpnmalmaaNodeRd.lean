/-
  Nodes of octets: what is read.
-/
import Derived.Test.YtgnnikjpnmalmaaNodePutAll
import Derived.Test.YtgnnikjpnmalmaaPtRow
import Derived.Test.YtgnnikjpnmalmaaByteAt
namespace Go.Proofs.Ytgnnikjpnmalmaa
open Go.RowKit
set_option linter.unusedVariables false
set_option linter.unusedSimpArgs false

/-- Points, one behind the other: the first so many, and what is left. -/
def rdK (l : List UInt8) : Nat → Option (List Pt × List UInt8)
  | 0 => some ([], l)
  | i + 1 => match rdK l i with
    | none => none
    | some (L, r) => if 13 + lenAt r ≤ r.length ∧ (pointOf r).may then some (L ++ [pointOf r], r.drop (13 + lenAt r)) else none
theorem rdK_none (l : List UInt8) {i : Nat} (h : rdK l i = none) : ∀ n, i ≤ n → rdK l n = none
  | 0, hi => by obtain rfl : i = 0 := by omega
                exact h
  | n + 1, hi => by
    by_cases e : i = n + 1
    · rw [← e]; exact h
    · simp only [rdK, rdK_none l h n (by omega)]
theorem rdK_step {l r : List UInt8} {i : Nat} {L : List Pt} (h : rdK l i = some (L, r)) (hl : 13 + lenAt r ≤ r.length) (hm : (pointOf r).may) : rdK l (i + 1) = some (L ++ [pointOf r], r.drop (13 + lenAt r)) := by
  simp only [rdK, h]
  rw [if_pos ⟨hl, hm⟩]
theorem rdK_stop {l r : List UInt8} {i : Nat} {L : List Pt} (h : rdK l i = some (L, r)) (hn : ¬ (13 + lenAt r ≤ r.length ∧ (pointOf r).may)) : rdK l (i + 1) = none := by
  simp only [rdK, h]
  rw [if_neg hn]
theorem numOf_bytes (l : List UInt8) : ∀ n, l.length = n → leB (numOf l) n = l := by
  intro n h; subst h; exact leB_numOf l
/-- What is read of octets as a point has these octets. -/
theorem pointB_of (r : List UInt8) (hl : 13 + lenAt r ≤ r.length) (hm : (pointOf r).may) : pointB (pointOf r) ++ r.drop (13 + lenAt r) = r := by
  have e1 : leB (pointOf r).id.toNat 4 = r.take 4 := numOf_bytes _ 4 (by rw [List.length_take]; omega)
  have e2 : leB (pointOf r).x.toNat 4 = (r.drop 4).take 4 := numOf_bytes _ 4 (by rw [List.length_take, List.length_drop]; omega)
  have e3 : leB (pointOf r).y.toNat 4 = (r.drop 8).take 4 := numOf_bytes _ 4 (by rw [List.length_take, List.length_drop]; omega)
  have hd : (pointOf r).d.data.toList = (r.drop 13).take (lenAt r) := rfl
  have hs : (pointOf r).d.size = lenAt r := by
    have : (pointOf r).d.size = (pointOf r).d.data.toList.length := (size_list _).symm
    rw [this, hd, List.length_take, List.length_drop]; omega
  have e4 : leB (pointOf r).d.size 1 = (r.drop 12).take 1 := by rw [hs]; exact numOf_bytes _ 1 (by rw [List.length_take, List.length_drop]; omega)
  unfold pointB
  rw [e1, e2, e3, e4, hd]
  have t : ∀ (a b : Nat), (r.drop a).take b ++ r.drop (a + b) = r.drop a := fun a b => by
    rw [← List.drop_drop]; exact List.take_append_drop b (r.drop a)
  rw [List.append_assoc, List.append_assoc, List.append_assoc, List.append_assoc, t 13 (lenAt r), t 12 1, t 8 4, t 4 4, List.take_append_drop]
theorem ptsB_congr (f g : Nat → Pt) : ∀ n, (∀ i, i < n → f i = g i) → ptsB f n = ptsB g n
  | 0, _ => rfl
  | n + 1, h => by simp only [ptsB]; rw [ptsB_congr f g n fun i hi => h i (by omega), h n (by omega)]
theorem ptAt_more (L : List Pt) (P : Pt) (i : Nat) (h : i < L.length) : ptAt (L ++ [P]) i = ptAt L i := by
  unfold ptAt; rw [List.getElem?_append_left h]
theorem ptAt_last (L : List Pt) (P : Pt) : ptAt (L ++ [P]) L.length = P := by
  unfold ptAt; rw [List.getElem?_append_right (Nat.le_refl _)]; simp
/-- What was read stands there. -/
theorem rdK_back (l : List UInt8) : ∀ (i : Nat) (L : List Pt) (r : List UInt8), rdK l i = some (L, r) → L.length = i ∧ l = ptsB (ptAt L) i ++ r ∧ ∀ j, j < i → (ptAt L j).ok ∧ (ptAt L j).may
  | 0, L, r, h => by
    simp only [rdK, Option.some.injEq, Prod.mk.injEq] at h
    obtain ⟨rfl, rfl⟩ := h
    exact ⟨rfl, rfl, fun j hj => absurd hj (Nat.not_lt_zero _)⟩
  | i + 1, L, r, h => by
    cases hk : rdK l i with
    | none => simp only [rdK, hk] at h; cases h
    | some x =>
      obtain ⟨L0, r0⟩ := x
      by_cases hg : 13 + lenAt r0 ≤ r0.length ∧ (pointOf r0).may
      · rw [rdK_step hk hg.1 hg.2, Option.some.injEq, Prod.mk.injEq] at h
        obtain ⟨rfl, rfl⟩ := h
        obtain ⟨h1, h2, h3⟩ := rdK_back l i L0 r0 hk
        have hok := pointOf_ok r0 (by have := hg.2.2.2; unfold maxLen; omega)
        refine ⟨by rw [List.length_append, h1]; rfl, ?_, fun j hj => ?_⟩
        · simp only [ptsB]
          rw [ptsB_congr (ptAt (L0 ++ [pointOf r0])) (ptAt L0) i fun j hj => ptAt_more _ _ _ (by omega)]
          rw [← h1, ptAt_last, List.append_assoc, pointB_of r0 hg.1 hg.2, h1]
          exact h2
        · by_cases e : j = i
          · rw [e, ← h1, ptAt_last]; exact ⟨hok, hg.2⟩
          · rw [ptAt_more _ _ _ (by omega)]; exact h3 j (by omega)
      · rw [rdK_stop hk hg] at h; cases h
def ptsF (f : Nat → Pt) (i : Nat) : Nat → List UInt8
  | 0 => []
  | c + 1 => pointB (f i) ++ ptsF f (i + 1) c
theorem ptsF_snoc (f : Nat → Pt) : ∀ (c i : Nat), ptsF f i (c + 1) = ptsF f i c ++ pointB (f (i + c))
  | 0, i => by simp [ptsF]
  | c + 1, i => by
    rw [show ptsF f i (c + 1 + 1) = pointB (f i) ++ ptsF f (i + 1) (c + 1) from rfl, ptsF_snoc f c (i + 1), show ptsF f i (c + 1) = pointB (f i) ++ ptsF f (i + 1) c from rfl, List.append_assoc, show i + 1 + c = i + (c + 1) by omega]
theorem ptsF_eq (f : Nat → Pt) : ∀ n, ptsF f 0 n = ptsB f n
  | 0 => rfl
  | n + 1 => by rw [ptsF_snoc, ptsF_eq f n, Nat.zero_add]; rfl
theorem pt_back (P : Pt) (hP : P.ok) (hm : P.may) (m : List UInt8) : pointOf (pointB P ++ m) = P ∧ lenAt (pointB P ++ m) = P.d.size := by
  obtain ⟨i1, i2, x1, x2, y1, y2, _⟩ := hP
  obtain ⟨m1, m2, m3⟩ := hm
  have e : pointB P ++ m = leB P.id.toNat 4 ++ (leB P.x.toNat 4 ++ (leB P.y.toNat 4 ++ (leB P.d.size 1 ++ (P.d.data.toList ++ m)))) := by simp [pointB, List.append_assoc]
  have l1 := leB_length 4 P.id.toNat
  have l2 := leB_length 4 P.x.toNat
  have l3 := leB_length 4 P.y.toNat
  have l4 := leB_length 1 P.d.size
  have t1 : (pointB P ++ m).take 4 = leB P.id.toNat 4 := by rw [e, List.take_append_of_le_length (by omega), List.take_of_length_le (by omega)]
  have d1 : (pointB P ++ m).drop 4 = leB P.x.toNat 4 ++ (leB P.y.toNat 4 ++ (leB P.d.size 1 ++ (P.d.data.toList ++ m))) := by rw [e, List.drop_append_of_le_length (by omega), List.drop_of_length_le (by omega), List.nil_append]
  have d2 : (pointB P ++ m).drop 8 = leB P.y.toNat 4 ++ (leB P.d.size 1 ++ (P.d.data.toList ++ m)) := by
    rw [show 8 = 4 + 4 from rfl, ← List.drop_drop, d1, List.drop_append_of_le_length (by omega), List.drop_of_length_le (by omega), List.nil_append]
  have d3 : (pointB P ++ m).drop 12 = leB P.d.size 1 ++ (P.d.data.toList ++ m) := by
    rw [show 12 = 8 + 4 from rfl, ← List.drop_drop, d2, List.drop_append_of_le_length (by omega), List.drop_of_length_le (by omega), List.nil_append]
  have d4 : (pointB P ++ m).drop 13 = P.d.data.toList ++ m := by
    rw [show 13 = 12 + 1 from rfl, ← List.drop_drop, d3, List.drop_append_of_le_length (by omega), List.drop_of_length_le (by omega), List.nil_append]
  have n4 : numOf (((pointB P ++ m).drop 12).take 1) = P.d.size := by
    rw [d3, List.take_append_of_le_length (by omega), List.take_of_length_le (by omega), numOf_leB]
    exact Nat.mod_eq_of_lt (by omega)
  refine ⟨?_, n4⟩
  have n1 : (numOf ((pointB P ++ m).take 4) : Int) = P.id := by
    rw [t1, numOf_leB, Nat.mod_eq_of_lt (by omega)]; omega
  have n2 : (numOf (((pointB P ++ m).drop 4).take 4) : Int) = P.x := by
    rw [d1, List.take_append_of_le_length (by omega), List.take_of_length_le (by omega), numOf_leB, Nat.mod_eq_of_lt (by omega)]; omega
  have n3 : (numOf (((pointB P ++ m).drop 8).take 4) : Int) = P.y := by
    rw [d2, List.take_append_of_le_length (by omega), List.take_of_length_le (by omega), numOf_leB, Nat.mod_eq_of_lt (by omega)]; omega
  have n5 : textOf (((pointB P ++ m).drop 13).take (numOf (((pointB P ++ m).drop 12).take 1))) = P.d := by
    have sl := size_list P.d
    rw [n4, d4, List.take_append_of_le_length (by omega), List.take_of_length_le (by omega)]
  unfold pointOf
  rw [n1, n2, n3, n5]

/-- Points that may be, one behind the other, are read back. -/
theorem rdK_pts (f : Nat → Pt) (n : Nat) (m : List UInt8) (hf : ∀ i, i < n → (f i).ok ∧ (f i).may) : ∀ i, i ≤ n → ∃ L, rdK (ptsB f n ++ m) i = some (L, ptsF f i (n - i) ++ m) ∧ L.length = i ∧ ∀ j, j < i → ptAt L j = f j
  | 0, _ => ⟨[], by rw [Nat.sub_zero, ptsF_eq]; rfl, rfl, fun j hj => absurd hj (Nat.not_lt_zero _)⟩
  | i + 1, hi => by
    obtain ⟨L, h1, h2, h3⟩ := rdK_pts f n m hf i (by omega)
    obtain ⟨ho, hm⟩ := hf i (by omega)
    have e : ptsF f i (n - i) ++ m = pointB (f i) ++ (ptsF f (i + 1) (n - (i + 1)) ++ m) := by
      rw [show n - i = (n - (i + 1)) + 1 by omega]
      simp [ptsF, List.append_assoc]
    obtain ⟨b1, b2⟩ := pt_back (f i) ho hm (ptsF f (i + 1) (n - (i + 1)) ++ m)
    have hl := pointB_length (f i)
    rw [e] at h1
    refine ⟨L ++ [f i], ?_, by rw [List.length_append, h2]; rfl, fun j hj => ?_⟩
    · have := rdK_step h1 (by rw [b2, List.length_append]; omega) (by rw [b1]; exact hm)
      rw [b1, b2, ← hl, List.drop_append_of_le_length (Nat.le_refl _), List.drop_of_length_le (Nat.le_refl _), List.nil_append] at this
      exact this
    · by_cases ej : j = i
      · rw [ej, ← h2, ptAt_last]
      · rw [ptAt_more _ _ _ (by omega)]; exact h3 j (by omega)
theorem rdK_all (f : Nat → Pt) (n : Nat) (hf : ∀ i, i < n → (f i).ok ∧ (f i).may) : ∃ L, rdK (ptsB f n) n = some (L, []) ∧ L.length = n ∧ ∀ j, j < n → ptAt L j = f j := by
  obtain ⟨L, h1, h2, h3⟩ := rdK_pts f n [] hf n (Nat.le_refl _)
  rw [Nat.sub_self, List.append_nil] at h1
  exact ⟨L, h1, h2, h3⟩
abbrev zf : Nat → Int := fun _ => 0
/-- The points of a leaf's octets, if they are those of one. -/
def leafR (l : List UInt8) : Option (List Pt) :=
  if 3 ≤ l.length ∧ byteAt l 0 = 1 then
    match rdK (l.drop 3) (byteAt l 2) with
    | some (L, []) => if leafB L.length (ptAt L) (byteAt l 1) zf zf then some L else none
    | _ => none
  else none
def kidsR (l : List UInt8) (q : Nat) : Int := byteAt l (1 + q)
def cntsR (l : List UInt8) (q : Nat) : Int := numOf ((l.drop (5 + 2 * q)).take 2)
/-- Are they those of another node? -/
def otherR (l : List UInt8) : Bool := decide (l.length = 13) && (decide (byteAt l 0 = 0) && otherB 0 0 (kidsR l) (cntsR l))
theorem leafR_some {l : List UInt8} {L : List Pt} (h : leafR l = some L) : 3 ≤ l.length ∧ byteAt l 0 = 1 ∧ rdK (l.drop 3) (byteAt l 2) = some (L, []) ∧ leafB L.length (ptAt L) (byteAt l 1) zf zf = true := by
  unfold leafR at h
  split at h
  · rename_i h0
    split at h
    · rename_i L' hk
      split at h
      · rename_i hb
        cases h
        exact ⟨h0.1, h0.2, hk, hb⟩
      · cases h
    · cases h
  · cases h
theorem leafR_ok {l : List UInt8} {L : List Pt} (h1 : 3 ≤ l.length) (h2 : byteAt l 0 = 1) (h3 : rdK (l.drop 3) (byteAt l 2) = some (L, [])) (h4 : leafB L.length (ptAt L) (byteAt l 1) zf zf = true) : leafR l = some L := by
  unfold leafR
  rw [if_pos ⟨h1, h2⟩, h3]
  simp only [h4, if_true]
theorem leafR_bad {l : List UInt8} (h : ∀ L, 3 ≤ l.length → byteAt l 0 = 1 → rdK (l.drop 3) (byteAt l 2) = some (L, []) → leafB L.length (ptAt L) (byteAt l 1) zf zf = true → False) : leafR l = none := by
  cases hk : leafR l with
  | none => rfl
  | some L => obtain ⟨q1, q2, q3, q4⟩ := leafR_some hk; exact absurd q4 (fun q4 => h L q1 q2 q3 q4)
end Go.Proofs.Ytgnnikjpnmalmaa
