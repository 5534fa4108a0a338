/-
  Cells in one row: where they begin, where they end; rows of spans.
-/
import Derived.Test.YtdepmoocjnmbeaaZorderBits
import Derived.Test.YtdepmoocjnmbeaaCell
namespace Go.Proofs.Ytdepmoocjnmbeaa
open Go.RowKit
set_option linter.unusedVariables false
set_option linter.unusedSimpArgs false

theorem tjoin_zeros {X Y k : Nat} (hx : X < 2 ^ 32) (hy : Y < 2 ^ 32) (h1 : ∀ i, i < k → X.testBit i = false) (h2 : ∀ i, i < k → Y.testBit i = false) : joinN X Y % 2 ^ (2 * k) = 0 := by
  apply Nat.eq_of_testBit_eq
  intro p
  rw [Nat.testBit_mod_two_pow, Nat.zero_testBit]
  by_cases hp : p < 2 * k
  · by_cases h : p % 2 = 0
    · obtain ⟨i, rfl⟩ : ∃ i, p = 2 * i := ⟨p / 2, by omega⟩
      rw [join_even hx hy, h1 i (by omega)]; simp
    · obtain ⟨i, rfl⟩ : ∃ i, p = 2 * i + 1 := ⟨p / 2, by omega⟩
      rw [join_odd hx hy, h2 i (by omega)]; simp
  · simp [hp]
/-- How many last bits are free. -/
def kOf (L : Int) : Nat := (32 - L).toNat
/-- The first place of a cell in the row; how many it has. -/
def fstZ (x y L : Int) : Nat := joinN (floorI x L).toNat (floorI y L).toNat
def sizZ (L : Int) : Nat := 2 ^ (2 * kOf L)
theorem sizZ_pos (L : Int) : 0 < sizZ L := Nat.two_pow_pos _
theorem floor_toNat {x L : Int} (hx : 0 ≤ x) : (floorI x L).toNat = x.toNat / 2 ^ kOf L * 2 ^ kOf L := by
  obtain ⟨n, rfl⟩ := Int.eq_ofNat_of_zero_le hx
  unfold floorI pw kOf
  rw [← Int.natCast_ediv, ← Int.natCast_mul, Int.toNat_natCast, Int.toNat_natCast]
theorem fst_mod {x y L : Int} (hx : 0 ≤ x) (hx' : x ≤ 4294967295) (hy : 0 ≤ y) (hy' : y ≤ 4294967295) : fstZ x y L % sizZ L = 0 := by
  unfold fstZ sizZ
  rw [floor_toNat hx, floor_toNat hy]
  have k0 := Nat.two_pow_pos (kOf L)
  have h1 : x.toNat / 2 ^ kOf L * 2 ^ kOf L ≤ x.toNat := Nat.div_mul_le_self _ _
  have h2 : y.toNat / 2 ^ kOf L * 2 ^ kOf L ≤ y.toNat := Nat.div_mul_le_self _ _
  exact tjoin_zeros (by omega) (by omega) (fun i hi => by rw [Nat.mul_comm, Nat.testBit_two_pow_mul]; simp; omega) (fun i hi => by rw [Nat.mul_comm, Nat.testBit_two_pow_mul]; simp; omega)
theorem fst_div {x y L : Int} (hx : 0 ≤ x) (hx' : x ≤ 4294967295) (hy : 0 ≤ y) (hy' : y ≤ 4294967295) : fstZ x y L / sizZ L = joinN (x.toNat / 2 ^ kOf L) (y.toNat / 2 ^ kOf L) := by
  unfold fstZ sizZ
  rw [floor_toNat hx, floor_toNat hy]
  have k0 := Nat.two_pow_pos (kOf L)
  have h1 : x.toNat / 2 ^ kOf L * 2 ^ kOf L ≤ x.toNat := Nat.div_mul_le_self _ _
  have h2 : y.toNat / 2 ^ kOf L * 2 ^ kOf L ≤ y.toNat := Nat.div_mul_le_self _ _
  rw [join_div (by omega) (by omega), Nat.mul_div_cancel _ k0, Nat.mul_div_cancel _ k0]
/-- A place is in a cell just if it stands among its places in the row. -/
theorem has_row {cx cy l x y : Int} (hx : 0 ≤ x) (hx' : x ≤ 4294967295) (hy : 0 ≤ y) (hy' : y ≤ 4294967295) (gx : 0 ≤ cx) (gx' : cx ≤ 4294967295) (gy : 0 ≤ cy) (gy' : cy ≤ 4294967295) :
    hasB cx cy l x y = true ↔ fstZ cx cy (lvl l) ≤ joinN x.toNat y.toNat ∧ joinN x.toNat y.toNat ≤ fstZ cx cy (lvl l) + (sizZ (lvl l) - 1) := by
  have e1 : hasB cx cy l x y = true ↔ (floorI x (lvl l) = floorI cx (lvl l) ∧ floorI y (lvl l) = floorI cy (lvl l)) := by
    unfold hasB eq3
    simp [Bool.and_eq_true]
  have s0 := sizZ_pos (lvl l)
  have m := fst_mod (L := lvl l) gx gx' gy gy'
  have d := fst_div (L := lvl l) gx gx' gy gy'
  have j : joinN x.toNat y.toNat / sizZ (lvl l) = joinN (x.toNat / 2 ^ kOf (lvl l)) (y.toNat / 2 ^ kOf (lvl l)) := join_div (by omega) (by omega) _
  have k0 := Nat.two_pow_pos (kOf (lvl l))
  have fl : ∀ a b : Int, 0 ≤ a → 0 ≤ b → (floorI a (lvl l) = floorI b (lvl l) ↔ a.toNat / 2 ^ kOf (lvl l) = b.toNat / 2 ^ kOf (lvl l)) := by
    intro a b ha hb
    have b0 := lvl_bd l
    have fa : 0 ≤ floorI a (lvl l) := Int.mul_nonneg (Int.ediv_nonneg ha (Int.natCast_nonneg _)) (Int.natCast_nonneg _)
    have fb : 0 ≤ floorI b (lvl l) := Int.mul_nonneg (Int.ediv_nonneg hb (Int.natCast_nonneg _)) (Int.natCast_nonneg _)
    have ta := floor_toNat (L := lvl l) ha
    have tb := floor_toNat (L := lvl l) hb
    constructor
    · intro h
      rw [h, tb] at ta
      exact (Nat.eq_of_mul_eq_mul_right k0 ta).symm
    · intro h
      rw [h] at ta
      omega
  rw [e1, fl x cx hx gx, fl y cy hy gy, ← join_inj (pow_div (by omega) _) (pow_div (by omega) _) (pow_div (by omega) _) (pow_div (by omega) _), ← j, ← d]
  generalize joinN x.toNat y.toNat = Z at *
  generalize fstZ cx cy (lvl l) = A at *
  generalize sizZ (lvl l) = P at *
  have dA := Nat.div_add_mod A P
  have dZ := Nat.div_add_mod Z P
  have lZ := Nat.mod_lt Z s0
  rw [m] at dA
  constructor
  · intro h
    rw [h] at dZ
    omega
  · rintro ⟨g1, g2⟩
    have c1 : A / P ≤ Z / P := Nat.div_le_div_right g1
    have c2 : Z / P ≤ A / P := by
      have h1 : Z < P * (A / P + 1) := by rw [Nat.mul_add, Nat.mul_one]; omega
      have := (Nat.div_lt_iff_lt_mul s0).2 (by rw [Nat.mul_comm]; exact h1 : Z < (A / P + 1) * P)
      omega
    omega
theorem fst_lt (x y L : Int) : fstZ x y L < 2 ^ 64 := join_lt
theorem siz_le {L : Int} (h0 : 0 ≤ L) : sizZ L ≤ 2 ^ 64 := by
  unfold sizZ kOf
  exact Nat.pow_le_pow_right (by omega) (by omega)
theorem fst_top {x y L : Int} (hx : 0 ≤ x) (hx' : x ≤ 4294967295) (hy : 0 ≤ y) (hy' : y ≤ 4294967295) (h0 : 0 ≤ L) : fstZ x y L + (sizZ L - 1) < 2 ^ 64 := by
  have m := fst_mod (L := L) hx hx' hy hy'
  have h := fst_lt x y L
  have s0 := sizZ_pos L
  have hd : sizZ L ∣ 2 ^ 64 := by unfold sizZ kOf; exact Nat.pow_dvd_pow 2 (by omega)
  obtain ⟨c, hc⟩ := hd
  have dA := Nat.div_add_mod (fstZ x y L) (sizZ L)
  rw [m] at dA
  generalize fstZ x y L = A at *
  generalize sizZ L = P at *
  have h1 : A / P < c := (Nat.div_lt_iff_lt_mul s0).2 (by rw [Nat.mul_comm, ← hc]; exact h)
  have h2 : P * (A / P + 1) ≤ P * c := Nat.mul_le_mul_left P h1
  rw [← hc, Nat.mul_add, Nat.mul_one] at h2
  omega
/-- The last one, as it is reckoned. -/
theorem fst_or {x y L : Int} (hx : 0 ≤ x) (hx' : x ≤ 4294967295) (hy : 0 ≤ y) (hy' : y ≤ 4294967295) : fstZ x y L ||| (sizZ L - 1) = fstZ x y L + (sizZ L - 1) := by
  have m := fst_mod (L := L) hx hx' hy hy'
  have s0 := sizZ_pos L
  have dA := Nat.div_add_mod (fstZ x y L) (sizZ L)
  rw [m, Nat.add_zero] at dA
  rw [← dA]
  unfold sizZ at *
  exact (Nat.two_pow_add_eq_or_of_lt (by omega) _).symm

/-- Rows that are put together. -/
def stepS (S : List (Nat × Nat)) (a b : Nat) : List (Nat × Nat) :=
  match S.getLast? with
  | none => [(a, b)]
  | some s => if a ≤ s.2 + 1 then S.dropLast ++ [(s.1, max s.2 b)] else S ++ [(a, b)]
theorem stepS_nil (a b : Nat) : stepS [] a b = [(a, b)] := rfl
theorem stepS_on (S : List (Nat × Nat)) (s : Nat × Nat) (a b : Nat) (h : a ≤ s.2 + 1) : stepS (S ++ [s]) a b = S ++ [(s.1, max s.2 b)] := by simp [stepS, h]
theorem stepS_new (S : List (Nat × Nat)) (s : Nat × Nat) (a b : Nat) (h : ¬ a ≤ s.2 + 1) : stepS (S ++ [s]) a b = S ++ [s] ++ [(a, b)] := by simp [stepS, h]
def spansL (C : List (Nat × Nat)) : List (Nat × Nat) := C.foldl (fun S c => stepS S c.1 c.2) []
def inIv (z : Nat) (s : Nat × Nat) : Prop := s.1 ≤ z ∧ z ≤ s.2
/-- What holds of the spans of some rows. -/
structure SpOk (S D : List (Nat × Nat)) : Prop where
  ord : ∀ s ∈ S, s.1 ≤ s.2
  gap : S.Pairwise (fun s t => s.2 + 2 ≤ t.1)
  mem : ∀ z, (∃ s ∈ S, inIv z s) ↔ ∃ c ∈ D, inIv z c
  top : ∀ s ∈ S, s.2 < 2 ^ 64
theorem SpOk.nil : SpOk [] [] := ⟨by simp, List.Pairwise.nil, by simp, by simp⟩
theorem SpOk.step {S D : List (Nat × Nat)} (H : SpOk S D) (a b : Nat) (hab : a ≤ b) (hb : b < 2 ^ 64) (hs : ∀ s ∈ S, s.1 ≤ a) : SpOk (stepS S a b) (D ++ [(a, b)]) := by
  rcases List.eq_nil_or_concat S with rfl | ⟨S', s, rfl⟩
  · rw [stepS_nil]
    refine ⟨by simp [hab], by simp, fun z => ?_, by simp [hb]⟩
    have h := H.mem z
    simp only [List.not_mem_nil, false_and, exists_false, false_iff] at h
    constructor
    · rintro ⟨c, hc, hi⟩
      exact ⟨c, by simp at hc; simp [hc], hi⟩
    · rintro ⟨c, hc, hi⟩
      rcases List.mem_append.1 hc with hc | hc
      · exact absurd ⟨c, hc, hi⟩ h
      · exact ⟨c, hc, hi⟩
  · rw [List.concat_eq_append] at *
    have h1 := hs s (by simp)
    have h2 := H.ord s (by simp)
    have h3 := H.top s (by simp)
    have hg := List.pairwise_append.1 H.gap
    by_cases h : a ≤ s.2 + 1
    · rw [stepS_on S' s a b h]
      refine ⟨fun t ht => ?_, ?_, fun z => ?_, fun t ht => ?_⟩
      · rcases List.mem_append.1 ht with ht | ht
        · exact H.ord t (by simp [ht])
        · simp at ht; subst ht; simp; omega
      · refine List.pairwise_append.2 ⟨hg.1, by simp, fun t ht u hu => ?_⟩
        simp at hu; subst hu
        exact hg.2.2 t ht s (by simp)
      · have hm := H.mem z
        constructor
        · rintro ⟨t, ht, hi⟩
          rcases List.mem_append.1 ht with ht | ht
          · obtain ⟨c, hc, hi'⟩ := hm.1 ⟨t, by simp [ht], hi⟩
            exact ⟨c, by simp [hc], hi'⟩
          · simp at ht; subst ht
            unfold inIv at hi
            simp only at hi
            by_cases hz : z ≤ s.2
            · obtain ⟨c, hc, hi'⟩ := hm.1 ⟨s, by simp, ⟨hi.1, hz⟩⟩
              exact ⟨c, by simp [hc], hi'⟩
            · exact ⟨(a, b), by simp, by unfold inIv; simp only; omega⟩
        · rintro ⟨c, hc, hi⟩
          rcases List.mem_append.1 hc with hc | hc
          · obtain ⟨t, ht, hi'⟩ := hm.2 ⟨c, hc, hi⟩
            rcases List.mem_append.1 ht with ht | ht
            · exact ⟨t, by simp [ht], hi'⟩
            · simp at ht; subst ht
              exact ⟨(t.1, max t.2 b), by simp, by unfold inIv at *; simp only; omega⟩
          · simp at hc; subst hc
            exact ⟨(s.1, max s.2 b), by simp, by unfold inIv at *; simp only at *; omega⟩
      · rcases List.mem_append.1 ht with ht | ht
        · exact H.top t (by simp [ht])
        · simp at ht; subst ht; simp only; omega
    · rw [stepS_new S' s a b h]
      refine ⟨fun t ht => ?_, ?_, fun z => ?_, fun t ht => ?_⟩
      · rcases List.mem_append.1 ht with ht | ht
        · exact H.ord t ht
        · simp at ht; subst ht; exact hab
      · refine List.pairwise_append.2 ⟨H.gap, by simp, fun t ht u hu => ?_⟩
        simp at hu; subst hu
        rcases List.mem_append.1 ht with ht | ht
        · have := hg.2.2 t ht s (by simp); omega
        · simp at ht; subst ht; omega
      · have hm := H.mem z
        constructor
        · rintro ⟨t, ht, hi⟩
          rcases List.mem_append.1 ht with ht | ht
          · obtain ⟨c, hc, hi'⟩ := hm.1 ⟨t, ht, hi⟩
            exact ⟨c, by simp [hc], hi'⟩
          · exact ⟨t, by simp at ht; simp [ht], hi⟩
        · rintro ⟨c, hc, hi⟩
          rcases List.mem_append.1 hc with hc | hc
          · obtain ⟨t, ht, hi'⟩ := hm.2 ⟨c, hc, hi⟩
            exact ⟨t, List.mem_append_left _ ht, hi'⟩
          · exact ⟨c, by simp at hc; simp [hc], hi⟩
      · rcases List.mem_append.1 ht with ht | ht
        · exact H.top t ht
        · simp at ht; subst ht; exact hb
theorem stepS_fst {S : List (Nat × Nat)} {a b m : Nat} (h : ∀ s ∈ S, s.1 ≤ m) (ha : a ≤ m) : ∀ s ∈ stepS S a b, s.1 ≤ m := by
  rcases List.eq_nil_or_concat S with rfl | ⟨S', s, rfl⟩
  · rw [stepS_nil]; simp [ha]
  · rw [List.concat_eq_append] at *
    by_cases hh : a ≤ s.2 + 1
    · rw [stepS_on S' s a b hh]
      intro t ht
      rcases List.mem_append.1 ht with ht | ht
      · exact h t (by simp [ht])
      · simp at ht; subst ht; exact h s (by simp)
    · rw [stepS_new S' s a b hh]
      intro t ht
      rcases List.mem_append.1 ht with ht | ht
      · exact h t ht
      · simp at ht; subst ht; exact ha
theorem spans_ok : ∀ (C S D : List (Nat × Nat)), SpOk S D → (∀ c ∈ C, c.1 ≤ c.2 ∧ c.2 < 2 ^ 64) → C.Pairwise (fun c d => c.1 ≤ d.1) → (∀ s ∈ S, ∀ c ∈ C, s.1 ≤ c.1) → SpOk (C.foldl (fun S c => stepS S c.1 c.2) S) (D ++ C)
  | [], S, D, H, _, _, _ => by simpa using H
  | c :: C, S, D, H, hc, hp, hs => by
    rw [List.pairwise_cons] at hp
    have h1 := hc c (by simp)
    have := spans_ok C (stepS S c.1 c.2) (D ++ [(c.1, c.2)]) (H.step c.1 c.2 h1.1 h1.2 fun s hs' => hs s hs' c (by simp)) (fun d hd => hc d (by simp [hd])) hp.2 (fun s hs' d hd => stepS_fst (m := d.1) (fun t ht => hs t ht d (by simp [hd])) (hp.1 d hd) s hs')
    simpa using this
theorem stepS_len (S : List (Nat × Nat)) (a b : Nat) : (stepS S a b).length ≤ S.length + 1 := by
  rcases List.eq_nil_or_concat S with rfl | ⟨S', s, rfl⟩
  · simp [stepS_nil]
  · rw [List.concat_eq_append]
    by_cases h : a ≤ s.2 + 1
    · rw [stepS_on S' s a b h]; simp
    · rw [stepS_new S' s a b h]; simp
end Go.Proofs.Ytdepmoocjnmbeaa
