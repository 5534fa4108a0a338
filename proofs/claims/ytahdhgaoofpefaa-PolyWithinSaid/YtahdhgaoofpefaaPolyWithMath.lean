/-
  Layer 34: sides that are crossed, by the program's way and by the law's: as many, but for twos.
-/
import Derived.Test.YtahdhgaoofpefaaPolyLawOn
import Derived.Test.YtahdhgaoofpefaaTrackStr
namespace Go.Proofs.Ytahdhgaoofpefaa
open Go.RowKit
set_option linter.unusedVariables false
set_option linter.unusedSimpArgs false

/-- The program's way: a corner as high as p is above it. -/
def crossP (a b p : P2) : Bool := !(decide (a.y < p.y) == decide (b.y < p.y)) && (decide (0 < tn a b p) == decide (a.y < p.y))
/-- The law's: a corner as high as p is not above it. -/
def crossL (a b p : P2) : Bool := (decide (a.y ≤ p.y) && decide (p.y < b.y) && decide (0 < tn a b p)) || (decide (b.y ≤ p.y) && decide (p.y < a.y) && decide (tn a b p < 0))
def rightOf (v p : P2) : Bool := decide (v.y = p.y) && decide (p.x < v.x)
def oddB (c : Nat → Bool) : Nat → Bool
  | 0 => false
  | n + 1 => (oddB c n).xor (c n)

theorem smul3 (s t : Int) (hs : 0 < s) : (0 < t ∧ 0 < s * t) ∨ (t = 0 ∧ s * t = 0) ∨ (t < 0 ∧ s * t < 0) := by
  rcases Int.lt_trichotomy 0 t with h | h | h
  · exact .inl ⟨h, Int.mul_pos hs h⟩
  · exact .inr (.inl ⟨h.symm, by rw [← h]; simp⟩)
  · exact .inr (.inr ⟨h, Int.mul_neg_of_pos_of_neg hs h⟩)

theorem tn_pos {a b p : P2} : 0 < tn a b p ↔ (b.y - a.y) * (p.x - a.x) < (b.x - a.x) * (p.y - a.y) := by
  unfold tn turnI cmpI
  generalize (b.x - a.x) * (p.y - a.y) = A
  generalize (b.y - a.y) * (p.x - a.x) = B
  split <;> (try split) <;> omega
theorem tn_neg {a b p : P2} : tn a b p < 0 ↔ (b.x - a.x) * (p.y - a.y) < (b.y - a.y) * (p.x - a.x) := by
  unfold tn turnI cmpI
  generalize (b.x - a.x) * (p.y - a.y) = A
  generalize (b.y - a.y) * (p.x - a.x) = B
  split <;> (try split) <;> omega
theorem onB_of {a b p : P2} (h1 : min a.x b.x ≤ p.x) (h2 : p.x ≤ max a.x b.x) (h3 : min a.y b.y ≤ p.y) (h4 : p.y ≤ max a.y b.y) (h : (b.x - a.x) * (p.y - a.y) = (b.y - a.y) * (p.x - a.x)) : onB a b p = true := by
  have e : tn a b p = 0 := by
    have := @tn_pos a b p
    have := @tn_neg a b p
    omega
  unfold onB btw
  rw [e]
  simp
  omega

theorem cross_apart (a b p : P2) (h : onB a b p = false) : (crossP a b p).xor (crossL a b p) = (rightOf a p).xor (rightOf b p) := by
  have hon : min a.x b.x ≤ p.x → p.x ≤ max a.x b.x → min a.y b.y ≤ p.y → p.y ≤ max a.y b.y → (b.x - a.x) * (p.y - a.y) = (b.y - a.y) * (p.x - a.x) → False := fun h1 h2 h3 h4 h5 => absurd (onB_of (a := a) (b := b) (p := p) h1 h2 h3 h4 h5) (by rw [h]; simp)
  clear h
  unfold crossP crossL rightOf
  have tp := @tn_pos a b p
  have tm := @tn_neg a b p
  generalize tn a b p = t at *
  obtain ⟨ax, ay⟩ := a
  obtain ⟨bx, by'⟩ := b
  obtain ⟨px, py⟩ := p
  simp only at *
  have key : ∀ (P L R S : Bool), (P = true ↔ ((ay < py ∧ ¬ by' < py ∧ 0 < t) ∨ (¬ ay < py ∧ by' < py ∧ ¬ 0 < t))) → (L = true ↔ ((ay ≤ py ∧ py < by' ∧ 0 < t) ∨ (by' ≤ py ∧ py < ay ∧ t < 0))) → (R = true ↔ (ay = py ∧ px < ax)) → (S = true ↔ (by' = py ∧ px < bx)) → P.xor L = R.xor S := by
    intro P L R S hP hL hR hS
    have fin : ∀ (x : Bool) (q : Prop), (x = true ↔ q) → ((x = true ∧ q) ∨ (x = false ∧ ¬ q)) := by
      intro x q hx; cases x
      · exact .inr ⟨rfl, fun hq => by simpa using hx.2 hq⟩
      · exact .inl ⟨rfl, hx.1 rfl⟩
    have close : ∀ (p l r s : Prop), (P = true ↔ p) → (L = true ↔ l) → (R = true ↔ r) → (S = true ↔ s) → ((¬ (p ↔ l) ↔ ¬ (r ↔ s))) → P.xor L = R.xor S := by
      intro p l r s h1 h2 h3 h4 hh
      rw [← h1, ← h2, ← h3, ← h4] at hh
      revert hh
      cases P <;> cases L <;> cases R <;> cases S <;> simp
    refine close _ _ _ _ hP hL hR hS ?_
    clear hP hL hR hS close fin
    rcases Int.lt_trichotomy ay py with ha | ha | ha
    · rcases Int.lt_trichotomy by' py with hb | hb | hb
      · omega
      · subst hb
        have e : (bx - ax) * (by' - ay) - (by' - ay) * (px - ax) = (by' - ay) * (bx - px) := by
          rw [Int.mul_comm (bx - ax), ← Int.mul_sub]; congr 1; omega
        rcases smul3 (by' - ay) (bx - px) (by omega) with ⟨g1, g2⟩ | ⟨g1, g2⟩ | ⟨g1, g2⟩ <;> omega
      · omega
    · subst ha
      have hA : (bx - ax) * (ay - ay) = 0 := by rw [Int.sub_self, Int.mul_zero]
      rw [hA] at tp tm hon
      rcases Int.lt_trichotomy by' ay with hb | hb | hb
      · have e : (by' - ay) * (px - ax) = (ay - by') * (ax - px) := by
          rw [← Int.neg_sub ay by', ← Int.neg_sub ax px, Int.neg_mul_neg]
        rw [e] at tp tm hon
        rcases smul3 (ay - by') (ax - px) (by omega) with ⟨g1, g2⟩ | ⟨g1, g2⟩ | ⟨g1, g2⟩
        · omega
        · have := hon (by omega) (by omega) (by omega) (by omega) (by omega)
          exact this.elim
        · omega
      · subst hb
        have hB : (by' - by') * (px - ax) = 0 := by rw [Int.sub_self, Int.zero_mul]
        rw [hB] at tp tm hon
        have := fun h1 h2 => hon h1 h2 (by omega) (by omega) rfl
        by_cases c1 : min ax bx ≤ px
        · by_cases c2 : px ≤ max ax bx
          · exact (this c1 c2).elim
          · omega
        · omega
      · have e : (by' - ay) * (px - ax) = -((by' - ay) * (ax - px)) := by rw [← Int.mul_neg]; congr 1; omega
        rw [e] at tp tm hon
        rcases smul3 (by' - ay) (ax - px) (by omega) with ⟨g1, g2⟩ | ⟨g1, g2⟩ | ⟨g1, g2⟩
        · omega
        · have := hon (by omega) (by omega) (by omega) (by omega) (by omega)
          exact this.elim
        · omega
    · rcases Int.lt_trichotomy by' py with hb | hb | hb
      · have hne : ¬ t = 0 := by
          intro ht
          have hAB : (bx - ax) * (py - ay) = (by' - ay) * (px - ax) := by omega
          -- (bx - ax) * u = (u + v) * (px - ax)
          have e1 : (bx - ax) * (py - ay) = -((ay - py) * (bx - ax)) := by
            rw [Int.mul_comm (ay - py), ← Int.mul_neg]; congr 1; omega
          have e2 : (by' - ay) * (px - ax) = -((ay - py) * (px - ax)) - (py - by') * (px - ax) := by
            rw [← Int.neg_mul, ← Int.sub_mul]; congr 1; omega
          have e3 : (ay - py) * (bx - ax) = (ay - py) * (px - ax) + (ay - py) * (bx - px) := by
            rw [← Int.mul_add]; congr 1; omega
          have hk : (ay - py) * (bx - px) = (py - by') * (px - ax) := by omega
          rcases smul3 (ay - py) (bx - px) (by omega) with ⟨g1, g2⟩ | ⟨g1, g2⟩ | ⟨g1, g2⟩ <;>
            rcases smul3 (py - by') (px - ax) (by omega) with ⟨g3, g4⟩ | ⟨g3, g4⟩ | ⟨g3, g4⟩ <;>
            first
              | omega
              | exact (hon (by omega) (by omega) (by omega) (by omega) hAB).elim
        omega
      · subst hb
        have e : (bx - ax) * (by' - ay) - (by' - ay) * (px - ax) = (by' - ay) * (bx - px) := by
          rw [Int.mul_comm (bx - ax), ← Int.mul_sub]; congr 1; omega
        have e' : (by' - ay) * (bx - px) = -((ay - by') * (bx - px)) := by rw [← Int.neg_mul]; congr 1; omega
        rcases smul3 (ay - by') (bx - px) (by omega) with ⟨g1, g2⟩ | ⟨g1, g2⟩ | ⟨g1, g2⟩ <;> omega
      · omega
  apply key
  · by_cases h1 : ay < py <;> by_cases h2 : by' < py <;> by_cases h3 : 0 < t <;> simp [h1, h2, h3]
  · simp
    constructor
    · rintro (⟨⟨g1, g2⟩, g3⟩ | ⟨⟨g1, g2⟩, g3⟩)
      · exact .inl ⟨g1, g2, g3⟩
      · exact .inr ⟨g1, g2, g3⟩
    · rintro (⟨g1, g2, g3⟩ | ⟨g1, g2, g3⟩)
      · exact .inl ⟨⟨g1, g2⟩, g3⟩
      · exact .inr ⟨⟨g1, g2⟩, g3⟩
  · simp
  · simp

theorem odd_tele (f : Nat → P2) (p : P2) (n : Nat) (h : ∀ i, i < n → onB (f i) (f ((i + 1) % n)) p = false) : ∀ k, k ≤ n →
    (oddB (fun i => crossP (f i) (f ((i + 1) % n)) p) k).xor (oddB (fun i => crossL (f i) (f ((i + 1) % n)) p) k) = (rightOf (f 0) p).xor (rightOf (f (k % n)) p)
  | 0, _ => by simp [oddB]
  | k + 1, hk => by
    have ih := odd_tele f p n h k (by omega)
    have hc := cross_apart _ _ _ (h k (by omega))
    rw [Nat.mod_eq_of_lt (by omega : k < n)] at ih
    simp only [oddB]
    revert ih hc
    generalize oddB (fun i => crossP (f i) (f ((i + 1) % n)) p) k = A
    generalize oddB (fun i => crossL (f i) (f ((i + 1) % n)) p) k = B
    generalize crossP (f k) (f ((k + 1) % n)) p = C
    generalize crossL (f k) (f ((k + 1) % n)) p = D
    generalize rightOf (f 0) p = E
    generalize rightOf (f k) p = F
    generalize rightOf (f ((k + 1) % n)) p = G
    cases A <;> cases B <;> cases C <;> cases D <;> cases E <;> cases F <;> cases G <;> simp

/-- On a side, or an odd number of sides is crossed: whichever way these are told. -/
theorem within_same (f : Nat → Pt) (n : Nat) (q : P2) : (onAny f n q || oddB (fun i => crossP (p2 (f i)) (p2 (f ((i + 1) % n))) q) n) = (onAny f n q || oddB (fun i => crossL (p2 (f i)) (p2 (f ((i + 1) % n))) q) n) := by
  cases h : onAny f n q with
  | true => rfl
  | false =>
    have ht := odd_tele (fun i => p2 (f i)) q n (fun i hi => by
      unfold onAny anyAt at h
      rw [List.any_eq_false] at h
      simpa using h i (List.mem_range.2 hi)) n (Nat.le_refl _)
    rw [Nat.mod_self] at ht
    revert ht
    generalize oddB (fun i => crossP (p2 (f i)) (p2 (f ((i + 1) % n))) q) n = A
    generalize oddB (fun i => crossL (p2 (f i)) (p2 (f ((i + 1) % n))) q) n = B
    generalize rightOf (p2 (f 0)) q = E
    cases A <;> cases B <;> cases E <;> simp
end Go.Proofs.Ytahdhgaoofpefaa
