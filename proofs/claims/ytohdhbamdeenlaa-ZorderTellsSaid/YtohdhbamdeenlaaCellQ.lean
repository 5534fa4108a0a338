/-
  Layer 4: what a cell's quarters come to, plainly.
-/
import Derived.Test.YtohdhbamdeenlaaCellKid
namespace Go.Proofs.Ytohdhbamdeenlaa
open Go.RowKit
set_option linter.unusedVariables false

theorem hasb_iff (cx cy l x y : Int) : hasB cx cy l x y = true ↔ (floorI x (lvl l) = floorI cx (lvl l) ∧ floorI y (lvl l) = floorI cy (lvl l)) := by
  unfold hasB eq3
  simp

theorem floor_eq {x X p : Int} (hp : 1 ≤ p) : (x / p * p = X / p * p) ↔ (X / p * p ≤ x ∧ x ≤ X / p * p + (p - 1)) := by
  have a1 := Int.emod_add_mul_ediv x p
  have a2 := Int.emod_nonneg x (show p ≠ 0 by omega)
  have a3 := Int.emod_lt_of_pos x (show 0 < p by omega)
  rw [Int.mul_comm] at a1
  constructor
  · intro h; omega
  · intro ⟨h1, h2⟩
    have e : x / p = X / p := by
      have l1 : X / p ≤ x / p := Int.le_ediv_of_mul_le (by omega) h1
      have l2 : x / p < X / p + 1 := by
        apply Int.ediv_lt_of_lt_mul (by omega)
        rw [Int.add_mul, Int.one_mul]; omega
      omega
    rw [e]

theorem floor_within {x X L : Int} (h : 0 ≤ L) (h' : L ≤ 32) : floorI x L = floorI X L ↔ (floorI X L ≤ x ∧ x ≤ floorI X L + (pw L - 1)) := by
  unfold floorI; exact floor_eq (pw_bd h h').1

/-- A floor of a floor's quarter. -/
theorem floor_half {cx L b : Int} (h : 0 ≤ L) (h' : L < 32) (hb : 0 ≤ b) (hb' : b ≤ 1) : floorI (floorI cx L + b * pw (L + 1)) L = floorI cx L ∧ floorI (floorI cx L + b * pw (L + 1)) (L + 1) = floorI cx L + b * pw (L + 1) := by
  have e := pw_next h h'
  have p := pw_bd (L := L + 1) (by omega) (by omega)
  have c : b = 0 ∨ b = 1 := by omega
  constructor
  · refine (floor_within h (by omega)).2 ?_
    rcases c with rfl | rfl <;> omega
  · have : ∃ k : Int, floorI cx L + b * pw (L + 1) = k * pw (L + 1) := by
      refine ⟨cx / pw L * 2 + b, ?_⟩
      unfold floorI
      rw [Int.add_mul, e, ← Int.mul_assoc]
    obtain ⟨k, hk⟩ := this
    rw [hk]
    unfold floorI
    rw [Int.mul_ediv_cancel _ (by omega)]

def kx (X L q : Int) : Int := X + q % 2 * pw (L + 1)
def ky (Y L q : Int) : Int := Y + q / 2 % 2 * pw (L + 1)

theorem quarters {cx cy L x y : Int} (h : 0 ≤ L) (h' : L < 32) :
    (hasB (floorI cx L) (floorI cy L) L x y = false ∧ ∀ q, hasB (kx (floorI cx L) L q) (ky (floorI cy L) L q) (L + 1) x y = false) ∨
    (hasB (floorI cx L) (floorI cy L) L x y = true ∧ ∀ q, hasB (kx (floorI cx L) L q) (ky (floorI cy L) L q) (L + 1) x y = (decide (x / pw (L + 1) % 2 = q % 2) && decide (y / pw (L + 1) % 2 = q / 2 % 2))) := by
  have l1 : lvl L = L := by unfold lvl; omega
  have l2 : lvl (L + 1) = L + 1 := by unfold lvl; omega
  have p := pw_bd (L := L + 1) (by omega) (by omega)
  have fx := floor_next (x := x) h h'
  have fy := floor_next (x := y) h h'
  have key : ∀ (x X : Int) (b c : Int), X = floorI X L → (∀ c, 0 ≤ c → c ≤ 1 → floorI (X + c * pw (L + 1)) L = X ∧ floorI (X + c * pw (L + 1)) (L + 1) = X + c * pw (L + 1)) → 0 ≤ c → c ≤ 1 →
      floorI x (L + 1) = floorI (X + c * pw (L + 1)) (L + 1) → floorI x L = X := by
    intro x X b c _ hX c0 c1 e
    rw [(hX c c0 c1).2] at e
    have e2 := floor_floor (x := x) h (show L ≤ L + 1 by omega) (by omega)
    rw [e] at e2
    rw [← e2, (hX c c0 c1).1]
  have hX := fun c (c0 : 0 ≤ c) (c1 : c ≤ 1) => floor_half (cx := cx) h h' c0 c1
  have hY := fun c (c0 : 0 ≤ c) (c1 : c ≤ 1) => floor_half (cx := cy) h h' c0 c1
  have sX : floorI (floorI cx L) L = floorI cx L := floor_self h (by omega)
  have sY : floorI (floorI cy L) L = floorI cy L := floor_self h (by omega)
  generalize floorI cx L = X at *
  generalize floorI cy L = Y at *
  have iff0 : hasB X Y L x y = true ↔ floorI x L = X ∧ floorI y L = Y := by rw [hasb_iff, l1, sX, sY]
  have iffq : ∀ q, hasB (kx X L q) (ky Y L q) (L + 1) x y = true ↔ floorI x (L + 1) = X + q % 2 * pw (L + 1) ∧ floorI y (L + 1) = Y + q / 2 % 2 * pw (L + 1) := by
    intro q
    unfold kx ky
    rw [hasb_iff, l2, (hX (q % 2) (by omega) (by omega)).2, (hY (q / 2 % 2) (by omega) (by omega)).2]
  cases hb : hasB X Y L x y
  · refine .inl ⟨rfl, fun q => ?_⟩
    cases hq : hasB (kx X L q) (ky Y L q) (L + 1) x y
    · rfl
    · exfalso
      have g := (iffq q).1 hq
      have := iff0.2 ⟨key x X 0 (q % 2) sX.symm hX (by omega) (by omega) (by rw [g.1, (hX (q % 2) (by omega) (by omega)).2]), key y Y 0 (q / 2 % 2) sY.symm hY (by omega) (by omega) (by rw [g.2, (hY (q / 2 % 2) (by omega) (by omega)).2])⟩
      rw [hb] at this; cases this
  · refine .inr ⟨rfl, fun q => ?_⟩
    have g0 := iff0.1 hb
    rw [Bool.eq_iff_iff, iffq q, fx, fy, g0.1, g0.2]
    simp only [Bool.and_eq_true, decide_eq_true_eq]
    have cancel : ∀ Z a b : Int, Z + a * pw (L + 1) = Z + b * pw (L + 1) ↔ a = b := by
      intro Z a b
      constructor
      · intro e
        have e2 : a * pw (L + 1) = b * pw (L + 1) := by omega
        exact Int.eq_of_mul_eq_mul_right (by omega) e2
      · rintro rfl; rfl
    rw [cancel, cancel]

theorem floor_top {x L : Int} (hx' : x ≤ 4294967295) (h : 0 ≤ L) (h' : L ≤ 32) : floorI x L + pw L ≤ 4294967296 := by
  obtain ⟨r, hr, e⟩ := pw_mul (Int.le_refl 0) h h'
  have p := pw_bd h h'
  have e0 : pw 0 = 4294967296 := by decide
  have lt : x / pw L < r := by
    apply Int.ediv_lt_of_lt_mul (by omega)
    rw [Int.mul_comm, ← e, e0]; omega
  have m := Int.mul_le_mul_of_nonneg_right (show x / pw L + 1 ≤ r by omega) (show 0 ≤ pw L by omega)
  rw [Int.add_mul, Int.one_mul, Int.mul_comm r, ← e, e0] at m
  exact m

/-- How many of the first n hold. -/
def cnt (f : Int → Bool) : Nat → Int
  | 0 => 0
  | n + 1 => cnt f n + if f (n : Int) = true then 1 else 0

theorem cnt_bd (f : Int → Bool) : ∀ n : Nat, 0 ≤ cnt f n ∧ cnt f n ≤ n
  | 0 => by simp [cnt]
  | n + 1 => by
    have := cnt_bd f n
    unfold cnt
    split <;> omega

theorem cnt_none {f : Int → Bool} (h : ∀ q, f q = false) : ∀ n : Nat, cnt f n = 0
  | 0 => rfl
  | n + 1 => by unfold cnt; rw [cnt_none h n, h]; rfl
theorem cnt_one {f : Int → Bool} {a b : Int} (h : ∀ q, f q = (decide (a % 2 = q % 2) && decide (b % 2 = q / 2 % 2))) : cnt f 4 = 1 := by
  simp only [cnt, h]
  have ca : a % 2 = 0 ∨ a % 2 = 1 := by omega
  have cb : b % 2 = 0 ∨ b % 2 = 1 := by omega
  rcases ca with e | e <;> rcases cb with e' | e' <;> rw [e, e'] <;> decide
end Go.Proofs.Ytohdhbamdeenlaa
