/-
  Bit by bit, and octet by octet by the table: one sum.
-/
import Derived.Test.YtpgibngohbohdaaCrcOf
namespace Go.Proofs.Ytpgibngohbohdaa
open Go.RowKit
set_option linter.unusedVariables false
set_option linter.unusedSimpArgs false

theorem xor_swap (a b p : Nat) : (a ^^^ p) ^^^ (b ^^^ p) = a ^^^ b := by
  rw [Nat.xor_assoc, Nat.xor_comm b p, ← Nat.xor_assoc p p b, Nat.xor_self, Nat.zero_xor]
theorem xor_half (x y : Nat) : (x ^^^ y) / 2 = x / 2 ^^^ y / 2 := by
  have := Nat.shiftRight_xor_distrib (a := x) (b := y) (i := 1)
  simpa [Nat.shiftRight_eq_div_pow] using this
theorem xor_par (x y : Nat) : (x ^^^ y) % 2 = (x % 2) ^^^ (y % 2) := by
  have := Nat.xor_mod_two_pow (a := x) (b := y) (n := 1)
  simpa using this
theorem half_xor (x y : Nat) : halfN (x ^^^ y) = halfN x ^^^ halfN y := by
  unfold halfN
  rw [xor_half, xor_par]
  generalize 3988292384 = p
  rcases Nat.mod_two_eq_zero_or_one x with hx | hx <;> rcases Nat.mod_two_eq_zero_or_one y with hy | hy <;> rw [hx, hy]
  · rfl
  · rw [if_pos (by decide), if_neg (by decide), if_pos rfl, Nat.xor_assoc]
  · rw [if_pos (by decide), if_pos rfl, if_neg (by decide), Nat.xor_assoc, Nat.xor_comm (y / 2) p, ← Nat.xor_assoc]
  · rw [if_neg (by decide), if_pos rfl, if_pos rfl, xor_swap]
theorem tab_xor (x y : Nat) : tabN (x ^^^ y) = tabN x ^^^ tabN y := by unfold tabN; simp only [half_xor]
theorem half_even (n : Nat) : halfN (2 * n) = n := by unfold halfN; rw [if_neg (by omega)]; omega
theorem tab_high (h : Nat) : tabN (256 * h) = h := by
  unfold tabN
  rw [show 256 * h = 2 * (2 * (2 * (2 * (2 * (2 * (2 * (2 * h))))))) by omega]
  simp only [half_even]
theorem low_high (s : Nat) : s = s % 256 ^^^ 256 * (s / 256) := by
  have e1 : 256 * (s / 256) = (s >>> 8) <<< 8 := by rw [Nat.shiftLeft_eq, Nat.shiftRight_eq_div_pow]; omega
  rw [e1, show s % 256 = s % 2 ^ 8 from rfl]
  apply Nat.eq_of_testBit_eq
  intro i
  rw [Nat.testBit_xor, Nat.testBit_mod_two_pow, Nat.testBit_shiftLeft, Nat.testBit_shiftRight]
  by_cases h : i < 8
  · have : ¬ 8 ≤ i := by omega
    simp [h, this]
  · have h2 : 8 ≤ i := by omega
    simp [h, h2]
theorem tab_octet (s b : Nat) : tabN (s ^^^ b) = tabN (s % 256 ^^^ b) ^^^ s / 256 := by
  have e : s ^^^ b = (s % 256 ^^^ b) ^^^ 256 * (s / 256) := by
    conv => lhs; rw [low_high s]
    rw [Nat.xor_assoc, Nat.xor_comm _ b, ← Nat.xor_assoc]
  rw [e, tab_xor, tab_high]

/-- A sum goes on, bit by bit. -/
def bitsN (g : Nat → Nat) (s : Nat) : Nat → Nat
  | 0 => s
  | k + 1 => tabN (bitsN g s k ^^^ g k)
theorem bits_along (g : Nat → Nat) (s : Nat) : ∀ k, alongN tabN g s k = bitsN g s k
  | 0 => rfl
  | k + 1 => by
    show tabN ((alongN tabN g s k) % 256 ^^^ g k) ^^^ (alongN tabN g s k) / 256 = tabN (bitsN g s k ^^^ g k)
    rw [bits_along g s k, ← tab_octet]
theorem bits_lt {g : Nat → Nat} {s : Nat} (hs : s < 2 ^ 32) : ∀ k, (∀ i, i < k → g i < 256) → bitsN g s k < 2 ^ 32
  | 0, _ => hs
  | k + 1, hg => tab_lt (Nat.xor_lt_two_pow (bits_lt hs k fun i hi => hg i (by omega)) (by have := hg k (by omega); omega))
theorem bits_more (g h : Nat → Nat) (s n : Nat) (f : Nat → Nat) (hf : ∀ i, f i = if i < n then g i else h (i - n)) : ∀ m, bitsN f s (n + m) = bitsN h (bitsN g s n) m
  | 0 => by
    have : ∀ k, k ≤ n → bitsN f s k = bitsN g s k := by
      intro k
      induction k with
      | zero => intro _; rfl
      | succ k ih =>
        intro hk
        show tabN (bitsN f s k ^^^ f k) = tabN (bitsN g s k ^^^ g k)
        rw [ih (by omega), hf k, if_pos (by omega)]
    exact this n (Nat.le_refl _)
  | m + 1 => by
    show tabN (bitsN f s (n + m) ^^^ f (n + m)) = tabN (bitsN h (bitsN g s n) m ^^^ h m)
    rw [bits_more g h s n f hf m, hf (n + m), if_neg (by omega), show n + m - n = m by omega]
/-- Some bits of an octet. -/
def halves (n : Nat) : Nat → Nat
  | 0 => n
  | k + 1 => halfN (halves n k)
theorem halves8 (n : Nat) : halves n 8 = tabN n := rfl
theorem halves_lt {n : Nat} (h : n < 2 ^ 32) : ∀ k, halves n k < 2 ^ 32
  | 0 => h
  | k + 1 => half_lt (halves_lt h k)
/-- One bit more, as the walk has it. -/
theorem half_ways (n : Nat) (hn : n < 2 ^ 32) : (n % 2 = 1 ∧ bits .xor .u32 ((n : Int) / 2) 3988292384 = (halfN n : Int)) ∨ (n % 2 = 0 ∧ (n : Int) / 2 = (halfN n : Int)) := by
  rcases Nat.mod_two_eq_zero_or_one n with h | h
  · refine .inr ⟨h, ?_⟩
    unfold halfN
    rw [if_neg (by omega)]
    omega
  · refine .inl ⟨h, ?_⟩
    unfold halfN
    rw [if_pos h]
    have := u32_xor_nat (n / 2) 3988292384 (by omega) (by omega)
    rw [show ((3988292384 : Nat) : Int) = 3988292384 from rfl, Int.natCast_ediv] at this
    exact this
end Go.Proofs.Ytpgibngohbohdaa
