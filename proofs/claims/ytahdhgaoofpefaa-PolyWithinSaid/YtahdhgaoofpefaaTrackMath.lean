/-
  Layer 46: what is kept of a way: the steps, as lists.
-/
import Derived.Test.YtahdhgaoofpefaaPolyOn
import Derived.Test.YtahdhgaoofpefaaPtRow
import Derived.Test.YtahdhgaoofpefaaWide
namespace Go.Proofs.Ytahdhgaoofpefaa
open Go.RowKit
set_option linter.unusedVariables false
set_option linter.unusedSimpArgs false

def dHi (p q : Pt) : Int := hiS 0 (sqI (apartI p.x q.x)) 0 (sqI (apartI p.y q.y))
def dLo (p q : Pt) : Int := loS (sqI (apartI p.x q.x)) (sqI (apartI p.y q.y))
/-- No farther than that? -/
def nearB (h l : Int) (p q : Pt) : Bool := decide (cmpD (dHi p q) (dLo p q) h l ≤ 0)
def samB (p q : Pt) : Bool := (p.x == q.x) && (p.y == q.y)
def p2 (p : Pt) : P2 := ⟨p.x, p.y⟩
theorem p2_ok {p : Pt} (h : p.ok) : (p2 p).ok := by unfold Pt.ok at h; unfold P2.ok p2; simp; omega
def lastP (K : List Pt) : Pt := ptAt K (K.length - 1)
def lastP2 (K : List Pt) : Pt := ptAt K (K.length - 2)
def thinStep (h l : Int) (K : List Pt) (p : Pt) : List Pt := if decide (0 < K.length) && nearB h l (lastP K) p then K else K ++ [p]
def onB2 (a b p : P2) : Bool := onB a b p || onB b a p
def strStep (K : List Pt) (p : Pt) : List Pt :=
  if decide (0 < K.length) && samB (lastP K) p then K
  else if decide (1 < K.length) && onB2 (p2 (lastP2 K)) (p2 p) (p2 (lastP K)) then K.dropLast ++ [p] else K ++ [p]
def keepL (G : List Pt → Pt → List Pt) (f : Nat → Pt) : Nat → List Pt
  | 0 => []
  | i + 1 => G (keepL G f i) (f i)

theorem lastP_snoc (K : List Pt) (p : Pt) : lastP (K ++ [p]) = p := by simp [lastP, ptAt]
theorem keep_mem {G : List Pt → Pt → List Pt} (hG : ∀ K p q, q ∈ G K p → q ∈ K ∨ q = p) (f : Nat → Pt) : ∀ i q, q ∈ keepL G f i → ∃ j, j < i ∧ q = f j
  | 0, q, h => by cases h
  | i + 1, q, h => by
    rcases hG _ _ _ h with h | h
    · obtain ⟨j, hj, e⟩ := keep_mem hG f i q h
      exact ⟨j, by omega, e⟩
    · exact ⟨i, by omega, h⟩
theorem thin_mem (h l : Int) (K : List Pt) (p q : Pt) (hq : q ∈ thinStep h l K p) : q ∈ K ∨ q = p := by
  unfold thinStep at hq
  split at hq
  · exact .inl hq
  · simpa using hq
theorem str_mem (K : List Pt) (p q : Pt) (hq : q ∈ strStep K p) : q ∈ K ∨ q = p := by
  unfold strStep at hq
  split at hq
  · exact .inl hq
  · split at hq
    · rcases List.mem_append.1 hq with h | h
      · exact .inl ((List.dropLast_sublist _).subset h)
      · exact .inr (by simpa using h)
    · simpa using hq
theorem keep_len {G : List Pt → Pt → List Pt} (hG : ∀ K p, (G K p).length ≤ K.length + 1) (f : Nat → Pt) : ∀ i, (keepL G f i).length ≤ i
  | 0 => Nat.le_refl _
  | i + 1 => by have h1 := hG (keepL G f i) (f i); have h2 := keep_len hG f i; show (G (keepL G f i) (f i)).length ≤ i + 1; omega
theorem thin_len (h l : Int) (K : List Pt) (p : Pt) : (thinStep h l K p).length ≤ K.length + 1 := by
  unfold thinStep; split <;> simp
theorem str_len (K : List Pt) (p : Pt) : (strStep K p).length ≤ K.length + 1 := by
  unfold strStep
  split
  · omega
  · split <;> simp <;> omega

/-- Nothing apart: just at the same place. -/
theorem near_zero (p q : Pt) (hp : p.ok) (hq : q.ok) : nearB 0 0 p q = samB p q := by
  unfold Pt.ok at hp hq
  have b1 := apartI_bd p.x q.x (by omega) (by omega) (by omega) (by omega)
  have b2 := apartI_bd p.y q.y (by omega) (by omega) (by omega) (by omega)
  have s1 := sq_bd _ b1.1 b1.2
  have s2 := sq_bd _ b2.1 b2.2
  have z1 : sqI (apartI p.x q.x) = 0 ↔ p.x = q.x := by
    unfold sqI
    constructor
    · intro h
      have := Int.mul_eq_zero.1 h
      unfold apartI at this; omega
    · intro h; unfold apartI; rw [h]; simp
  have z2 : sqI (apartI p.y q.y) = 0 ↔ p.y = q.y := by
    unfold sqI
    constructor
    · intro h
      have := Int.mul_eq_zero.1 h
      unfold apartI at this; omega
    · intro h; unfold apartI; rw [h]; simp
  have key : (cmpD (dHi p q) (dLo p q) 0 0 ≤ 0) ↔ (p.x = q.x ∧ p.y = q.y) := by
    rw [← z1, ← z2]
    unfold dHi dLo hiS loS caS cmpD orI cmpI
    generalize sqI (apartI p.x q.x) = s at *
    generalize sqI (apartI p.y q.y) = t at *
    constructor
    · intro h
      split at h <;> split at h <;> (try split at h) <;> (try split at h) <;> (try split at h) <;> omega
    · rintro ⟨rfl, rfl⟩; simp
  unfold nearB samB
  by_cases h : p.x = q.x ∧ p.y = q.y
  · rw [decide_eq_true (key.2 h)]; simp [h]
  · rw [decide_eq_false (fun hh => h (key.1 hh))]
    by_cases h1 : p.x = q.x
    · simp [h1]; exact fun h2 => h ⟨h1, h2⟩
    · simp [h1]

/-- Whatever was kept last stands where the last one stood. -/
theorem samB_iff {p q : Pt} : samB p q = true ↔ p.x = q.x ∧ p.y = q.y := by simp [samB]
theorem str_step (K : List Pt) (p : Pt) : 0 < (strStep K p).length ∧ samB (lastP (strStep K p)) p = true := by
  unfold strStep
  split
  · rename_i h
    simp only [Bool.and_eq_true, decide_eq_true_eq] at h
    exact h
  · split
    · rw [lastP_snoc]; simp [samB]
    · rw [lastP_snoc]; simp [samB]
theorem str_last (f : Nat → Pt) : ∀ i, 0 < i → 0 < (keepL strStep f i).length ∧ samB (lastP (keepL strStep f i)) (f (i - 1)) = true
  | i + 1, _ => str_step (keepL strStep f i) (f i)
theorem thin_step0 (K : List Pt) (p : Pt) (hK : ∀ q ∈ K, q.ok) (hp : p.ok) : 0 < (thinStep 0 0 K p).length ∧ samB (lastP (thinStep 0 0 K p)) p = true := by
  unfold thinStep
  split
  · rename_i h
    simp only [Bool.and_eq_true, decide_eq_true_eq] at h
    have hm : lastP K ∈ K := ptAt_mem _ _ (by omega)
    rw [near_zero _ _ (hK _ hm) hp] at h
    exact h
  · rw [lastP_snoc]; simp [samB]
theorem thin0_ok (f : Nat → Pt) (hf : ∀ i, (f i).ok) (i : Nat) : ∀ q ∈ keepL (thinStep 0 0) f i, q.ok := fun q hq => by
  obtain ⟨j, _, e⟩ := keep_mem (thin_mem 0 0) f i q hq
  rw [e]; exact hf j
theorem thin0_last (f : Nat → Pt) (hf : ∀ i, (f i).ok) : ∀ i, 0 < i → 0 < (keepL (thinStep 0 0) f i).length ∧ samB (lastP (keepL (thinStep 0 0) f i)) (f (i - 1)) = true
  | i + 1, _ => thin_step0 (keepL (thinStep 0 0) f i) (f i) (thin0_ok f hf i) (hf i)

/-- Those at the place of the one ahead left out. -/
def zeroStep (f : Nat → Pt) (i : Nat) (K : List Pt) : List Pt := if i = 0 ∨ samB (f i) (f (i - 1)) = false then K ++ [f i] else K
def zeroL (f : Nat → Pt) : Nat → List Pt
  | 0 => []
  | i + 1 => zeroStep f i (zeroL f i)
theorem samB_trans {p q r : Pt} (h : samB p q = true) : samB p r = samB q r := by
  rw [samB_iff] at h
  unfold samB; rw [h.1, h.2]
theorem samB_comm (p q : Pt) : samB p q = samB q p := by
  unfold samB
  congr 1 <;> (rw [Bool.eq_iff_iff]; simp; exact ⟨Eq.symm, Eq.symm⟩)
theorem zero_thin (f : Nat → Pt) (hf : ∀ i, (f i).ok) : ∀ i, keepL (thinStep 0 0) f i = zeroL f i
  | 0 => rfl
  | i + 1 => by
    have ih := zero_thin f hf i
    show thinStep 0 0 (keepL (thinStep 0 0) f i) (f i) = zeroStep f i (zeroL f i)
    rw [← ih]
    by_cases h0 : i = 0
    · subst h0; rfl
    · obtain ⟨h1, h3⟩ := thin0_last f hf i (by omega)
      have hok := thin0_ok f hf i
      generalize keepL (thinStep 0 0) f i = K at *
      have hm : lastP K ∈ K := ptAt_mem _ _ (by omega)
      unfold thinStep zeroStep
      rw [near_zero _ _ (hok _ hm) (hf i), samB_trans h3, samB_comm]
      cases samB (f i) (f (i - 1)) <;> simp [h0, h1]
theorem str_short (f : Nat → Pt) : ∀ i, (keepL strStep f i).length ≤ (zeroL f i).length
  | 0 => Nat.le_refl _
  | i + 1 => by
    have ih := str_short f i
    show (strStep (keepL strStep f i) (f i)).length ≤ (zeroStep f i (zeroL f i)).length
    unfold zeroStep
    by_cases h0 : i = 0
    · subst h0
      rw [if_pos (.inl rfl)]
      have := str_len (keepL strStep f 0) (f 0)
      simp only [List.length_append, List.length_singleton]; omega
    · obtain ⟨h1, h3⟩ := str_last f i (by omega)
      generalize keepL strStep f i = K at *
      cases hs : samB (f i) (f (i - 1)) with
      | false =>
        rw [if_pos (.inr rfl)]
        have := str_len K (f i)
        simp only [List.length_append, List.length_singleton]; omega
      | true =>
        rw [if_neg (by simp [h0])]
        unfold strStep
        rw [samB_trans h3, samB_comm, hs, decide_eq_true h1]
        simpa using ih

/-- The law's word for 'on the side'. -/
def wit (p a b : P2) : Bool := (decide (min a.x b.x ≤ p.x) && decide (p.x ≤ max a.x b.x)) && (decide (min a.y b.y ≤ p.y) && decide (p.y ≤ max a.y b.y))
theorem tn_zero (a b p : P2) : (tn a b p == 0) = decide ((b.x - a.x) * (p.y - a.y) = (b.y - a.y) * (p.x - a.x)) := by
  unfold tn turnI cmpI
  generalize (b.x - a.x) * (p.y - a.y) = s
  generalize (b.y - a.y) * (p.x - a.x) = t
  by_cases h1 : s < t
  · simp [h1]; omega
  · by_cases h2 : t < s
    · simp [h1, h2]; omega
    · have : s = t := by omega
      simp [this]
theorem on_law (a b p : P2) : onB2 a b p = ((tn a p b == 0) && wit p a b) := by
  have e1 : (tn a b p == 0) = (tn a p b == 0) := by
    rw [tn_zero, tn_zero]
    rw [show (p.x - a.x) * (b.y - a.y) = (b.y - a.y) * (p.x - a.x) from Int.mul_comm _ _, show (p.y - a.y) * (b.x - a.x) = (b.x - a.x) * (p.y - a.y) from Int.mul_comm _ _]
    exact decide_eq_decide.2 ⟨Eq.symm, Eq.symm⟩
  have e2 : (tn b a p == 0) = (tn a b p == 0) := by
    rw [tn_zero, tn_zero]
    refine decide_eq_decide.2 ?_
    obtain ⟨ax, ay⟩ := a
    obtain ⟨bx, by'⟩ := b
    obtain ⟨px, py⟩ := p
    simp only
    constructor <;> intro h <;> grind
  have w1 : ((p.x == btw p.x a.x b.x) && (p.y == btw p.y a.y b.y)) = wit p a b := by
    unfold btw wit
    have t : ∀ n s t : Int, (n == min (max n (min s t)) (max s t)) = (decide (min s t ≤ n) && decide (n ≤ max s t)) := by
      intro n s t
      rw [Bool.eq_iff_iff]
      simp only [beq_iff_eq, Bool.and_eq_true, decide_eq_true_eq]
      omega
    rw [t, t]
  have w2 : ((p.x == btw p.x b.x a.x) && (p.y == btw p.y b.y a.y)) = wit p a b := by
    rw [← w1]
    unfold btw
    rw [Int.min_comm b.x a.x, Int.max_comm b.x a.x, Int.min_comm b.y a.y, Int.max_comm b.y a.y]
  unfold onB2 onB
  rw [w1, w2, e2, e1]
  cases wit p a b <;> cases (tn a p b == 0) <;> rfl
end Go.Proofs.Ytahdhgaoofpefaa
