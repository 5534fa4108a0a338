/-
  Package point: Check, and a point of any octets.
-/
import Derived.Test.YtghboanmiggcnaaPointPut
import Derived.Test.YtghboanmiggcnaaOct
namespace Go.Proofs.Ytghboanmiggcnaa
open Go.RowKit
set_option linter.unusedVariables false
set_option linter.unusedSimpArgs false

/-- Why a point can't be. -/
def checkC (P : Pt) : Int := if P.id < 1 ∨ 2147483647 < P.id then 4 else if 16 < P.d.size then 5 else 0
theorem check_may (P : Pt) : checkC P = 0 ↔ P.may := by
  unfold checkC Pt.may
  by_cases h1 : P.id < 1 ∨ 2147483647 < P.id
  · rw [if_pos h1]; constructor
    · intro h; cases h
    · intro h; omega
  · rw [if_neg h1]
    by_cases h2 : 16 < P.d.size
    · rw [if_pos h2]; constructor
      · intro h; cases h
      · intro h; omega
    · rw [if_neg h2]; constructor
      · intro _; omega
      · intro _; rfl
set_option maxRecDepth 100000 in
theorem check_any (P : Pt) (hP : P.ok) (w : World) : Calls Try.prog 36 #[pval P] w fun e w' => e = .returned (.int .i64 (checkC P)) ∧ Below w.heap.size w w' := by
  obtain ⟨i1, i2, _, _, _, _, d1⟩ := hP
  unfold maxLen at d1
  have sz : (P.d.size : Int) ≤ 9223372036854775807 := by omega
  have ways : (∃ h : Hid (checkC P = 4), P.id < 1) ∨ (∃ h : Hid (checkC P = 4), decide (P.id < 1) = false ∧ 2147483647 < P.id) ∨
      (∃ h : Hid (checkC P = 5), decide (P.id < 1) = false ∧ decide (2147483647 < P.id) = false ∧ decide (16 < (P.d.size : Int)) = true) ∨
      (∃ h : Hid (checkC P = 0), decide (P.id < 1) = false ∧ decide (2147483647 < P.id) = false ∧ decide (16 < (P.d.size : Int)) = false) := by
    by_cases h1 : P.id < 1
    · exact .inl ⟨hid (by unfold checkC; rw [if_pos (.inl h1)]), h1⟩
    · by_cases h2 : 2147483647 < P.id
      · exact .inr (.inl ⟨hid (by unfold checkC; rw [if_pos (.inr h2)]), decide_eq_false h1, h2⟩)
      · by_cases h3 : 16 < P.d.size
        · exact .inr (.inr (.inl ⟨hid (by unfold checkC; rw [if_neg (by omega), if_pos h3]), decide_eq_false h1, decide_eq_false h2, decide_eq_true (by omega)⟩))
        · exact .inr (.inr (.inr ⟨hid (by unfold checkC; rw [if_neg (by omega), if_neg h3]), decide_eq_false h1, decide_eq_false h2, decide_eq_false (by omega)⟩))
  generalize checkC P = c at *
  clear d1
  rcases ways with ⟨hc, g1⟩ | ⟨hc, g1, g2⟩ | ⟨hc, g1, g2, g3⟩ | ⟨hc, g1, g2, g3⟩
  all_goals
    go_enter Try.func36, Try.ntmps36
    go_wp2
    go_ret
    exact ⟨by rw [hc.out]; rfl, (Below.refl _ _).alloc (Nat.le_refl _) _⟩

/-- The point of octets. -/
def pointOf (l : List UInt8) : Pt := ⟨numOf (l.take 4), numOf ((l.drop 4).take 4), numOf ((l.drop 8).take 4), textOf ((l.drop 13).take (numOf ((l.drop 12).take 1)))⟩
abbrev pt0 : Pt := ⟨0, 0, 0, ByteArray.empty⟩
/-- How long the octets' Data is. -/
def lenAt (l : List UInt8) : Nat := numOf ((l.drop 12).take 1)
/-- What is read of l as a point. -/
def GetS (l : List UInt8) (bad : Bool) (P : Pt) (ok : Bool) (l' : List UInt8) (bad' : Bool) : Prop :=
  (bad = false ∧ 13 + lenAt l ≤ l.length ∧ bad' = false ∧ l' = l.drop (13 + lenAt l) ∧ (((pointOf l).may ∧ P = pointOf l ∧ ok = true) ∨ (¬ (pointOf l).may ∧ P = pt0 ∧ ok = false))) ∨
    ((bad = true ∨ l.length < 13 + lenAt l) ∧ P = pt0 ∧ ok = false ∧ bad' = true ∧ l' = [])

/-- The four numbers, and the text. -/
theorem get_states (l : List UInt8) (bad : Bool) : ∃ (b1 b2 b3 b4 b5 : Bool) (l1 l2 l3 l4 l5 : List UInt8) (v1 v2 v3 v4 : Nat) (s : List UInt8),
    (b1 = (bad || decide (l.length < 4)) ∧ l1 = (if b1 then [] else l.drop 4) ∧ v1 = numOf (if b1 then [] else l.take 4)) ∧
    (b2 = (b1 || decide (l1.length < 4)) ∧ l2 = (if b2 then [] else l1.drop 4) ∧ v2 = numOf (if b2 then [] else l1.take 4)) ∧
    (b3 = (b2 || decide (l2.length < 4)) ∧ l3 = (if b3 then [] else l2.drop 4) ∧ v3 = numOf (if b3 then [] else l2.take 4)) ∧
    (b4 = (b3 || decide (l3.length < 1)) ∧ l4 = (if b4 then [] else l3.drop 1) ∧ v4 = numOf (if b4 then [] else l3.take 1)) ∧
    (b5 = (b4 || decide (l4.length < v4)) ∧ l5 = (if b5 then [] else l4.drop v4) ∧ s = (if b5 then [] else l4.take v4)) ∧
    (v1 < 256 ^ 4 ∧ v2 < 256 ^ 4 ∧ v3 < 256 ^ 4 ∧ v4 < 256 ^ 1) ∧
    ((b5 = true ∧ (bad = true ∨ l.length < 13 + lenAt l)) ∨
      (b5 = false ∧ bad = false ∧ 13 + lenAt l ≤ l.length ∧ l5 = l.drop (13 + lenAt l) ∧ pointOf l = ⟨v1, v2, v3, textOf s⟩)) := by
  refine ⟨_, _, _, _, _, _, _, _, _, _, _, _, _, _, _, ⟨rfl, rfl, rfl⟩, ⟨rfl, rfl, rfl⟩, ⟨rfl, rfl, rfl⟩, ⟨rfl, rfl, rfl⟩, ⟨rfl, rfl, rfl⟩, ?_, ?_⟩
  · have bd : ∀ (b : Bool) (m : List UInt8) (k : Nat), numOf (if b then [] else m.take k) < 256 ^ k := by
      intro b m k
      cases b with
      | true => exact Nat.pos_of_ne_zero (by simp [numOf])
      | false =>
        have := numOf_lt (m.take k)
        have hp : (256 : Nat) ^ (m.take k).length ≤ 256 ^ k := Nat.pow_le_pow_right (by omega) (by rw [List.length_take]; omega)
        simp only [Bool.false_eq_true, if_false]
        omega
    exact ⟨bd _ _ _, bd _ _ _, bd _ _ _, bd _ _ _⟩
  · cases bad with
    | true => exact .inl ⟨by simp, .inl rfl⟩
    | false =>
      by_cases h1 : l.length < 4
      · exact .inl ⟨by simp [h1], .inr (by omega)⟩
      · by_cases h2 : l.length < 8
        · have : l.length - 4 < 4 := by omega
          exact .inl ⟨by simp [h1, this], .inr (by omega)⟩
        · by_cases h3 : l.length < 12
          · have a1 : ¬ l.length - 4 < 4 := by omega
            have a2 : l.length - 8 < 4 := by omega
            exact .inl ⟨by simp [h1, a1, a2], .inr (by omega)⟩
          · by_cases h4 : l.length < 13
            · have a1 : ¬ l.length - 4 < 4 := by omega
              have a2 : ¬ l.length - 8 < 4 := by omega
              have a3 : l.length - 12 < 1 := by omega
              exact .inl ⟨by simp [h1, a1, a2, a3], .inr (by omega)⟩
            · have a1 : ¬ l.length - 4 < 4 := by omega
              have a2 : ¬ l.length - 8 < 4 := by omega
              have a3 : ¬ l.length - 12 < 1 := by omega
              by_cases h5 : l.length < 13 + lenAt l
              · refine .inl ⟨?_, .inr h5⟩
                have a4 : l.length - 13 < numOf ((l.drop 12).take 1) := by have : lenAt l = numOf ((l.drop 12).take 1) := rfl; omega
                simp [h1, a1, a2, a3, a4]
              · have a4 : ¬ l.length - 13 < numOf ((l.drop 12).take 1) := by have : lenAt l = numOf ((l.drop 12).take 1) := rfl; omega
                refine .inr ⟨by simp [h1, a1, a2, a3, a4], rfl, by omega, ?_, ?_⟩
                · simp [h1, a1, a2, a3, a4, lenAt]
                · simp [h1, a1, a2, a3, a4, pointOf]
end Go.Proofs.Ytghboanmiggcnaa
