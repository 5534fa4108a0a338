/-
  Strings by their octets: which of two is ahead; cmp.Compare of strings.
-/
import Derived.Test.YtfijkbgbhaoilaaCmp
import Derived.Test.YtfijkbgbhaoilaaAid
import Derived.WalkKit
import Derived.Laws.Cover1
namespace Go.Proofs.Ytfijkbgbhaoilaa
open Go.RowKit
set_option linter.unusedVariables false
set_option linter.unusedSimpArgs false

theorem bl_irr : ∀ x : List UInt8, Op.bytesLess x x = false
  | [] => rfl
  | a :: x => by simp [Op.bytesLess, bl_irr x]
theorem bl_tr : ∀ x y z : List UInt8, Op.bytesLess x y = true → Op.bytesLess y z = true → Op.bytesLess x z = true
  | _, [], _, h, _ => by simp [Op.bytesLess] at h
  | _, _ :: _, [], _, h => by simp [Op.bytesLess] at h
  | [], _ :: _, _ :: _, _, _ => rfl
  | a :: x, b :: y, c :: z, h, k => by
    simp only [Op.bytesLess, Bool.or_eq_true, decide_eq_true_eq, Bool.and_eq_true, beq_iff_eq] at h k ⊢
    rcases h with h | ⟨rfl, h⟩ <;> rcases k with k | ⟨rfl, k⟩
    · exact .inl (UInt8.lt_trans h k)
    · exact .inl h
    · exact .inl k
    · exact .inr ⟨rfl, bl_tr x y z h k⟩
theorem bl_tot : ∀ x y : List UInt8, Op.bytesLess x y = false → Op.bytesLess y x = false → x = y
  | [], [], _, _ => rfl
  | [], _ :: _, h, _ => by simp [Op.bytesLess] at h
  | _ :: _, [], _, h => by simp [Op.bytesLess] at h
  | a :: x, b :: y, h, k => by
    simp only [Op.bytesLess, Bool.or_eq_false_iff, decide_eq_false_iff_not, Bool.and_eq_false_iff, beq_eq_false_iff_ne] at h k
    have hab : a = b := by
      have h1 := h.1
      have h2 := k.1
      rw [UInt8.not_lt] at h1 h2
      exact UInt8.le_antisymm h2 h1
    subst hab
    have h1 := h.2.resolve_left (fun e => e rfl)
    have h2 := k.2.resolve_left (fun e => e rfl)
    rw [bl_tot x y h1 h2]
def slB (x y : ByteArray) : Bool := Op.bytesLess x.toList y.toList
def cmpS (x y : ByteArray) : Int := if slB x y = true then -1 else if slB y x = true then 1 else 0
theorem slB_irr (x : ByteArray) : slB x x = false := bl_irr _
theorem slB_tr {x y z : ByteArray} (h : slB x y = true) (k : slB y z = true) : slB x z = true := bl_tr _ _ _ h k
theorem slB_tot {x y : ByteArray} (h : slB x y = false) (k : slB y x = false) : (x.toList == y.toList) = true := by simp [bl_tot _ _ h k]
theorem slB_ne {x y : ByteArray} (h : slB x y = true) : (x.toList == y.toList) = false := by
  rw [beq_eq_false_iff_ne]
  intro e
  unfold slB at h
  rw [e, bl_irr] at h
  cases h

theorem isNaNs_any (x : ByteArray) (w : World) : Calls Try.prog 35 #[.string x] w fun e w' => e = .returned (.bool false) ∧ w' = w := by
  go_enter Try.func35, Try.ntmps35
  go_wp2
  go_ret
  exact ⟨by simp, rfl⟩
theorem cmps_any (x y : ByteArray) (w : World) : Calls Try.prog 29 #[.string x, .string y] w fun e w' => e = .returned (.int .i64 (cmpS x y)) ∧ w' = w := by
  have K := hid (fun x w => isNaNs_any x w)
  have ways : (Op.bytesLess x.toList y.toList = true ∧ cmpS x y = -1) ∨ (Op.bytesLess x.toList y.toList = false ∧ (x.toList == y.toList) = false ∧ cmpS x y = 1) ∨ (Op.bytesLess x.toList y.toList = false ∧ (x.toList == y.toList) = true ∧ cmpS x y = 0) := by
    unfold cmpS
    cases h : slB x y
    · cases h2 : slB y x
      · exact .inr (.inr ⟨h, slB_tot h h2, by simp⟩)
      · refine .inr (.inl ⟨h, ?_, by simp⟩)
        rw [beq_eq_false_iff_ne]
        intro e
        unfold slB at h2
        rw [e, bl_irr] at h2
        cases h2
    · exact .inl ⟨h, by simp⟩
  rcases ways with ⟨h1, e⟩ | ⟨h1, h2, e⟩ | ⟨h1, h2, e⟩
  all_goals
    rw [e]
    clear e
    go_enter Try.func29, Try.ntmps29
    go_wp2_with (go_at_call 35; refine (K.out _ _).mono ?_; rintro e w' ⟨rfl, rfl⟩)
    go_ret
    exact ⟨rfl, rfl⟩
end Go.Proofs.Ytfijkbgbhaoilaa
