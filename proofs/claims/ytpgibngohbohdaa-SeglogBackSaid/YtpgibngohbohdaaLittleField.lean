/-
  Layer 1's fields: as they come in; of which kind one is.
-/
import Derived.Test.YtpgibngohbohdaaLittleInNum
import Derived.Test.YtpgibngohbohdaaLittlePads
import Derived.Test.YtpgibngohbohdaaRefNum
import Derived.Test.YtpgibngohbohdaaSlices
namespace Go.Proofs.Ytpgibngohbohdaa
open Go.ChangeShapes Go.WideShapes Go.ChangeAt Go.RowKit Go.Joins Go.Deep
set_option linter.unusedVariables false
set_option linter.unusedSimpArgs false

structure Fd where
  k : Int
  n : Int
  z : Int
  s : ByteArray
def Fd.ok (p : Fd) : Prop := -9223372036854775808 ≤ p.k ∧ p.k ≤ 9223372036854775807 ∧ -9223372036854775808 ≤ p.n ∧ p.n ≤ 9223372036854775807 ∧ -9223372036854775808 ≤ p.z ∧ p.z ≤ 9223372036854775807 ∧ p.s.size ≤ maxLen
def fcells (p : Fd) : List Value := [.int .i64 p.k, .int .i64 p.n, .int .i64 p.z, .string p.s]

/-- Of which kind. -/
def kindI (k : Int) : Int := (k.tmod 3 + 3) % 3
theorem kind_bd (k : Int) : 0 ≤ kindI k ∧ kindI k ≤ 2 := by unfold kindI; omega
/-- What is read: of what is left, or of nothing. -/
def RS (w : World) (p : Nat) (l : List UInt8) (bad : Bool) : Prop := InS w p l (if bad then 16 else 0) ∧ (bad = true → l = [])
theorem RS.more {w w' : World} {p : Nat} {l : List UInt8} {bad : Bool} (h : RS w p l bad) (hb : Below w.heap.size w w') : RS w' p l bad := ⟨h.1.more hb, h.2⟩
theorem rs_num (size : Int) (n : Nat) (hn : min (max size 1) 6 = n) (p : Nat) (l : List UInt8) (bad bad' : Bool) (hb : bad' = (bad || decide (l.length < n))) (w : World) (R : RS w p l bad) :
    Calls Try.prog 109 #[at' p, .int .i64 size] w fun e w' => e = .returned (.int .i64 (numOf (if bad' then [] else l.take n))) ∧ RS w' p (if bad' then [] else l.drop n) bad' ∧ Sole (fun k => k = p) w w' := by
  obtain ⟨I, hl⟩ := R
  cases bad with
  | true =>
    obtain rfl : bad' = true := by rw [hb]; rfl
    obtain rfl := hl rfl
    refine (inNum_err size p [] 16 w I rfl).mono ?_
    rintro e w' ⟨he, rfl⟩
    exact ⟨he, ⟨I, fun _ => rfl⟩, Sole.refl _ _⟩
  | false =>
    by_cases h : l.length < n
    · obtain rfl : bad' = true := by rw [hb, decide_eq_true h]; rfl
      exact (inNum_short size p l w I (by omega)).mono fun e w' ⟨he, I', S⟩ => ⟨he, ⟨I', fun _ => rfl⟩, S⟩
    · obtain rfl : bad' = false := by rw [hb, decide_eq_false h]; rfl
      exact (inNum_ok size n hn p l w I (by omega)).mono fun e w' ⟨he, I', S⟩ => ⟨he, ⟨I', fun h => by cases h⟩, S⟩
theorem rs_text (size : Int) (n : Nat) (hn : max size 0 = n) (p : Nat) (l : List UInt8) (bad bad' : Bool) (hb : bad' = (bad || decide (l.length < n))) (w : World) (R : RS w p l bad) :
    Calls Try.prog 108 #[at' p, .int .i64 size] w fun e w' => e = .returned (.string (textOf (if bad' then [] else l.take n))) ∧ RS w' p (if bad' then [] else l.drop n) bad' ∧ Sole (fun k => k = p) w w' := by
  obtain ⟨I, hl⟩ := R
  cases bad with
  | true =>
    obtain rfl : bad' = true := by rw [hb]; rfl
    obtain rfl := hl rfl
    refine (inText_err size p [] 16 w I rfl).mono ?_
    rintro e w' ⟨he, rfl⟩
    exact ⟨he, ⟨I, fun _ => rfl⟩, Sole.refl _ _⟩
  | false =>
    by_cases h : l.length < n
    · obtain rfl : bad' = true := by rw [hb, decide_eq_true h]; rfl
      exact (inText_short size p l w I (by omega)).mono fun e w' ⟨he, I', S⟩ => ⟨he, ⟨I', fun _ => rfl⟩, S⟩
    · obtain rfl : bad' = false := by rw [hb, decide_eq_false h]; rfl
      have e : size.toNat = n := by omega
      refine (inText_ok size p l w I (by omega)).mono fun e' w' ⟨he, I', S⟩ => ?_
      rw [e] at he I'
      exact ⟨he, ⟨I', fun h => by cases h⟩, S⟩
end Go.Proofs.Ytpgibngohbohdaa
