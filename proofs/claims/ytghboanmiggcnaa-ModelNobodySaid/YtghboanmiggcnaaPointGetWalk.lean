/-
  Package point: Get. The walk.
-/
import Derived.Test.YtghboanmiggcnaaPointGet
namespace Go.Proofs.Ytghboanmiggcnaa
open Go.RowKit
set_option linter.unusedVariables false
set_option linter.unusedSimpArgs false

theorem sole_fill {b : Nat} : ∀ (vs : List Value) (o : Nat) (w : World), Sole (fun k => k = b) w (setAll w b o vs)
  | [], _, _ => Sole.refl _ _
  | v :: vs, o, w => (Sole.setCell (S := fun k => k = b) w v rfl).trans (sole_fill vs (o + 1) _)
theorem RS.kept {S : Nat → Prop} {w w' : World} {q : Nat} {l : List UInt8} {bad : Bool} (h : RS w q l bad) (hs : Sole S w w') (hn : ∀ k, k ≤ q → ¬ S k) : RS w' q l bad := ⟨h.1.kept hs hn, h.2⟩

def GetPost (q : Nat) (l : List UInt8) (bad : Bool) (w : World) (e : Ending) (w' : World) : Prop :=
  ∃ P ok l' bad', e = .returned (.tuple #[pval P, .bool ok]) ∧ GetS l bad P ok l' bad' ∧ RS w' q l' bad' ∧ Sole (fun k => k = q) w w'
theorem pointOf_ok (l : List UInt8) (h : (pointOf l).d.size ≤ maxLen) : (pointOf l).ok := by
  have b : ∀ m : List UInt8, numOf (m.take 4) < 256 ^ 4 := fun m => by
    have h1 := numOf_lt (m.take 4)
    have hp : (256 : Nat) ^ (m.take 4).length ≤ 256 ^ 4 := Nat.pow_le_pow_right (by omega) (by rw [List.length_take]; omega)
    omega
  have b1 := b l
  have b2 := b (l.drop 4)
  have b3 := b (l.drop 8)
  exact ⟨by show (-9223372036854775808 : Int) ≤ (numOf (l.take 4) : Int); omega, by show (numOf (l.take 4) : Int) ≤ _; omega, by show (0 : Int) ≤ (numOf ((l.drop 4).take 4) : Int); omega, by show (numOf ((l.drop 4).take 4) : Int) ≤ _; omega, by show (0 : Int) ≤ (numOf ((l.drop 8).take 4) : Int); omega, by show (numOf ((l.drop 8).take 4) : Int) ≤ _; omega, h⟩

end Go.Proofs.Ytghboanmiggcnaa
