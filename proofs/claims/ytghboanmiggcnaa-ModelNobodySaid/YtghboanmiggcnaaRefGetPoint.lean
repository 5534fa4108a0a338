/-
  The document's own points as octets: a point of octets.
-/
import Derived.Test.YtghboanmiggcnaaRefPoint
import Derived.Test.YtghboanmiggcnaaRegionAlloc
namespace Go.Proofs.Ytghboanmiggcnaa
open Go.RowKit
set_option linter.unusedVariables false
set_option linter.unusedSimpArgs false

instance (P : Pt) : Decidable P.may := by unfold Pt.may; infer_instance
set_option maxRecDepth 100000 in
theorem may_any (P : Pt) (hP : P.ok) (w : World) : Calls Try.prog 30 #[pval P] w fun e w' => e = .returned (.bool (decide P.may)) ∧ Below w.heap.size w w' := by
  obtain ⟨i1, i2, _, _, _, _, d1⟩ := hP
  unfold maxLen at d1
  have sz : (P.d.size : Int) ≤ 9223372036854775807 := by omega
  have ways : (∃ h : Hid (decide P.may = false), P.id < 1) ∨ (∃ h : Hid (decide P.may = false), decide (P.id < 1) = false ∧ 1 ≤ P.id ∧ 2147483648 ≤ P.id) ∨
      (∃ h : Hid (decide P.may = false), decide (P.id < 1) = false ∧ 1 ≤ P.id ∧ P.id < 2147483648 ∧ 16 < (P.d.size : Int)) ∨
      (∃ h : Hid (decide P.may = true), decide (P.id < 1) = false ∧ 1 ≤ P.id ∧ P.id < 2147483648 ∧ (P.d.size : Int) ≤ 16) := by
    unfold Pt.may
    by_cases h1 : P.id < 1
    · exact .inl ⟨hid (decide_eq_false (by omega)), h1⟩
    · by_cases h2 : 2147483648 ≤ P.id
      · exact .inr (.inl ⟨hid (decide_eq_false (by omega)), decide_eq_false h1, by omega, h2⟩)
      · by_cases h3 : 16 < (P.d.size : Int)
        · exact .inr (.inr (.inl ⟨hid (decide_eq_false (by omega)), decide_eq_false h1, by omega, by omega, h3⟩))
        · exact .inr (.inr (.inr ⟨hid (decide_eq_true (by omega)), decide_eq_false h1, by omega, by omega, by omega⟩))
  generalize decide P.may = m at *
  clear d1
  rcases ways with ⟨hc, g1⟩ | ⟨hc, g1, g2, g3⟩ | ⟨hc, g1, g2, g3, g4⟩ | ⟨hc, g1, g2, g3, g4⟩
  all_goals
    go_enter Try.func30, Try.ntmps30
    go_wp2
    go_ret
    exact ⟨by rw [hc.out]; (try rfl); (try simp; omega), (Below.refl _ _).alloc (Nat.le_refl _) _⟩

theorem pt_makes (dst : Option Tmp) (ty : TypeId) (pos : String) (af : Array Edge) : Makes Try.prog { dst := dst, op := .alloc 53, type := ty, pos := pos, after := af, guard := none } #[.int .i64 0, .int .u32 0, .int .u32 0, .string ByteArray.empty] := by
  exact ⟨rfl, _, rfl, fun w => by kernel_rfl⟩
/-- What the document's own reading tells. -/
def GPost (l : List UInt8) (w : World) (e : Ending) (w' : World) : Prop :=
  ∃ P n, e = .returned (.tuple #[pval P, .int .i64 n]) ∧ Below w.heap.size w w' ∧
    ((13 + lenAt l ≤ l.length ∧ (pointOf l).may ∧ P = pointOf l ∧ n = 13 + (lenAt l : Int)) ∨ (¬ (13 + lenAt l ≤ l.length ∧ (pointOf l).may) ∧ P = pt0 ∧ n = 0))
theorem lenAt_get (l : List UInt8) (h : 12 < l.length) : lenAt l = l[12].toNat := by
  unfold lenAt
  rw [show l.drop 12 = l[12] :: l.drop 13 from List.drop_eq_getElem_cons h]
  simp only [List.take_succ_cons, List.take_zero, numOf]
  omega

end Go.Proofs.Ytghboanmiggcnaa
