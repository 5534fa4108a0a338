/-
  The document's own points as octets: a point of octets.
-/
import Derived.Test.YtgjdngpninpgmaaRefPoint
import Derived.Test.YtgjdngpninpgmaaRegionAlloc
namespace Go.Proofs.Ytgjdngpninpgmaa
open Go.RowKit
set_option linter.unusedVariables false
set_option linter.unusedSimpArgs false

instance (P : Pt) : Decidable P.may := by unfold Pt.may; infer_instance
theorem pt_makes (dst : Option Tmp) (ty : TypeId) (pos : String) (af : Array Edge) : Makes Try.prog { dst := dst, op := .alloc 28, type := ty, pos := pos, after := af, guard := none } #[.int .i64 0, .int .u32 0, .int .u32 0, .string ByteArray.empty] := by
  exact ⟨rfl, _, rfl, fun w => by kernel_rfl⟩
/-- What the document's own reading tells. -/
def GPost (l : List UInt8) (w : World) (e : Ending) (w' : World) : Prop :=
  ∃ P n, e = .returned (.tuple #[pval P, .int .i64 n]) ∧ Below w.heap.size w w' ∧
    ((13 + lenAt l ≤ l.length ∧ (pointOf l).may ∧ P = pointOf l ∧ n = 13 + (lenAt l : Int)) ∨ (¬ (13 + lenAt l ≤ l.length ∧ (pointOf l).may) ∧ P = pt0 ∧ n = 0))
theorem lenAt_get (l : List UInt8) (h : 12 < l.length) : lenAt l = l[12].toNat := by
  unfold lenAt
  rw [show l.drop 12 = l[12] :: l.drop 13 from List.drop_eq_getElem_cons h]
  simp only [List.take_succ_cons, List.take_zero, numOf]
  omega

end Go.Proofs.Ytgjdngpninpgmaa
