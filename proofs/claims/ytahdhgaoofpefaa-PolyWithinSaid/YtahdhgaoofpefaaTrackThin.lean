/-
  track.between, slices.Clip, and the way that track.Thin keeps.
-/
import Derived.Test.YtahdhgaoofpefaaPolySides
import Derived.OwnWalk
import Derived.Deep.AppendLies
namespace Go.Proofs.Ytahdhgaoofpefaa
open Go.RowKit
set_option linter.unusedVariables false
set_option linter.unusedSimpArgs false

def ptv (P : Pt) : Value := .agg #[.int .i64 P.id, .int .u32 P.x, .int .u32 P.y, .string P.d]
def dval (h l : Int) : Value := .agg #[.int .u64 h, .int .u64 l]

theorem four_new (w : World) (c : Array Value) (t : TypeId) : ∀ j u, c.toList[j]? = some u → (w.alloc (.cells c t)).cell? (Addr.add ⟨w.heap.size, 0, none⟩ j) = some u :=
  World.news_of_block (cs := c) (t := t) (fr := (0, 0)) (heap_alloc_new w _)

theorem pt_one (P : Pt) : ∀ u ∈ [Value.int .i64 P.id, .int .u32 P.x, .int .u32 P.y, .string P.d], u.oneCell' = true := by
  intro u hu
  simp at hu
  rcases hu with rfl | rfl | rfl | rfl <;> rfl

/-- A slice with these points, within reach. -/
def PtsAt (w : World) (v : Value) (L : List Pt) : Prop := ∃ q c, v = .slice q L.length c ∧ L.length ≤ c ∧ c ≤ maxLen ∧ RowP w q 4 L.length (fun i => pcells (ptAt L i))
theorem PtsAt.more {w w' : World} {v : Value} {L : List Pt} (h : PtsAt w v L) (hb : Below w.heap.size w w') : PtsAt w' v L := by
  obtain ⟨q, c, e, h1, h2, R⟩ := h
  exact ⟨q, c, e, h1, h2, R.more hb⟩

end Go.Proofs.Ytahdhgaoofpefaa
