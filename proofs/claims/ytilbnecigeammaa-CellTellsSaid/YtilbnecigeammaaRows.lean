/-
  No cell of these rows narrows 'for every input' (looked for: loops, veiled, ifaces, maps, wideKeys, modest, calm, conditions, laid).
  DERIVED. THE GIVEN ROWS OF THIS SEAT. 12 by the template 'for every input the law returns true; each argument reads behind the call as it read before'; 0 by the template 'total and deterministic' (their statements: YtilbnecigeammaaTotals.lean).
  GIVEN WITH THE SEED: the statements are not yours to turn. If you find one false, say at which input.
  Laid BY PROGRAM, IN A SANDBOX (cutbox-rows.mjs): the forced cells as the released guide's own fill.sh prints them over the translation f62794376ae68adc… (all of the seat's roots in one cut). By AI agents, Wed Nov 11 2026. No macro, syntax, notation, axiom, sorry.
-/
import Derived.Test.YtilbnecigeammaaChecked
import GoSem.Claim
import GoSem.ClaimJoined
import GoSem.ClaimMapViews
import Derived.JoinedTies
import Derived.KernelRfl
namespace Go.Proofs.Ytilbnecigeammaa
/- THE CELL 'sum', in the pinned program and in every row, IS THE sha256 OF THE DUMP (.gsa) THAT YtilbnecigeammaaProg.lean LOADS. Nothing in Lean hashes anything: it is a label: what it is worth is what the hold of that sum in a sandbox is worth. -/
noncomputable def Try.pinned : Pinned := { name := "ytilbnecigeammaa", sum := "f62794376ae68adc869c256b1d1e9c6bff2e7c4ae5c8b95e644fa4b740d2c303", checked := Try.checked }
namespace Rows
def none {H : Type} : Left H := { results := [], args := [] }

/-- 'croftlaw04.CellTells': WHATEVER THE INPUT: true; the input reads as it did. -/
def cellTellsSpec : ChangeSpec := { name := "cellTells", fn := fun _ => fun
  | [d1, d2, d3, d4] => { results := [.lit (.bool true)], args := [d1, d2, d3, d4] }
  | _ => none }
def cellTellsRow : OpenClaim := { program := "ytilbnecigeammaa", sum := "f62794376ae68adc869c256b1d1e9c6bff2e7c4ae5c8b95e644fa4b740d2c303", func := "croft/croftlaw04.CellTells", spec := "cellTells", apart := false }
def CellTellsSaid : Prop := cellTellsRow.holds Try.pinned (OpenSpec.ofChange cellTellsSpec)

/-- ITS FALSE NEIGHBOUR: 'it returns false'. Refute it at one input. -/
def cellTellsWrong : ChangeSpec := { name := "cellTells", fn := fun _ => fun
  | [d1, d2, d3, d4] => { results := [.lit (.bool false)], args := [d1, d2, d3, d4] }
  | _ => none }
def CellTellsWrongFalsely : Prop := cellTellsRow.holds Try.pinned (OpenSpec.ofChange cellTellsWrong)

/-- 'croftlaw04.CellQuarters': WHATEVER THE INPUT: true; the input reads as it did. -/
def cellQuartersSpec : ChangeSpec := { name := "cellQuarters", fn := fun _ => fun
  | [d1, d2, d3, d4] => { results := [.lit (.bool true)], args := [d1, d2, d3, d4] }
  | _ => none }
def cellQuartersRow : OpenClaim := { program := "ytilbnecigeammaa", sum := "f62794376ae68adc869c256b1d1e9c6bff2e7c4ae5c8b95e644fa4b740d2c303", func := "croft/croftlaw04.CellQuarters", spec := "cellQuarters", apart := false }
def CellQuartersSaid : Prop := cellQuartersRow.holds Try.pinned (OpenSpec.ofChange cellQuartersSpec)

/-- ITS FALSE NEIGHBOUR: 'it returns false'. Refute it at one input. -/
def cellQuartersWrong : ChangeSpec := { name := "cellQuarters", fn := fun _ => fun
  | [d1, d2, d3, d4] => { results := [.lit (.bool false)], args := [d1, d2, d3, d4] }
  | _ => none }
def CellQuartersWrongFalsely : Prop := cellQuartersRow.holds Try.pinned (OpenSpec.ofChange cellQuartersWrong)

/-- 'croftlaw04.CellNested': WHATEVER THE INPUT: true; the input reads as it did. -/
def cellNestedSpec : ChangeSpec := { name := "cellNested", fn := fun _ => fun
  | [d1, d2, d3, d4, d5, d6] => { results := [.lit (.bool true)], args := [d1, d2, d3, d4, d5, d6] }
  | _ => none }
def cellNestedRow : OpenClaim := { program := "ytilbnecigeammaa", sum := "f62794376ae68adc869c256b1d1e9c6bff2e7c4ae5c8b95e644fa4b740d2c303", func := "croft/croftlaw04.CellNested", spec := "cellNested", apart := false }
def CellNestedSaid : Prop := cellNestedRow.holds Try.pinned (OpenSpec.ofChange cellNestedSpec)

/-- ITS FALSE NEIGHBOUR: 'it returns false'. Refute it at one input. -/
def cellNestedWrong : ChangeSpec := { name := "cellNested", fn := fun _ => fun
  | [d1, d2, d3, d4, d5, d6] => { results := [.lit (.bool false)], args := [d1, d2, d3, d4, d5, d6] }
  | _ => none }
def CellNestedWrongFalsely : Prop := cellNestedRow.holds Try.pinned (OpenSpec.ofChange cellNestedWrong)

/-- 'croftlaw05.ZorderTells': WHATEVER THE INPUT: true; the input reads as it did. -/
def zorderTellsSpec : ChangeSpec := { name := "zorderTells", fn := fun _ => fun
  | [d1, d2, d3, d4] => { results := [.lit (.bool true)], args := [d1, d2, d3, d4] }
  | _ => none }
def zorderTellsRow : OpenClaim := { program := "ytilbnecigeammaa", sum := "f62794376ae68adc869c256b1d1e9c6bff2e7c4ae5c8b95e644fa4b740d2c303", func := "croft/croftlaw05.ZorderTells", spec := "zorderTells", apart := false }
def ZorderTellsSaid : Prop := zorderTellsRow.holds Try.pinned (OpenSpec.ofChange zorderTellsSpec)

/-- ITS FALSE NEIGHBOUR: 'it returns false'. Refute it at one input. -/
def zorderTellsWrong : ChangeSpec := { name := "zorderTells", fn := fun _ => fun
  | [d1, d2, d3, d4] => { results := [.lit (.bool false)], args := [d1, d2, d3, d4] }
  | _ => none }
def ZorderTellsWrongFalsely : Prop := zorderTellsRow.holds Try.pinned (OpenSpec.ofChange zorderTellsWrong)

/-- 'croftlaw05.ZorderSorts': WHATEVER THE INPUT: true; the input reads as it did. -/
def zorderSortsSpec : ChangeSpec := { name := "zorderSorts", fn := fun _ => fun
  | [d1, d2] => { results := [.lit (.bool true)], args := [d1, d2] }
  | _ => none }
def zorderSortsRow : OpenClaim := { program := "ytilbnecigeammaa", sum := "f62794376ae68adc869c256b1d1e9c6bff2e7c4ae5c8b95e644fa4b740d2c303", func := "croft/croftlaw05.ZorderSorts", spec := "zorderSorts", unfollowed := true, recurses := true, apart := false }
def ZorderSortsSaid : Prop := zorderSortsRow.holds Try.pinned (OpenSpec.ofChange zorderSortsSpec)

/-- ITS FALSE NEIGHBOUR: 'it returns false'. Refute it at one input. -/
def zorderSortsWrong : ChangeSpec := { name := "zorderSorts", fn := fun _ => fun
  | [d1, d2] => { results := [.lit (.bool false)], args := [d1, d2] }
  | _ => none }
def ZorderSortsWrongFalsely : Prop := zorderSortsRow.holds Try.pinned (OpenSpec.ofChange zorderSortsWrong)

/-- 'croftlaw05.ZorderRows': WHATEVER THE INPUT: true; the input reads as it did. -/
def zorderRowsSpec : ChangeSpec := { name := "zorderRows", fn := fun _ => fun
  | [d1, d2, d3, d4, d5] => { results := [.lit (.bool true)], args := [d1, d2, d3, d4, d5] }
  | _ => none }
def zorderRowsRow : OpenClaim := { program := "ytilbnecigeammaa", sum := "f62794376ae68adc869c256b1d1e9c6bff2e7c4ae5c8b95e644fa4b740d2c303", func := "croft/croftlaw05.ZorderRows", spec := "zorderRows", apart := false }
def ZorderRowsSaid : Prop := zorderRowsRow.holds Try.pinned (OpenSpec.ofChange zorderRowsSpec)

/-- ITS FALSE NEIGHBOUR: 'it returns false'. Refute it at one input. -/
def zorderRowsWrong : ChangeSpec := { name := "zorderRows", fn := fun _ => fun
  | [d1, d2, d3, d4, d5] => { results := [.lit (.bool false)], args := [d1, d2, d3, d4, d5] }
  | _ => none }
def ZorderRowsWrongFalsely : Prop := zorderRowsRow.holds Try.pinned (OpenSpec.ofChange zorderRowsWrong)

/-- 'croftlaw06.RectTells': WHATEVER THE INPUT: true; the input reads as it did. -/
def rectTellsSpec : ChangeSpec := { name := "rectTells", fn := fun _ => fun
  | [d1, d2, d3, d4] => { results := [.lit (.bool true)], args := [d1, d2, d3, d4] }
  | _ => none }
def rectTellsRow : OpenClaim := { program := "ytilbnecigeammaa", sum := "f62794376ae68adc869c256b1d1e9c6bff2e7c4ae5c8b95e644fa4b740d2c303", func := "croft/croftlaw06.RectTells", spec := "rectTells", unfollowed := true, recurses := true, apart := false }
def RectTellsSaid : Prop := rectTellsRow.holds Try.pinned (OpenSpec.ofChange rectTellsSpec)

/-- ITS FALSE NEIGHBOUR: 'it returns false'. Refute it at one input. -/
def rectTellsWrong : ChangeSpec := { name := "rectTells", fn := fun _ => fun
  | [d1, d2, d3, d4] => { results := [.lit (.bool false)], args := [d1, d2, d3, d4] }
  | _ => none }
def RectTellsWrongFalsely : Prop := rectTellsRow.holds Try.pinned (OpenSpec.ofChange rectTellsWrong)

/-- 'croftlaw06.RectCovers': WHATEVER THE INPUT: true; the input reads as it did. -/
def rectCoversSpec : ChangeSpec := { name := "rectCovers", fn := fun _ => fun
  | [d] => { results := [.lit (.bool true)], args := [d] }
  | _ => none }
def rectCoversRow : OpenClaim := { program := "ytilbnecigeammaa", sum := "f62794376ae68adc869c256b1d1e9c6bff2e7c4ae5c8b95e644fa4b740d2c303", func := "croft/croftlaw06.RectCovers", spec := "rectCovers", apart := false }
def RectCoversSaid : Prop := rectCoversRow.holds Try.pinned (OpenSpec.ofChange rectCoversSpec)

/-- ITS FALSE NEIGHBOUR: 'it returns false'. Refute it at one input. -/
def rectCoversWrong : ChangeSpec := { name := "rectCovers", fn := fun _ => fun
  | [d] => { results := [.lit (.bool false)], args := [d] }
  | _ => none }
def RectCoversWrongFalsely : Prop := rectCoversRow.holds Try.pinned (OpenSpec.ofChange rectCoversWrong)

/-- 'croftlaw06.RectAreas': WHATEVER THE INPUT: true; the input reads as it did. -/
def rectAreasSpec : ChangeSpec := { name := "rectAreas", fn := fun _ => fun
  | [d1, d2] => { results := [.lit (.bool true)], args := [d1, d2] }
  | _ => none }
def rectAreasRow : OpenClaim := { program := "ytilbnecigeammaa", sum := "f62794376ae68adc869c256b1d1e9c6bff2e7c4ae5c8b95e644fa4b740d2c303", func := "croft/croftlaw06.RectAreas", spec := "rectAreas", apart := false }
def RectAreasSaid : Prop := rectAreasRow.holds Try.pinned (OpenSpec.ofChange rectAreasSpec)

/-- ITS FALSE NEIGHBOUR: 'it returns false'. Refute it at one input. -/
def rectAreasWrong : ChangeSpec := { name := "rectAreas", fn := fun _ => fun
  | [d1, d2] => { results := [.lit (.bool false)], args := [d1, d2] }
  | _ => none }
def RectAreasWrongFalsely : Prop := rectAreasRow.holds Try.pinned (OpenSpec.ofChange rectAreasWrong)

/-- 'croftlaw07.PointTells': WHATEVER THE INPUT: true; the input reads as it did. -/
def pointTellsSpec : ChangeSpec := { name := "pointTells", fn := fun _ => fun
  | [d1, d2] => { results := [.lit (.bool true)], args := [d1, d2] }
  | _ => none }
def pointTellsRow : OpenClaim := { program := "ytilbnecigeammaa", sum := "f62794376ae68adc869c256b1d1e9c6bff2e7c4ae5c8b95e644fa4b740d2c303", func := "croft/croftlaw07.PointTells", spec := "pointTells", apart := false }
def PointTellsSaid : Prop := pointTellsRow.holds Try.pinned (OpenSpec.ofChange pointTellsSpec)

/-- ITS FALSE NEIGHBOUR: 'it returns false'. Refute it at one input. -/
def pointTellsWrong : ChangeSpec := { name := "pointTells", fn := fun _ => fun
  | [d1, d2] => { results := [.lit (.bool false)], args := [d1, d2] }
  | _ => none }
def PointTellsWrongFalsely : Prop := pointTellsRow.holds Try.pinned (OpenSpec.ofChange pointTellsWrong)

/-- 'croftlaw07.PointSorts': WHATEVER THE INPUT: true; the input reads as it did. -/
def pointSortsSpec : ChangeSpec := { name := "pointSorts", fn := fun _ => fun
  | [d1, d2] => { results := [.lit (.bool true)], args := [d1, d2] }
  | _ => none }
def pointSortsRow : OpenClaim := { program := "ytilbnecigeammaa", sum := "f62794376ae68adc869c256b1d1e9c6bff2e7c4ae5c8b95e644fa4b740d2c303", func := "croft/croftlaw07.PointSorts", spec := "pointSorts", unfollowed := true, recurses := true, apart := false }
def PointSortsSaid : Prop := pointSortsRow.holds Try.pinned (OpenSpec.ofChange pointSortsSpec)

/-- ITS FALSE NEIGHBOUR: 'it returns false'. Refute it at one input. -/
def pointSortsWrong : ChangeSpec := { name := "pointSorts", fn := fun _ => fun
  | [d1, d2] => { results := [.lit (.bool false)], args := [d1, d2] }
  | _ => none }
def PointSortsWrongFalsely : Prop := pointSortsRow.holds Try.pinned (OpenSpec.ofChange pointSortsWrong)

/-- 'croftlaw07.PointBack': WHATEVER THE INPUT: true; the input reads as it did. -/
def pointBackSpec : ChangeSpec := { name := "pointBack", fn := fun _ => fun
  | [d] => { results := [.lit (.bool true)], args := [d] }
  | _ => none }
def pointBackRow : OpenClaim := { program := "ytilbnecigeammaa", sum := "f62794376ae68adc869c256b1d1e9c6bff2e7c4ae5c8b95e644fa4b740d2c303", func := "croft/croftlaw07.PointBack", spec := "pointBack", apart := false }
def PointBackSaid : Prop := pointBackRow.holds Try.pinned (OpenSpec.ofChange pointBackSpec)

/-- ITS FALSE NEIGHBOUR: 'it returns false'. Refute it at one input. -/
def pointBackWrong : ChangeSpec := { name := "pointBack", fn := fun _ => fun
  | [d] => { results := [.lit (.bool false)], args := [d] }
  | _ => none }
def PointBackWrongFalsely : Prop := pointBackRow.holds Try.pinned (OpenSpec.ofChange pointBackWrong)

/- THE SECOND FORM. 'bulk': how many values and letters a reading holds, each counted each time it is reached (what is shared counts as often as it is met; a slice's spare places count too). A statement '..UptoSaid' is the law's where the arguments, and the package variables that the reading takes, are together of bulk at most 1048576: NARROWER than '..Said'. Prove '..Said' where nothing that the law and all that it calls make is longer than what came in: it says more and counts as full. Else prove '..UptoSaid'. A law counts once. -/
mutual
def uptoBulk {H : Type} : DataW H → Nat
  | .lit (.string bytes) => bytes.length + 1
  | .lit _ => 1
  | .nil => 1
  | .ptr d => uptoBulk d + 1
  | .slice elems spare => uptoBulkAll elems + uptoBulkAll spare + 1
  | .agg parts => uptoBulkAll parts + 1
  | .iface _ d => uptoBulk d + 1
  | .map entries => uptoBulkEntries entries + 1
  | .held _ => 1
def uptoBulkAll {H : Type} : List (DataW H) → Nat
  | [] => 0
  | d :: r => uptoBulk d + uptoBulkAll r
def uptoBulkEntries {H : Type} : List (Lit × DataW H) → Nat
  | [] => 0
  | x :: r => uptoBulkEntry x + uptoBulkEntries r
def uptoBulkEntry {H : Type} : Lit × DataW H → Nat
  | (.string bytes, d) => bytes.length + uptoBulk d + 1
  | (_, d) => uptoBulk d + 1
 end
def uptoSmall : (H : Type) → List (DataW H) → Bool := fun _ ds => decide (uptoBulkAll ds ≤ 1048576)
def OpenSpec.upto (s : _root_.Go.ChangeSpec) : _root_.Go.OpenSpec := { _root_.Go.OpenSpec.ofChange s with cond := some uptoSmall }

/-- 'croftlaw04.CellTells', WHERE WHAT IT READS IS OF BULK AT MOST 1048576: true; the input reads as it did. -/
def cellTellsUptoRow : OpenClaim := { program := "ytilbnecigeammaa", sum := "f62794376ae68adc869c256b1d1e9c6bff2e7c4ae5c8b95e644fa4b740d2c303", func := "croft/croftlaw04.CellTells", spec := "cellTells", apart := false, narrowed := true }
def CellTellsUptoSaid : Prop := cellTellsUptoRow.holds Try.pinned (OpenSpec.upto cellTellsSpec)

/-- 'croftlaw04.CellQuarters', WHERE WHAT IT READS IS OF BULK AT MOST 1048576: true; the input reads as it did. -/
def cellQuartersUptoRow : OpenClaim := { program := "ytilbnecigeammaa", sum := "f62794376ae68adc869c256b1d1e9c6bff2e7c4ae5c8b95e644fa4b740d2c303", func := "croft/croftlaw04.CellQuarters", spec := "cellQuarters", apart := false, narrowed := true }
def CellQuartersUptoSaid : Prop := cellQuartersUptoRow.holds Try.pinned (OpenSpec.upto cellQuartersSpec)

/-- 'croftlaw04.CellNested', WHERE WHAT IT READS IS OF BULK AT MOST 1048576: true; the input reads as it did. -/
def cellNestedUptoRow : OpenClaim := { program := "ytilbnecigeammaa", sum := "f62794376ae68adc869c256b1d1e9c6bff2e7c4ae5c8b95e644fa4b740d2c303", func := "croft/croftlaw04.CellNested", spec := "cellNested", apart := false, narrowed := true }
def CellNestedUptoSaid : Prop := cellNestedUptoRow.holds Try.pinned (OpenSpec.upto cellNestedSpec)

/-- 'croftlaw05.ZorderTells', WHERE WHAT IT READS IS OF BULK AT MOST 1048576: true; the input reads as it did. -/
def zorderTellsUptoRow : OpenClaim := { program := "ytilbnecigeammaa", sum := "f62794376ae68adc869c256b1d1e9c6bff2e7c4ae5c8b95e644fa4b740d2c303", func := "croft/croftlaw05.ZorderTells", spec := "zorderTells", apart := false, narrowed := true }
def ZorderTellsUptoSaid : Prop := zorderTellsUptoRow.holds Try.pinned (OpenSpec.upto zorderTellsSpec)

/-- 'croftlaw05.ZorderSorts', WHERE WHAT IT READS IS OF BULK AT MOST 1048576: true; the input reads as it did. -/
def zorderSortsUptoRow : OpenClaim := { program := "ytilbnecigeammaa", sum := "f62794376ae68adc869c256b1d1e9c6bff2e7c4ae5c8b95e644fa4b740d2c303", func := "croft/croftlaw05.ZorderSorts", spec := "zorderSorts", unfollowed := true, recurses := true, apart := false, narrowed := true }
def ZorderSortsUptoSaid : Prop := zorderSortsUptoRow.holds Try.pinned (OpenSpec.upto zorderSortsSpec)

/-- 'croftlaw05.ZorderRows', WHERE WHAT IT READS IS OF BULK AT MOST 1048576: true; the input reads as it did. -/
def zorderRowsUptoRow : OpenClaim := { program := "ytilbnecigeammaa", sum := "f62794376ae68adc869c256b1d1e9c6bff2e7c4ae5c8b95e644fa4b740d2c303", func := "croft/croftlaw05.ZorderRows", spec := "zorderRows", apart := false, narrowed := true }
def ZorderRowsUptoSaid : Prop := zorderRowsUptoRow.holds Try.pinned (OpenSpec.upto zorderRowsSpec)

/-- 'croftlaw06.RectTells', WHERE WHAT IT READS IS OF BULK AT MOST 1048576: true; the input reads as it did. -/
def rectTellsUptoRow : OpenClaim := { program := "ytilbnecigeammaa", sum := "f62794376ae68adc869c256b1d1e9c6bff2e7c4ae5c8b95e644fa4b740d2c303", func := "croft/croftlaw06.RectTells", spec := "rectTells", unfollowed := true, recurses := true, apart := false, narrowed := true }
def RectTellsUptoSaid : Prop := rectTellsUptoRow.holds Try.pinned (OpenSpec.upto rectTellsSpec)

/-- 'croftlaw06.RectCovers', WHERE WHAT IT READS IS OF BULK AT MOST 1048576: true; the input reads as it did. -/
def rectCoversUptoRow : OpenClaim := { program := "ytilbnecigeammaa", sum := "f62794376ae68adc869c256b1d1e9c6bff2e7c4ae5c8b95e644fa4b740d2c303", func := "croft/croftlaw06.RectCovers", spec := "rectCovers", apart := false, narrowed := true }
def RectCoversUptoSaid : Prop := rectCoversUptoRow.holds Try.pinned (OpenSpec.upto rectCoversSpec)

/-- 'croftlaw06.RectAreas', WHERE WHAT IT READS IS OF BULK AT MOST 1048576: true; the input reads as it did. -/
def rectAreasUptoRow : OpenClaim := { program := "ytilbnecigeammaa", sum := "f62794376ae68adc869c256b1d1e9c6bff2e7c4ae5c8b95e644fa4b740d2c303", func := "croft/croftlaw06.RectAreas", spec := "rectAreas", apart := false, narrowed := true }
def RectAreasUptoSaid : Prop := rectAreasUptoRow.holds Try.pinned (OpenSpec.upto rectAreasSpec)

/-- 'croftlaw07.PointTells', WHERE WHAT IT READS IS OF BULK AT MOST 1048576: true; the input reads as it did. -/
def pointTellsUptoRow : OpenClaim := { program := "ytilbnecigeammaa", sum := "f62794376ae68adc869c256b1d1e9c6bff2e7c4ae5c8b95e644fa4b740d2c303", func := "croft/croftlaw07.PointTells", spec := "pointTells", apart := false, narrowed := true }
def PointTellsUptoSaid : Prop := pointTellsUptoRow.holds Try.pinned (OpenSpec.upto pointTellsSpec)

/-- 'croftlaw07.PointSorts', WHERE WHAT IT READS IS OF BULK AT MOST 1048576: true; the input reads as it did. -/
def pointSortsUptoRow : OpenClaim := { program := "ytilbnecigeammaa", sum := "f62794376ae68adc869c256b1d1e9c6bff2e7c4ae5c8b95e644fa4b740d2c303", func := "croft/croftlaw07.PointSorts", spec := "pointSorts", unfollowed := true, recurses := true, apart := false, narrowed := true }
def PointSortsUptoSaid : Prop := pointSortsUptoRow.holds Try.pinned (OpenSpec.upto pointSortsSpec)

/-- 'croftlaw07.PointBack', WHERE WHAT IT READS IS OF BULK AT MOST 1048576: true; the input reads as it did. -/
def pointBackUptoRow : OpenClaim := { program := "ytilbnecigeammaa", sum := "f62794376ae68adc869c256b1d1e9c6bff2e7c4ae5c8b95e644fa4b740d2c303", func := "croft/croftlaw07.PointBack", spec := "pointBack", apart := false, narrowed := true }
def PointBackUptoSaid : Prop := pointBackUptoRow.holds Try.pinned (OpenSpec.upto pointBackSpec)

end Rows
end Go.Proofs.Ytilbnecigeammaa
