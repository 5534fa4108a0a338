/-
  No cell of these rows narrows 'for every input' (looked for: loops, veiled, ifaces, maps, wideKeys, modest, calm, conditions, laid).
  DERIVED. THE GIVEN ROWS OF THIS SEAT. 12 by the template 'for every input the law returns true; each argument reads behind the call as it read before'; 0 by the template 'total and deterministic' (their statements: YtjlfpflgbanncaaTotals.lean).
  GIVEN WITH THE SEED: the statements are not yours to turn. If you find one false, say at which input.
  Laid BY PROGRAM, IN A SANDBOX (cutbox-rows.mjs): the forced cells as the released guide's own fill.sh prints them over the translation 6bb3c5913e91ff3a… (all of the seat's roots in one cut). By AI agents, Wed Nov 11 2026. No macro, syntax, notation, axiom, sorry.
-/
import Derived.Test.YtjlfpflgbanncaaChecked
import GoSem.Claim
import GoSem.ClaimJoined
import GoSem.ClaimMapViews
import Derived.JoinedTies
import Derived.KernelRfl
namespace Go.Proofs.Ytjlfpflgbanncaa
/- THE CELL 'sum', in the pinned program and in every row, IS THE sha256 OF THE DUMP (.gsa) THAT YtjlfpflgbanncaaProg.lean LOADS. Nothing in Lean hashes anything: it is a label: what it is worth is what the hold of that sum in a sandbox is worth. -/
noncomputable def Try.pinned : Pinned := { name := "ytjlfpflgbanncaa", sum := "6bb3c5913e91ff3a2a392a4665fa14dae937edbf5e8b1d1a8a43a64589c006d7", checked := Try.checked }
namespace Rows
def none {H : Type} : Left H := { results := [], args := [] }

/-- 'croftlaw01.LittleWrites': WHATEVER THE INPUT: true; the input reads as it did. -/
def littleWritesSpec : ChangeSpec := { name := "littleWrites", fn := fun _ => fun
  | [d1, d2] => { results := [.lit (.bool true)], args := [d1, d2] }
  | _ => none }
def littleWritesRow : OpenClaim := { program := "ytjlfpflgbanncaa", sum := "6bb3c5913e91ff3a2a392a4665fa14dae937edbf5e8b1d1a8a43a64589c006d7", func := "croft/croftlaw01.LittleWrites", spec := "littleWrites", apart := false }
def LittleWritesSaid : Prop := littleWritesRow.holds Try.pinned (OpenSpec.ofChange littleWritesSpec)

/-- ITS FALSE NEIGHBOUR: 'it returns false'. Refute it at one input. -/
def littleWritesWrong : ChangeSpec := { name := "littleWrites", fn := fun _ => fun
  | [d1, d2] => { results := [.lit (.bool false)], args := [d1, d2] }
  | _ => none }
def LittleWritesWrongFalsely : Prop := littleWritesRow.holds Try.pinned (OpenSpec.ofChange littleWritesWrong)

/-- 'croftlaw01.LittleReads': WHATEVER THE INPUT: true; the input reads as it did. -/
def littleReadsSpec : ChangeSpec := { name := "littleReads", fn := fun _ => fun
  | [d1, d2] => { results := [.lit (.bool true)], args := [d1, d2] }
  | _ => none }
def littleReadsRow : OpenClaim := { program := "ytjlfpflgbanncaa", sum := "6bb3c5913e91ff3a2a392a4665fa14dae937edbf5e8b1d1a8a43a64589c006d7", func := "croft/croftlaw01.LittleReads", spec := "littleReads", apart := false }
def LittleReadsSaid : Prop := littleReadsRow.holds Try.pinned (OpenSpec.ofChange littleReadsSpec)

/-- ITS FALSE NEIGHBOUR: 'it returns false'. Refute it at one input. -/
def littleReadsWrong : ChangeSpec := { name := "littleReads", fn := fun _ => fun
  | [d1, d2] => { results := [.lit (.bool false)], args := [d1, d2] }
  | _ => none }
def LittleReadsWrongFalsely : Prop := littleReadsRow.holds Try.pinned (OpenSpec.ofChange littleReadsWrong)

/-- 'croftlaw01.LittleNobody': WHATEVER THE INPUT: true; the input reads as it did. -/
def littleNobodySpec : ChangeSpec := { name := "littleNobody", fn := fun _ => fun
  | [d1, d2] => { results := [.lit (.bool true)], args := [d1, d2] }
  | _ => none }
def littleNobodyRow : OpenClaim := { program := "ytjlfpflgbanncaa", sum := "6bb3c5913e91ff3a2a392a4665fa14dae937edbf5e8b1d1a8a43a64589c006d7", func := "croft/croftlaw01.LittleNobody", spec := "littleNobody", apart := false }
def LittleNobodySaid : Prop := littleNobodyRow.holds Try.pinned (OpenSpec.ofChange littleNobodySpec)

/-- ITS FALSE NEIGHBOUR: 'it returns false'. Refute it at one input. -/
def littleNobodyWrong : ChangeSpec := { name := "littleNobody", fn := fun _ => fun
  | [d1, d2] => { results := [.lit (.bool false)], args := [d1, d2] }
  | _ => none }
def LittleNobodyWrongFalsely : Prop := littleNobodyRow.holds Try.pinned (OpenSpec.ofChange littleNobodyWrong)

/-- 'croftlaw02.CrcTells': WHATEVER THE INPUT: true; the input reads as it did. -/
def crcTellsSpec : ChangeSpec := { name := "crcTells", fn := fun _ => fun
  | [d1, d2, d3] => { results := [.lit (.bool true)], args := [d1, d2, d3] }
  | _ => none }
def crcTellsRow : OpenClaim := { program := "ytjlfpflgbanncaa", sum := "6bb3c5913e91ff3a2a392a4665fa14dae937edbf5e8b1d1a8a43a64589c006d7", func := "croft/croftlaw02.CrcTells", spec := "crcTells", apart := false }
def CrcTellsSaid : Prop := crcTellsRow.holds Try.pinned (OpenSpec.ofChange crcTellsSpec)

/-- ITS FALSE NEIGHBOUR: 'it returns false'. Refute it at one input. -/
def crcTellsWrong : ChangeSpec := { name := "crcTells", fn := fun _ => fun
  | [d1, d2, d3] => { results := [.lit (.bool false)], args := [d1, d2, d3] }
  | _ => none }
def CrcTellsWrongFalsely : Prop := crcTellsRow.holds Try.pinned (OpenSpec.ofChange crcTellsWrong)

/-- 'croftlaw02.CrcTables': WHATEVER THE INPUT: true; the input reads as it did. -/
def crcTablesSpec : ChangeSpec := { name := "crcTables", fn := fun _ => fun
  | [d1, d2] => { results := [.lit (.bool true)], args := [d1, d2] }
  | _ => none }
def crcTablesRow : OpenClaim := { program := "ytjlfpflgbanncaa", sum := "6bb3c5913e91ff3a2a392a4665fa14dae937edbf5e8b1d1a8a43a64589c006d7", func := "croft/croftlaw02.CrcTables", spec := "crcTables", apart := false }
def CrcTablesSaid : Prop := crcTablesRow.holds Try.pinned (OpenSpec.ofChange crcTablesSpec)

/-- ITS FALSE NEIGHBOUR: 'it returns false'. Refute it at one input. -/
def crcTablesWrong : ChangeSpec := { name := "crcTables", fn := fun _ => fun
  | [d1, d2] => { results := [.lit (.bool false)], args := [d1, d2] }
  | _ => none }
def CrcTablesWrongFalsely : Prop := crcTablesRow.holds Try.pinned (OpenSpec.ofChange crcTablesWrong)

/-- 'croftlaw04.CellQuarters': WHATEVER THE INPUT: true; the input reads as it did. -/
def cellQuartersSpec : ChangeSpec := { name := "cellQuarters", fn := fun _ => fun
  | [d1, d2, d3, d4] => { results := [.lit (.bool true)], args := [d1, d2, d3, d4] }
  | _ => none }
def cellQuartersRow : OpenClaim := { program := "ytjlfpflgbanncaa", sum := "6bb3c5913e91ff3a2a392a4665fa14dae937edbf5e8b1d1a8a43a64589c006d7", func := "croft/croftlaw04.CellQuarters", spec := "cellQuarters", apart := false }
def CellQuartersSaid : Prop := cellQuartersRow.holds Try.pinned (OpenSpec.ofChange cellQuartersSpec)

/-- ITS FALSE NEIGHBOUR: 'it returns false'. Refute it at one input. -/
def cellQuartersWrong : ChangeSpec := { name := "cellQuarters", fn := fun _ => fun
  | [d1, d2, d3, d4] => { results := [.lit (.bool false)], args := [d1, d2, d3, d4] }
  | _ => none }
def CellQuartersWrongFalsely : Prop := cellQuartersRow.holds Try.pinned (OpenSpec.ofChange cellQuartersWrong)

/-- 'croftlaw05.ZorderTells': WHATEVER THE INPUT: true; the input reads as it did. -/
def zorderTellsSpec : ChangeSpec := { name := "zorderTells", fn := fun _ => fun
  | [d1, d2, d3, d4] => { results := [.lit (.bool true)], args := [d1, d2, d3, d4] }
  | _ => none }
def zorderTellsRow : OpenClaim := { program := "ytjlfpflgbanncaa", sum := "6bb3c5913e91ff3a2a392a4665fa14dae937edbf5e8b1d1a8a43a64589c006d7", func := "croft/croftlaw05.ZorderTells", spec := "zorderTells", apart := false }
def ZorderTellsSaid : Prop := zorderTellsRow.holds Try.pinned (OpenSpec.ofChange zorderTellsSpec)

/-- ITS FALSE NEIGHBOUR: 'it returns false'. Refute it at one input. -/
def zorderTellsWrong : ChangeSpec := { name := "zorderTells", fn := fun _ => fun
  | [d1, d2, d3, d4] => { results := [.lit (.bool false)], args := [d1, d2, d3, d4] }
  | _ => none }
def ZorderTellsWrongFalsely : Prop := zorderTellsRow.holds Try.pinned (OpenSpec.ofChange zorderTellsWrong)

/-- 'croftlaw05.ZorderRows': WHATEVER THE INPUT: true; the input reads as it did. -/
def zorderRowsSpec : ChangeSpec := { name := "zorderRows", fn := fun _ => fun
  | [d1, d2, d3, d4, d5] => { results := [.lit (.bool true)], args := [d1, d2, d3, d4, d5] }
  | _ => none }
def zorderRowsRow : OpenClaim := { program := "ytjlfpflgbanncaa", sum := "6bb3c5913e91ff3a2a392a4665fa14dae937edbf5e8b1d1a8a43a64589c006d7", func := "croft/croftlaw05.ZorderRows", spec := "zorderRows", apart := false }
def ZorderRowsSaid : Prop := zorderRowsRow.holds Try.pinned (OpenSpec.ofChange zorderRowsSpec)

/-- ITS FALSE NEIGHBOUR: 'it returns false'. Refute it at one input. -/
def zorderRowsWrong : ChangeSpec := { name := "zorderRows", fn := fun _ => fun
  | [d1, d2, d3, d4, d5] => { results := [.lit (.bool false)], args := [d1, d2, d3, d4, d5] }
  | _ => none }
def ZorderRowsWrongFalsely : Prop := zorderRowsRow.holds Try.pinned (OpenSpec.ofChange zorderRowsWrong)

/-- 'croftlaw06.RectCovers': WHATEVER THE INPUT: true; the input reads as it did. -/
def rectCoversSpec : ChangeSpec := { name := "rectCovers", fn := fun _ => fun
  | [d] => { results := [.lit (.bool true)], args := [d] }
  | _ => none }
def rectCoversRow : OpenClaim := { program := "ytjlfpflgbanncaa", sum := "6bb3c5913e91ff3a2a392a4665fa14dae937edbf5e8b1d1a8a43a64589c006d7", func := "croft/croftlaw06.RectCovers", spec := "rectCovers", apart := false }
def RectCoversSaid : Prop := rectCoversRow.holds Try.pinned (OpenSpec.ofChange rectCoversSpec)

/-- ITS FALSE NEIGHBOUR: 'it returns false'. Refute it at one input. -/
def rectCoversWrong : ChangeSpec := { name := "rectCovers", fn := fun _ => fun
  | [d] => { results := [.lit (.bool false)], args := [d] }
  | _ => none }
def RectCoversWrongFalsely : Prop := rectCoversRow.holds Try.pinned (OpenSpec.ofChange rectCoversWrong)

/-- 'croftlaw27.VictimTells': WHATEVER THE INPUT: true; the input reads as it did. -/
def victimTellsSpec : ChangeSpec := { name := "victimTells", fn := fun _ => fun
  | [d1, d2, d3, d4, d5] => { results := [.lit (.bool true)], args := [d1, d2, d3, d4, d5] }
  | _ => none }
def victimTellsRow : OpenClaim := { program := "ytjlfpflgbanncaa", sum := "6bb3c5913e91ff3a2a392a4665fa14dae937edbf5e8b1d1a8a43a64589c006d7", func := "croft/croftlaw27.VictimTells", spec := "victimTells", apart := false }
def VictimTellsSaid : Prop := victimTellsRow.holds Try.pinned (OpenSpec.ofChange victimTellsSpec)

/-- ITS FALSE NEIGHBOUR: 'it returns false'. Refute it at one input. -/
def victimTellsWrong : ChangeSpec := { name := "victimTells", fn := fun _ => fun
  | [d1, d2, d3, d4, d5] => { results := [.lit (.bool false)], args := [d1, d2, d3, d4, d5] }
  | _ => none }
def VictimTellsWrongFalsely : Prop := victimTellsRow.holds Try.pinned (OpenSpec.ofChange victimTellsWrong)

/-- 'croftlaw34.PolyWithin': WHATEVER THE INPUT: true; the input reads as it did. -/
def polyWithinSpec : ChangeSpec := { name := "polyWithin", fn := fun _ => fun
  | [d1, d2] => { results := [.lit (.bool true)], args := [d1, d2] }
  | _ => none }
def polyWithinRow : OpenClaim := { program := "ytjlfpflgbanncaa", sum := "6bb3c5913e91ff3a2a392a4665fa14dae937edbf5e8b1d1a8a43a64589c006d7", func := "croft/croftlaw34.PolyWithin", spec := "polyWithin", unfollowed := true, recurses := true, apart := false }
def PolyWithinSaid : Prop := polyWithinRow.holds Try.pinned (OpenSpec.ofChange polyWithinSpec)

/-- ITS FALSE NEIGHBOUR: 'it returns false'. Refute it at one input. -/
def polyWithinWrong : ChangeSpec := { name := "polyWithin", fn := fun _ => fun
  | [d1, d2] => { results := [.lit (.bool false)], args := [d1, d2] }
  | _ => none }
def PolyWithinWrongFalsely : Prop := polyWithinRow.holds Try.pinned (OpenSpec.ofChange polyWithinWrong)

/-- 'croftlaw34.PolyCrosses': WHATEVER THE INPUT: true; the input reads as it did. -/
def polyCrossesSpec : ChangeSpec := { name := "polyCrosses", fn := fun _ => fun
  | [d1, d2, d3, d4] => { results := [.lit (.bool true)], args := [d1, d2, d3, d4] }
  | _ => none }
def polyCrossesRow : OpenClaim := { program := "ytjlfpflgbanncaa", sum := "6bb3c5913e91ff3a2a392a4665fa14dae937edbf5e8b1d1a8a43a64589c006d7", func := "croft/croftlaw34.PolyCrosses", spec := "polyCrosses", apart := false }
def PolyCrossesSaid : Prop := polyCrossesRow.holds Try.pinned (OpenSpec.ofChange polyCrossesSpec)

/-- ITS FALSE NEIGHBOUR: 'it returns false'. Refute it at one input. -/
def polyCrossesWrong : ChangeSpec := { name := "polyCrosses", fn := fun _ => fun
  | [d1, d2, d3, d4] => { results := [.lit (.bool false)], args := [d1, d2, d3, d4] }
  | _ => none }
def PolyCrossesWrongFalsely : Prop := polyCrossesRow.holds Try.pinned (OpenSpec.ofChange polyCrossesWrong)

/- THE SECOND FORM. 'bulk': how many values and letters a reading holds, each counted each time it is reached (what is shared counts as often as it is met; a slice's spare places count too). A statement '..UptoSaid' is the law's where the arguments, and the package variables that the reading takes, are together of bulk at most 1048576: NARROWER than '..Said'. Prove '..Said' where nothing that the law and all that it calls make is longer than what came in: it says more and counts as full. Else prove '..UptoSaid'. A law counts once. -/
mutual
def uptoBulk {H : Type} : DataW H → Nat
  | .lit (.string bytes) => bytes.length + 1
  | .lit _ => 1
  | .nil => 1
  | .ptr d => uptoBulk d + 1
  | .slice elems spare => uptoBulkAll elems + uptoBulkAll spare + 1
  | .agg parts => uptoBulkAll parts + 1
  | .iface _ d => uptoBulk d + 1
  | .map entries => uptoBulkEntries entries + 1
  | .held _ => 1
def uptoBulkAll {H : Type} : List (DataW H) → Nat
  | [] => 0
  | d :: r => uptoBulk d + uptoBulkAll r
def uptoBulkEntries {H : Type} : List (Lit × DataW H) → Nat
  | [] => 0
  | x :: r => uptoBulkEntry x + uptoBulkEntries r
def uptoBulkEntry {H : Type} : Lit × DataW H → Nat
  | (.string bytes, d) => bytes.length + uptoBulk d + 1
  | (_, d) => uptoBulk d + 1
 end
def uptoSmall : (H : Type) → List (DataW H) → Bool := fun _ ds => decide (uptoBulkAll ds ≤ 1048576)
def OpenSpec.upto (s : _root_.Go.ChangeSpec) : _root_.Go.OpenSpec := { _root_.Go.OpenSpec.ofChange s with cond := some uptoSmall }

/-- 'croftlaw01.LittleWrites', WHERE WHAT IT READS IS OF BULK AT MOST 1048576: true; the input reads as it did. -/
def littleWritesUptoRow : OpenClaim := { program := "ytjlfpflgbanncaa", sum := "6bb3c5913e91ff3a2a392a4665fa14dae937edbf5e8b1d1a8a43a64589c006d7", func := "croft/croftlaw01.LittleWrites", spec := "littleWrites", apart := false, narrowed := true }
def LittleWritesUptoSaid : Prop := littleWritesUptoRow.holds Try.pinned (OpenSpec.upto littleWritesSpec)

/-- 'croftlaw01.LittleReads', WHERE WHAT IT READS IS OF BULK AT MOST 1048576: true; the input reads as it did. -/
def littleReadsUptoRow : OpenClaim := { program := "ytjlfpflgbanncaa", sum := "6bb3c5913e91ff3a2a392a4665fa14dae937edbf5e8b1d1a8a43a64589c006d7", func := "croft/croftlaw01.LittleReads", spec := "littleReads", apart := false, narrowed := true }
def LittleReadsUptoSaid : Prop := littleReadsUptoRow.holds Try.pinned (OpenSpec.upto littleReadsSpec)

/-- 'croftlaw01.LittleNobody', WHERE WHAT IT READS IS OF BULK AT MOST 1048576: true; the input reads as it did. -/
def littleNobodyUptoRow : OpenClaim := { program := "ytjlfpflgbanncaa", sum := "6bb3c5913e91ff3a2a392a4665fa14dae937edbf5e8b1d1a8a43a64589c006d7", func := "croft/croftlaw01.LittleNobody", spec := "littleNobody", apart := false, narrowed := true }
def LittleNobodyUptoSaid : Prop := littleNobodyUptoRow.holds Try.pinned (OpenSpec.upto littleNobodySpec)

/-- 'croftlaw02.CrcTells', WHERE WHAT IT READS IS OF BULK AT MOST 1048576: true; the input reads as it did. -/
def crcTellsUptoRow : OpenClaim := { program := "ytjlfpflgbanncaa", sum := "6bb3c5913e91ff3a2a392a4665fa14dae937edbf5e8b1d1a8a43a64589c006d7", func := "croft/croftlaw02.CrcTells", spec := "crcTells", apart := false, narrowed := true }
def CrcTellsUptoSaid : Prop := crcTellsUptoRow.holds Try.pinned (OpenSpec.upto crcTellsSpec)

/-- 'croftlaw02.CrcTables', WHERE WHAT IT READS IS OF BULK AT MOST 1048576: true; the input reads as it did. -/
def crcTablesUptoRow : OpenClaim := { program := "ytjlfpflgbanncaa", sum := "6bb3c5913e91ff3a2a392a4665fa14dae937edbf5e8b1d1a8a43a64589c006d7", func := "croft/croftlaw02.CrcTables", spec := "crcTables", apart := false, narrowed := true }
def CrcTablesUptoSaid : Prop := crcTablesUptoRow.holds Try.pinned (OpenSpec.upto crcTablesSpec)

/-- 'croftlaw04.CellQuarters', WHERE WHAT IT READS IS OF BULK AT MOST 1048576: true; the input reads as it did. -/
def cellQuartersUptoRow : OpenClaim := { program := "ytjlfpflgbanncaa", sum := "6bb3c5913e91ff3a2a392a4665fa14dae937edbf5e8b1d1a8a43a64589c006d7", func := "croft/croftlaw04.CellQuarters", spec := "cellQuarters", apart := false, narrowed := true }
def CellQuartersUptoSaid : Prop := cellQuartersUptoRow.holds Try.pinned (OpenSpec.upto cellQuartersSpec)

/-- 'croftlaw05.ZorderTells', WHERE WHAT IT READS IS OF BULK AT MOST 1048576: true; the input reads as it did. -/
def zorderTellsUptoRow : OpenClaim := { program := "ytjlfpflgbanncaa", sum := "6bb3c5913e91ff3a2a392a4665fa14dae937edbf5e8b1d1a8a43a64589c006d7", func := "croft/croftlaw05.ZorderTells", spec := "zorderTells", apart := false, narrowed := true }
def ZorderTellsUptoSaid : Prop := zorderTellsUptoRow.holds Try.pinned (OpenSpec.upto zorderTellsSpec)

/-- 'croftlaw05.ZorderRows', WHERE WHAT IT READS IS OF BULK AT MOST 1048576: true; the input reads as it did. -/
def zorderRowsUptoRow : OpenClaim := { program := "ytjlfpflgbanncaa", sum := "6bb3c5913e91ff3a2a392a4665fa14dae937edbf5e8b1d1a8a43a64589c006d7", func := "croft/croftlaw05.ZorderRows", spec := "zorderRows", apart := false, narrowed := true }
def ZorderRowsUptoSaid : Prop := zorderRowsUptoRow.holds Try.pinned (OpenSpec.upto zorderRowsSpec)

/-- 'croftlaw06.RectCovers', WHERE WHAT IT READS IS OF BULK AT MOST 1048576: true; the input reads as it did. -/
def rectCoversUptoRow : OpenClaim := { program := "ytjlfpflgbanncaa", sum := "6bb3c5913e91ff3a2a392a4665fa14dae937edbf5e8b1d1a8a43a64589c006d7", func := "croft/croftlaw06.RectCovers", spec := "rectCovers", apart := false, narrowed := true }
def RectCoversUptoSaid : Prop := rectCoversUptoRow.holds Try.pinned (OpenSpec.upto rectCoversSpec)

/-- 'croftlaw27.VictimTells', WHERE WHAT IT READS IS OF BULK AT MOST 1048576: true; the input reads as it did. -/
def victimTellsUptoRow : OpenClaim := { program := "ytjlfpflgbanncaa", sum := "6bb3c5913e91ff3a2a392a4665fa14dae937edbf5e8b1d1a8a43a64589c006d7", func := "croft/croftlaw27.VictimTells", spec := "victimTells", apart := false, narrowed := true }
def VictimTellsUptoSaid : Prop := victimTellsUptoRow.holds Try.pinned (OpenSpec.upto victimTellsSpec)

/-- 'croftlaw34.PolyWithin', WHERE WHAT IT READS IS OF BULK AT MOST 1048576: true; the input reads as it did. -/
def polyWithinUptoRow : OpenClaim := { program := "ytjlfpflgbanncaa", sum := "6bb3c5913e91ff3a2a392a4665fa14dae937edbf5e8b1d1a8a43a64589c006d7", func := "croft/croftlaw34.PolyWithin", spec := "polyWithin", unfollowed := true, recurses := true, apart := false, narrowed := true }
def PolyWithinUptoSaid : Prop := polyWithinUptoRow.holds Try.pinned (OpenSpec.upto polyWithinSpec)

/-- 'croftlaw34.PolyCrosses', WHERE WHAT IT READS IS OF BULK AT MOST 1048576: true; the input reads as it did. -/
def polyCrossesUptoRow : OpenClaim := { program := "ytjlfpflgbanncaa", sum := "6bb3c5913e91ff3a2a392a4665fa14dae937edbf5e8b1d1a8a43a64589c006d7", func := "croft/croftlaw34.PolyCrosses", spec := "polyCrosses", apart := false, narrowed := true }
def PolyCrossesUptoSaid : Prop := polyCrossesUptoRow.holds Try.pinned (OpenSpec.upto polyCrossesSpec)

end Rows
end Go.Proofs.Ytjlfpflgbanncaa
