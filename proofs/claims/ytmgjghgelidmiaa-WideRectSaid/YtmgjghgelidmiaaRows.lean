/-
  No cell of these rows narrows 'for every input' (looked for: loops, veiled, ifaces, maps, wideKeys, modest, calm, conditions, laid).
  DERIVED. THE GIVEN ROWS OF THIS SEAT. 8 by the template 'for every input the law returns true; each argument reads behind the call as it read before'; 0 by the template 'total and deterministic' (their statements: YtmgjghgelidmiaaTotals.lean).
  GIVEN WITH THE SEED: the statements are not yours to turn. If you find one false, say at which input.
  Laid BY PROGRAM, IN A SANDBOX (cutbox-rows.mjs): the forced cells as the released guide's own fill.sh prints them over the translation 21c9758174d1e600… (all of the seat's roots in one cut). By AI agents, Wed Nov 11 2026. No macro, syntax, notation, axiom, sorry.
-/
import Derived.Test.YtmgjghgelidmiaaChecked
import GoSem.Claim
import GoSem.ClaimJoined
import GoSem.ClaimMapViews
import Derived.JoinedTies
import Derived.KernelRfl
namespace Go.Proofs.Ytmgjghgelidmiaa
/- THE CELL 'sum', in the pinned program and in every row, IS THE sha256 OF THE DUMP (.gsa) THAT YtmgjghgelidmiaaProg.lean LOADS. Nothing in Lean hashes anything: it is a label: what it is worth is what the hold of that sum in a sandbox is worth. -/
noncomputable def Try.pinned : Pinned := { name := "ytmgjghgelidmiaa", sum := "21c9758174d1e600ba6a5d307f4f3caf1136d64b90b8d56d922a7926d27dd008", checked := Try.checked }
namespace Rows
def none {H : Type} : Left H := { results := [], args := [] }

/-- 'croftlaw01.LittleWrites': WHATEVER THE INPUT: true; the input reads as it did. -/
def littleWritesSpec : ChangeSpec := { name := "littleWrites", fn := fun _ => fun
  | [d1, d2] => { results := [.lit (.bool true)], args := [d1, d2] }
  | _ => none }
def littleWritesRow : OpenClaim := { program := "ytmgjghgelidmiaa", sum := "21c9758174d1e600ba6a5d307f4f3caf1136d64b90b8d56d922a7926d27dd008", func := "croft/croftlaw01.LittleWrites", spec := "littleWrites", apart := false }
def LittleWritesSaid : Prop := littleWritesRow.holds Try.pinned (OpenSpec.ofChange littleWritesSpec)

/-- ITS FALSE NEIGHBOUR: 'it returns false'. Refute it at one input. -/
def littleWritesWrong : ChangeSpec := { name := "littleWrites", fn := fun _ => fun
  | [d1, d2] => { results := [.lit (.bool false)], args := [d1, d2] }
  | _ => none }
def LittleWritesWrongFalsely : Prop := littleWritesRow.holds Try.pinned (OpenSpec.ofChange littleWritesWrong)

/-- 'croftlaw01.LittleReads': WHATEVER THE INPUT: true; the input reads as it did. -/
def littleReadsSpec : ChangeSpec := { name := "littleReads", fn := fun _ => fun
  | [d1, d2] => { results := [.lit (.bool true)], args := [d1, d2] }
  | _ => none }
def littleReadsRow : OpenClaim := { program := "ytmgjghgelidmiaa", sum := "21c9758174d1e600ba6a5d307f4f3caf1136d64b90b8d56d922a7926d27dd008", func := "croft/croftlaw01.LittleReads", spec := "littleReads", apart := false }
def LittleReadsSaid : Prop := littleReadsRow.holds Try.pinned (OpenSpec.ofChange littleReadsSpec)

/-- ITS FALSE NEIGHBOUR: 'it returns false'. Refute it at one input. -/
def littleReadsWrong : ChangeSpec := { name := "littleReads", fn := fun _ => fun
  | [d1, d2] => { results := [.lit (.bool false)], args := [d1, d2] }
  | _ => none }
def LittleReadsWrongFalsely : Prop := littleReadsRow.holds Try.pinned (OpenSpec.ofChange littleReadsWrong)

/-- 'croftlaw01.LittleNobody': WHATEVER THE INPUT: true; the input reads as it did. -/
def littleNobodySpec : ChangeSpec := { name := "littleNobody", fn := fun _ => fun
  | [d1, d2] => { results := [.lit (.bool true)], args := [d1, d2] }
  | _ => none }
def littleNobodyRow : OpenClaim := { program := "ytmgjghgelidmiaa", sum := "21c9758174d1e600ba6a5d307f4f3caf1136d64b90b8d56d922a7926d27dd008", func := "croft/croftlaw01.LittleNobody", spec := "littleNobody", apart := false }
def LittleNobodySaid : Prop := littleNobodyRow.holds Try.pinned (OpenSpec.ofChange littleNobodySpec)

/-- ITS FALSE NEIGHBOUR: 'it returns false'. Refute it at one input. -/
def littleNobodyWrong : ChangeSpec := { name := "littleNobody", fn := fun _ => fun
  | [d1, d2] => { results := [.lit (.bool false)], args := [d1, d2] }
  | _ => none }
def LittleNobodyWrongFalsely : Prop := littleNobodyRow.holds Try.pinned (OpenSpec.ofChange littleNobodyWrong)

/-- 'croftlaw02.CrcTells': WHATEVER THE INPUT: true; the input reads as it did. -/
def crcTellsSpec : ChangeSpec := { name := "crcTells", fn := fun _ => fun
  | [d1, d2, d3] => { results := [.lit (.bool true)], args := [d1, d2, d3] }
  | _ => none }
def crcTellsRow : OpenClaim := { program := "ytmgjghgelidmiaa", sum := "21c9758174d1e600ba6a5d307f4f3caf1136d64b90b8d56d922a7926d27dd008", func := "croft/croftlaw02.CrcTells", spec := "crcTells", apart := false }
def CrcTellsSaid : Prop := crcTellsRow.holds Try.pinned (OpenSpec.ofChange crcTellsSpec)

/-- ITS FALSE NEIGHBOUR: 'it returns false'. Refute it at one input. -/
def crcTellsWrong : ChangeSpec := { name := "crcTells", fn := fun _ => fun
  | [d1, d2, d3] => { results := [.lit (.bool false)], args := [d1, d2, d3] }
  | _ => none }
def CrcTellsWrongFalsely : Prop := crcTellsRow.holds Try.pinned (OpenSpec.ofChange crcTellsWrong)

/-- 'croftlaw02.CrcTables': WHATEVER THE INPUT: true; the input reads as it did. -/
def crcTablesSpec : ChangeSpec := { name := "crcTables", fn := fun _ => fun
  | [d1, d2] => { results := [.lit (.bool true)], args := [d1, d2] }
  | _ => none }
def crcTablesRow : OpenClaim := { program := "ytmgjghgelidmiaa", sum := "21c9758174d1e600ba6a5d307f4f3caf1136d64b90b8d56d922a7926d27dd008", func := "croft/croftlaw02.CrcTables", spec := "crcTables", apart := false }
def CrcTablesSaid : Prop := crcTablesRow.holds Try.pinned (OpenSpec.ofChange crcTablesSpec)

/-- ITS FALSE NEIGHBOUR: 'it returns false'. Refute it at one input. -/
def crcTablesWrong : ChangeSpec := { name := "crcTables", fn := fun _ => fun
  | [d1, d2] => { results := [.lit (.bool false)], args := [d1, d2] }
  | _ => none }
def CrcTablesWrongFalsely : Prop := crcTablesRow.holds Try.pinned (OpenSpec.ofChange crcTablesWrong)

/-- 'croftlaw03.WideTells': WHATEVER THE INPUT: true; the input reads as it did. -/
def wideTellsSpec : ChangeSpec := { name := "wideTells", fn := fun _ => fun
  | [d1, d2, d3, d4, d5, d6] => { results := [.lit (.bool true)], args := [d1, d2, d3, d4, d5, d6] }
  | _ => none }
def wideTellsRow : OpenClaim := { program := "ytmgjghgelidmiaa", sum := "21c9758174d1e600ba6a5d307f4f3caf1136d64b90b8d56d922a7926d27dd008", func := "croft/croftlaw03.WideTells", spec := "wideTells", inPlace := ["math/bits.Add64"], apart := false }
def WideTellsSaid : Prop := wideTellsRow.holds Try.pinned (OpenSpec.ofChange wideTellsSpec)

/-- ITS FALSE NEIGHBOUR: 'it returns false'. Refute it at one input. -/
def wideTellsWrong : ChangeSpec := { name := "wideTells", fn := fun _ => fun
  | [d1, d2, d3, d4, d5, d6] => { results := [.lit (.bool false)], args := [d1, d2, d3, d4, d5, d6] }
  | _ => none }
def WideTellsWrongFalsely : Prop := wideTellsRow.holds Try.pinned (OpenSpec.ofChange wideTellsWrong)

/-- 'croftlaw03.WideAdds': WHATEVER THE INPUT: true; the input reads as it did. -/
def wideAddsSpec : ChangeSpec := { name := "wideAdds", fn := fun _ => fun
  | [d1, d2] => { results := [.lit (.bool true)], args := [d1, d2] }
  | _ => none }
def wideAddsRow : OpenClaim := { program := "ytmgjghgelidmiaa", sum := "21c9758174d1e600ba6a5d307f4f3caf1136d64b90b8d56d922a7926d27dd008", func := "croft/croftlaw03.WideAdds", spec := "wideAdds", inPlace := ["math/bits.Add64"], apart := false }
def WideAddsSaid : Prop := wideAddsRow.holds Try.pinned (OpenSpec.ofChange wideAddsSpec)

/-- ITS FALSE NEIGHBOUR: 'it returns false'. Refute it at one input. -/
def wideAddsWrong : ChangeSpec := { name := "wideAdds", fn := fun _ => fun
  | [d1, d2] => { results := [.lit (.bool false)], args := [d1, d2] }
  | _ => none }
def WideAddsWrongFalsely : Prop := wideAddsRow.holds Try.pinned (OpenSpec.ofChange wideAddsWrong)

/-- 'croftlaw03.WideRect': WHATEVER THE INPUT: true; the input reads as it did. -/
def wideRectSpec : ChangeSpec := { name := "wideRect", fn := fun _ => fun
  | [d1, d2, d3, d4, d5] => { results := [.lit (.bool true)], args := [d1, d2, d3, d4, d5] }
  | _ => none }
def wideRectRow : OpenClaim := { program := "ytmgjghgelidmiaa", sum := "21c9758174d1e600ba6a5d307f4f3caf1136d64b90b8d56d922a7926d27dd008", func := "croft/croftlaw03.WideRect", spec := "wideRect", inPlace := ["math/bits.Add64"], apart := false }
def WideRectSaid : Prop := wideRectRow.holds Try.pinned (OpenSpec.ofChange wideRectSpec)

/-- ITS FALSE NEIGHBOUR: 'it returns false'. Refute it at one input. -/
def wideRectWrong : ChangeSpec := { name := "wideRect", fn := fun _ => fun
  | [d1, d2, d3, d4, d5] => { results := [.lit (.bool false)], args := [d1, d2, d3, d4, d5] }
  | _ => none }
def WideRectWrongFalsely : Prop := wideRectRow.holds Try.pinned (OpenSpec.ofChange wideRectWrong)

/- THE SECOND FORM. 'bulk': how many values and letters a reading holds, each counted each time it is reached (what is shared counts as often as it is met; a slice's spare places count too). A statement '..UptoSaid' is the law's where the arguments, and the package variables that the reading takes, are together of bulk at most 1048576: NARROWER than '..Said'. Prove '..Said' where nothing that the law and all that it calls make is longer than what came in: it says more and counts as full. Else prove '..UptoSaid'. A law counts once. -/
mutual
def uptoBulk {H : Type} : DataW H → Nat
  | .lit (.string bytes) => bytes.length + 1
  | .lit _ => 1
  | .nil => 1
  | .ptr d => uptoBulk d + 1
  | .slice elems spare => uptoBulkAll elems + uptoBulkAll spare + 1
  | .agg parts => uptoBulkAll parts + 1
  | .iface _ d => uptoBulk d + 1
  | .map entries => uptoBulkEntries entries + 1
  | .held _ => 1
def uptoBulkAll {H : Type} : List (DataW H) → Nat
  | [] => 0
  | d :: r => uptoBulk d + uptoBulkAll r
def uptoBulkEntries {H : Type} : List (Lit × DataW H) → Nat
  | [] => 0
  | x :: r => uptoBulkEntry x + uptoBulkEntries r
def uptoBulkEntry {H : Type} : Lit × DataW H → Nat
  | (.string bytes, d) => bytes.length + uptoBulk d + 1
  | (_, d) => uptoBulk d + 1
 end
def uptoSmall : (H : Type) → List (DataW H) → Bool := fun _ ds => decide (uptoBulkAll ds ≤ 1048576)
def OpenSpec.upto (s : _root_.Go.ChangeSpec) : _root_.Go.OpenSpec := { _root_.Go.OpenSpec.ofChange s with cond := some uptoSmall }

/-- 'croftlaw01.LittleWrites', WHERE WHAT IT READS IS OF BULK AT MOST 1048576: true; the input reads as it did. -/
def littleWritesUptoRow : OpenClaim := { program := "ytmgjghgelidmiaa", sum := "21c9758174d1e600ba6a5d307f4f3caf1136d64b90b8d56d922a7926d27dd008", func := "croft/croftlaw01.LittleWrites", spec := "littleWrites", apart := false, narrowed := true }
def LittleWritesUptoSaid : Prop := littleWritesUptoRow.holds Try.pinned (OpenSpec.upto littleWritesSpec)

/-- 'croftlaw01.LittleReads', WHERE WHAT IT READS IS OF BULK AT MOST 1048576: true; the input reads as it did. -/
def littleReadsUptoRow : OpenClaim := { program := "ytmgjghgelidmiaa", sum := "21c9758174d1e600ba6a5d307f4f3caf1136d64b90b8d56d922a7926d27dd008", func := "croft/croftlaw01.LittleReads", spec := "littleReads", apart := false, narrowed := true }
def LittleReadsUptoSaid : Prop := littleReadsUptoRow.holds Try.pinned (OpenSpec.upto littleReadsSpec)

/-- 'croftlaw01.LittleNobody', WHERE WHAT IT READS IS OF BULK AT MOST 1048576: true; the input reads as it did. -/
def littleNobodyUptoRow : OpenClaim := { program := "ytmgjghgelidmiaa", sum := "21c9758174d1e600ba6a5d307f4f3caf1136d64b90b8d56d922a7926d27dd008", func := "croft/croftlaw01.LittleNobody", spec := "littleNobody", apart := false, narrowed := true }
def LittleNobodyUptoSaid : Prop := littleNobodyUptoRow.holds Try.pinned (OpenSpec.upto littleNobodySpec)

/-- 'croftlaw02.CrcTells', WHERE WHAT IT READS IS OF BULK AT MOST 1048576: true; the input reads as it did. -/
def crcTellsUptoRow : OpenClaim := { program := "ytmgjghgelidmiaa", sum := "21c9758174d1e600ba6a5d307f4f3caf1136d64b90b8d56d922a7926d27dd008", func := "croft/croftlaw02.CrcTells", spec := "crcTells", apart := false, narrowed := true }
def CrcTellsUptoSaid : Prop := crcTellsUptoRow.holds Try.pinned (OpenSpec.upto crcTellsSpec)

/-- 'croftlaw02.CrcTables', WHERE WHAT IT READS IS OF BULK AT MOST 1048576: true; the input reads as it did. -/
def crcTablesUptoRow : OpenClaim := { program := "ytmgjghgelidmiaa", sum := "21c9758174d1e600ba6a5d307f4f3caf1136d64b90b8d56d922a7926d27dd008", func := "croft/croftlaw02.CrcTables", spec := "crcTables", apart := false, narrowed := true }
def CrcTablesUptoSaid : Prop := crcTablesUptoRow.holds Try.pinned (OpenSpec.upto crcTablesSpec)

/-- 'croftlaw03.WideTells', WHERE WHAT IT READS IS OF BULK AT MOST 1048576: true; the input reads as it did. -/
def wideTellsUptoRow : OpenClaim := { program := "ytmgjghgelidmiaa", sum := "21c9758174d1e600ba6a5d307f4f3caf1136d64b90b8d56d922a7926d27dd008", func := "croft/croftlaw03.WideTells", spec := "wideTells", inPlace := ["math/bits.Add64"], apart := false, narrowed := true }
def WideTellsUptoSaid : Prop := wideTellsUptoRow.holds Try.pinned (OpenSpec.upto wideTellsSpec)

/-- 'croftlaw03.WideAdds', WHERE WHAT IT READS IS OF BULK AT MOST 1048576: true; the input reads as it did. -/
def wideAddsUptoRow : OpenClaim := { program := "ytmgjghgelidmiaa", sum := "21c9758174d1e600ba6a5d307f4f3caf1136d64b90b8d56d922a7926d27dd008", func := "croft/croftlaw03.WideAdds", spec := "wideAdds", inPlace := ["math/bits.Add64"], apart := false, narrowed := true }
def WideAddsUptoSaid : Prop := wideAddsUptoRow.holds Try.pinned (OpenSpec.upto wideAddsSpec)

/-- 'croftlaw03.WideRect', WHERE WHAT IT READS IS OF BULK AT MOST 1048576: true; the input reads as it did. -/
def wideRectUptoRow : OpenClaim := { program := "ytmgjghgelidmiaa", sum := "21c9758174d1e600ba6a5d307f4f3caf1136d64b90b8d56d922a7926d27dd008", func := "croft/croftlaw03.WideRect", spec := "wideRect", inPlace := ["math/bits.Add64"], apart := false, narrowed := true }
def WideRectUptoSaid : Prop := wideRectUptoRow.holds Try.pinned (OpenSpec.upto wideRectSpec)

end Rows
end Go.Proofs.Ytmgjghgelidmiaa
