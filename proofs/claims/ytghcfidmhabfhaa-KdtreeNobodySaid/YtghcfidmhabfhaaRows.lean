/-
  No cell of these rows narrows 'for every input' (looked for: loops, veiled, ifaces, maps, wideKeys, modest, calm, conditions, laid).
  DERIVED. THE GIVEN ROWS OF THIS SEAT. 3 by the template 'for every input the law returns true; each argument reads behind the call as it read before'; 0 by the template 'total and deterministic' (their statements: YtghcfidmhabfhaaTotals.lean).
  GIVEN WITH THE SEED: the statements are not yours to turn. If you find one false, say at which input.
  Laid BY PROGRAM, IN A SANDBOX (cutbox-rows.mjs): the forced cells as the released guide's own fill.sh prints them over the translation ae7d4ed13bb34349… (all of the seat's roots in one cut). By AI agents, Wed Nov 11 2026. No macro, syntax, notation, axiom, sorry.
-/
import Derived.Test.YtghcfidmhabfhaaChecked
import GoSem.Claim
import GoSem.ClaimJoined
import GoSem.ClaimMapViews
import Derived.JoinedTies
import Derived.KernelRfl
namespace Go.Proofs.Ytghcfidmhabfhaa
/- THE CELL 'sum', in the pinned program and in every row, IS THE sha256 OF THE DUMP (.gsa) THAT YtghcfidmhabfhaaProg.lean LOADS. Nothing in Lean hashes anything: it is a label: what it is worth is what the hold of that sum in a sandbox is worth. -/
noncomputable def Try.pinned : Pinned := { name := "ytghcfidmhabfhaa", sum := "ae7d4ed13bb34349389760f57ca31725400b251026b3439b61f0b2b695f5cf67", checked := Try.checked }
namespace Rows
def none {H : Type} : Left H := { results := [], args := [] }

/-- 'croftlaw14.DiskNobody': WHATEVER THE INPUT: true; the input reads as it did. -/
def diskNobodySpec : ChangeSpec := { name := "diskNobody", fn := fun _ => fun
  | [d1, d2, d3] => { results := [.lit (.bool true)], args := [d1, d2, d3] }
  | _ => none }
def diskNobodyRow : OpenClaim := { program := "ytghcfidmhabfhaa", sum := "ae7d4ed13bb34349389760f57ca31725400b251026b3439b61f0b2b695f5cf67", func := "croft/croftlaw14.DiskNobody", spec := "diskNobody", unfollowed := true, recurses := true, apart := false }
def DiskNobodySaid : Prop := diskNobodyRow.holds Try.pinned (OpenSpec.ofChange diskNobodySpec)

/-- ITS FALSE NEIGHBOUR: 'it returns false'. Refute it at one input. -/
def diskNobodyWrong : ChangeSpec := { name := "diskNobody", fn := fun _ => fun
  | [d1, d2, d3] => { results := [.lit (.bool false)], args := [d1, d2, d3] }
  | _ => none }
def DiskNobodyWrongFalsely : Prop := diskNobodyRow.holds Try.pinned (OpenSpec.ofChange diskNobodyWrong)

/-- 'croftlaw22.GroveNobody': WHATEVER THE INPUT: true; the input reads as it did. -/
def groveNobodySpec : ChangeSpec := { name := "groveNobody", fn := fun _ => fun
  | [d1, d2] => { results := [.lit (.bool true)], args := [d1, d2] }
  | _ => none }
def groveNobodyRow : OpenClaim := { program := "ytghcfidmhabfhaa", sum := "ae7d4ed13bb34349389760f57ca31725400b251026b3439b61f0b2b695f5cf67", func := "croft/croftlaw22.GroveNobody", spec := "groveNobody", inPlace := ["maps.clone"], unfollowed := true, recurses := true, apart := false }
def GroveNobodySaid : Prop := groveNobodyRow.holds Try.pinned (OpenSpec.ofChange groveNobodySpec)

/-- ITS FALSE NEIGHBOUR: 'it returns false'. Refute it at one input. -/
def groveNobodyWrong : ChangeSpec := { name := "groveNobody", fn := fun _ => fun
  | [d1, d2] => { results := [.lit (.bool false)], args := [d1, d2] }
  | _ => none }
def GroveNobodyWrongFalsely : Prop := groveNobodyRow.holds Try.pinned (OpenSpec.ofChange groveNobodyWrong)

/-- 'croftlaw44.KdtreeNobody': WHATEVER THE INPUT: true; the input reads as it did. -/
def kdtreeNobodySpec : ChangeSpec := { name := "kdtreeNobody", fn := fun _ => fun
  | [d1, d2] => { results := [.lit (.bool true)], args := [d1, d2] }
  | _ => none }
def kdtreeNobodyRow : OpenClaim := { program := "ytghcfidmhabfhaa", sum := "ae7d4ed13bb34349389760f57ca31725400b251026b3439b61f0b2b695f5cf67", func := "croft/croftlaw44.KdtreeNobody", spec := "kdtreeNobody", inPlace := ["math/bits.Add64", "slices.overlaps[croft/api.Point]"], unfollowed := true, recurses := true, apart := false }
def KdtreeNobodySaid : Prop := kdtreeNobodyRow.holds Try.pinned (OpenSpec.ofChange kdtreeNobodySpec)

/-- ITS FALSE NEIGHBOUR: 'it returns false'. Refute it at one input. -/
def kdtreeNobodyWrong : ChangeSpec := { name := "kdtreeNobody", fn := fun _ => fun
  | [d1, d2] => { results := [.lit (.bool false)], args := [d1, d2] }
  | _ => none }
def KdtreeNobodyWrongFalsely : Prop := kdtreeNobodyRow.holds Try.pinned (OpenSpec.ofChange kdtreeNobodyWrong)

/- THE SECOND FORM. 'bulk': how many values and letters a reading holds, each counted each time it is reached (what is shared counts as often as it is met; a slice's spare places count too). A statement '..UptoSaid' is the law's where the arguments, and the package variables that the reading takes, are together of bulk at most 1048576: NARROWER than '..Said'. Prove '..Said' where nothing that the law and all that it calls make is longer than what came in: it says more and counts as full. Else prove '..UptoSaid'. A law counts once. -/
mutual
def uptoBulk {H : Type} : DataW H → Nat
  | .lit (.string bytes) => bytes.length + 1
  | .lit _ => 1
  | .nil => 1
  | .ptr d => uptoBulk d + 1
  | .slice elems spare => uptoBulkAll elems + uptoBulkAll spare + 1
  | .agg parts => uptoBulkAll parts + 1
  | .iface _ d => uptoBulk d + 1
  | .map entries => uptoBulkEntries entries + 1
  | .held _ => 1
def uptoBulkAll {H : Type} : List (DataW H) → Nat
  | [] => 0
  | d :: r => uptoBulk d + uptoBulkAll r
def uptoBulkEntries {H : Type} : List (Lit × DataW H) → Nat
  | [] => 0
  | x :: r => uptoBulkEntry x + uptoBulkEntries r
def uptoBulkEntry {H : Type} : Lit × DataW H → Nat
  | (.string bytes, d) => bytes.length + uptoBulk d + 1
  | (_, d) => uptoBulk d + 1
 end
def uptoSmall : (H : Type) → List (DataW H) → Bool := fun _ ds => decide (uptoBulkAll ds ≤ 1048576)
def OpenSpec.upto (s : _root_.Go.ChangeSpec) : _root_.Go.OpenSpec := { _root_.Go.OpenSpec.ofChange s with cond := some uptoSmall }

/-- 'croftlaw14.DiskNobody', WHERE WHAT IT READS IS OF BULK AT MOST 1048576: true; the input reads as it did. -/
def diskNobodyUptoRow : OpenClaim := { program := "ytghcfidmhabfhaa", sum := "ae7d4ed13bb34349389760f57ca31725400b251026b3439b61f0b2b695f5cf67", func := "croft/croftlaw14.DiskNobody", spec := "diskNobody", unfollowed := true, recurses := true, apart := false, narrowed := true }
def DiskNobodyUptoSaid : Prop := diskNobodyUptoRow.holds Try.pinned (OpenSpec.upto diskNobodySpec)

/-- 'croftlaw22.GroveNobody', WHERE WHAT IT READS IS OF BULK AT MOST 1048576: true; the input reads as it did. -/
def groveNobodyUptoRow : OpenClaim := { program := "ytghcfidmhabfhaa", sum := "ae7d4ed13bb34349389760f57ca31725400b251026b3439b61f0b2b695f5cf67", func := "croft/croftlaw22.GroveNobody", spec := "groveNobody", inPlace := ["maps.clone"], unfollowed := true, recurses := true, apart := false, narrowed := true }
def GroveNobodyUptoSaid : Prop := groveNobodyUptoRow.holds Try.pinned (OpenSpec.upto groveNobodySpec)

/-- 'croftlaw44.KdtreeNobody', WHERE WHAT IT READS IS OF BULK AT MOST 1048576: true; the input reads as it did. -/
def kdtreeNobodyUptoRow : OpenClaim := { program := "ytghcfidmhabfhaa", sum := "ae7d4ed13bb34349389760f57ca31725400b251026b3439b61f0b2b695f5cf67", func := "croft/croftlaw44.KdtreeNobody", spec := "kdtreeNobody", inPlace := ["math/bits.Add64", "slices.overlaps[croft/api.Point]"], unfollowed := true, recurses := true, apart := false, narrowed := true }
def KdtreeNobodyUptoSaid : Prop := kdtreeNobodyUptoRow.holds Try.pinned (OpenSpec.upto kdtreeNobodySpec)

end Rows
end Go.Proofs.Ytghcfidmhabfhaa
