/-
  No cell of these rows narrows 'for every input' (looked for: loops, veiled, ifaces, maps, wideKeys, modest, calm, conditions, laid).
  DERIVED. THE GIVEN ROWS OF THIS SEAT. 4 by the template 'for every input the law returns true; each argument reads behind the call as it read before'; 0 by the template 'total and deterministic' (their statements: YtpgibngohbohdaaTotals.lean).
  GIVEN WITH THE SEED: the statements are not yours to turn. If you find one false, say at which input.
  Laid BY PROGRAM, IN A SANDBOX (cutbox-rows.mjs): the forced cells as the released guide's own fill.sh prints them over the translation 1fab2ddfd858789a… (all of the seat's roots in one cut). By AI agents, Wed Nov 11 2026. No macro, syntax, notation, axiom, sorry.
-/
import Derived.Test.YtpgibngohbohdaaChecked
import GoSem.Claim
import GoSem.ClaimJoined
import GoSem.ClaimMapViews
import Derived.JoinedTies
import Derived.KernelRfl
namespace Go.Proofs.Ytpgibngohbohdaa
/- THE CELL 'sum', in the pinned program and in every row, IS THE sha256 OF THE DUMP (.gsa) THAT YtpgibngohbohdaaProg.lean LOADS. Nothing in Lean hashes anything: it is a label: what it is worth is what the hold of that sum in a sandbox is worth. -/
noncomputable def Try.pinned : Pinned := { name := "ytpgibngohbohdaa", sum := "1fab2ddfd858789a32514f491f791a84e5a97f03b4191c9384d204ab8d88a23b", checked := Try.checked }
namespace Rows
def none {H : Type} : Left H := { results := [], args := [] }

/-- 'croftlaw14.DiskRuns': WHATEVER THE INPUT: true; the input reads as it did. -/
def diskRunsSpec : ChangeSpec := { name := "diskRuns", fn := fun _ => fun
  | [d1, d2] => { results := [.lit (.bool true)], args := [d1, d2] }
  | _ => none }
def diskRunsRow : OpenClaim := { program := "ytpgibngohbohdaa", sum := "1fab2ddfd858789a32514f491f791a84e5a97f03b4191c9384d204ab8d88a23b", func := "croft/croftlaw14.DiskRuns", spec := "diskRuns", unfollowed := true, recurses := true, apart := false }
def DiskRunsSaid : Prop := diskRunsRow.holds Try.pinned (OpenSpec.ofChange diskRunsSpec)

/-- ITS FALSE NEIGHBOUR: 'it returns false'. Refute it at one input. -/
def diskRunsWrong : ChangeSpec := { name := "diskRuns", fn := fun _ => fun
  | [d1, d2] => { results := [.lit (.bool false)], args := [d1, d2] }
  | _ => none }
def DiskRunsWrongFalsely : Prop := diskRunsRow.holds Try.pinned (OpenSpec.ofChange diskRunsWrong)

/-- 'croftlaw19.SeglogBack': WHATEVER THE INPUT: true; the input reads as it did. -/
def seglogBackSpec : ChangeSpec := { name := "seglogBack", fn := fun _ => fun
  | [d1, d2, d3, d4, d5, d6] => { results := [.lit (.bool true)], args := [d1, d2, d3, d4, d5, d6] }
  | _ => none }
def seglogBackRow : OpenClaim := { program := "ytpgibngohbohdaa", sum := "1fab2ddfd858789a32514f491f791a84e5a97f03b4191c9384d204ab8d88a23b", func := "croft/croftlaw19.SeglogBack", spec := "seglogBack", unfollowed := true, recurses := true, apart := false }
def SeglogBackSaid : Prop := seglogBackRow.holds Try.pinned (OpenSpec.ofChange seglogBackSpec)

/-- ITS FALSE NEIGHBOUR: 'it returns false'. Refute it at one input. -/
def seglogBackWrong : ChangeSpec := { name := "seglogBack", fn := fun _ => fun
  | [d1, d2, d3, d4, d5, d6] => { results := [.lit (.bool false)], args := [d1, d2, d3, d4, d5, d6] }
  | _ => none }
def SeglogBackWrongFalsely : Prop := seglogBackRow.holds Try.pinned (OpenSpec.ofChange seglogBackWrong)

/-- 'croftlaw19.SeglogFails': WHATEVER THE INPUT: true; the input reads as it did. -/
def seglogFailsSpec : ChangeSpec := { name := "seglogFails", fn := fun _ => fun
  | [d1, d2, d3] => { results := [.lit (.bool true)], args := [d1, d2, d3] }
  | _ => none }
def seglogFailsRow : OpenClaim := { program := "ytpgibngohbohdaa", sum := "1fab2ddfd858789a32514f491f791a84e5a97f03b4191c9384d204ab8d88a23b", func := "croft/croftlaw19.SeglogFails", spec := "seglogFails", unfollowed := true, recurses := true, apart := false }
def SeglogFailsSaid : Prop := seglogFailsRow.holds Try.pinned (OpenSpec.ofChange seglogFailsSpec)

/-- ITS FALSE NEIGHBOUR: 'it returns false'. Refute it at one input. -/
def seglogFailsWrong : ChangeSpec := { name := "seglogFails", fn := fun _ => fun
  | [d1, d2, d3] => { results := [.lit (.bool false)], args := [d1, d2, d3] }
  | _ => none }
def SeglogFailsWrongFalsely : Prop := seglogFailsRow.holds Try.pinned (OpenSpec.ofChange seglogFailsWrong)

/-- 'croftlaw22.GroveApart': WHATEVER THE INPUT: true; the input reads as it did. -/
def groveApartSpec : ChangeSpec := { name := "groveApart", fn := fun _ => fun
  | [d1, d2, d3] => { results := [.lit (.bool true)], args := [d1, d2, d3] }
  | _ => none }
def groveApartRow : OpenClaim := { program := "ytpgibngohbohdaa", sum := "1fab2ddfd858789a32514f491f791a84e5a97f03b4191c9384d204ab8d88a23b", func := "croft/croftlaw22.GroveApart", spec := "groveApart", inPlace := ["maps.clone"], unfollowed := true, recurses := true, apart := false }
def GroveApartSaid : Prop := groveApartRow.holds Try.pinned (OpenSpec.ofChange groveApartSpec)

/-- ITS FALSE NEIGHBOUR: 'it returns false'. Refute it at one input. -/
def groveApartWrong : ChangeSpec := { name := "groveApart", fn := fun _ => fun
  | [d1, d2, d3] => { results := [.lit (.bool false)], args := [d1, d2, d3] }
  | _ => none }
def GroveApartWrongFalsely : Prop := groveApartRow.holds Try.pinned (OpenSpec.ofChange groveApartWrong)

/- THE SECOND FORM. 'bulk': how many values and letters a reading holds, each counted each time it is reached (what is shared counts as often as it is met; a slice's spare places count too). A statement '..UptoSaid' is the law's where the arguments, and the package variables that the reading takes, are together of bulk at most 1048576: NARROWER than '..Said'. Prove '..Said' where nothing that the law and all that it calls make is longer than what came in: it says more and counts as full. Else prove '..UptoSaid'. A law counts once. -/
mutual
def uptoBulk {H : Type} : DataW H → Nat
  | .lit (.string bytes) => bytes.length + 1
  | .lit _ => 1
  | .nil => 1
  | .ptr d => uptoBulk d + 1
  | .slice elems spare => uptoBulkAll elems + uptoBulkAll spare + 1
  | .agg parts => uptoBulkAll parts + 1
  | .iface _ d => uptoBulk d + 1
  | .map entries => uptoBulkEntries entries + 1
  | .held _ => 1
def uptoBulkAll {H : Type} : List (DataW H) → Nat
  | [] => 0
  | d :: r => uptoBulk d + uptoBulkAll r
def uptoBulkEntries {H : Type} : List (Lit × DataW H) → Nat
  | [] => 0
  | x :: r => uptoBulkEntry x + uptoBulkEntries r
def uptoBulkEntry {H : Type} : Lit × DataW H → Nat
  | (.string bytes, d) => bytes.length + uptoBulk d + 1
  | (_, d) => uptoBulk d + 1
 end
def uptoSmall : (H : Type) → List (DataW H) → Bool := fun _ ds => decide (uptoBulkAll ds ≤ 1048576)
def OpenSpec.upto (s : _root_.Go.ChangeSpec) : _root_.Go.OpenSpec := { _root_.Go.OpenSpec.ofChange s with cond := some uptoSmall }

/-- 'croftlaw14.DiskRuns', WHERE WHAT IT READS IS OF BULK AT MOST 1048576: true; the input reads as it did. -/
def diskRunsUptoRow : OpenClaim := { program := "ytpgibngohbohdaa", sum := "1fab2ddfd858789a32514f491f791a84e5a97f03b4191c9384d204ab8d88a23b", func := "croft/croftlaw14.DiskRuns", spec := "diskRuns", unfollowed := true, recurses := true, apart := false, narrowed := true }
def DiskRunsUptoSaid : Prop := diskRunsUptoRow.holds Try.pinned (OpenSpec.upto diskRunsSpec)

/-- 'croftlaw19.SeglogBack', WHERE WHAT IT READS IS OF BULK AT MOST 1048576: true; the input reads as it did. -/
def seglogBackUptoRow : OpenClaim := { program := "ytpgibngohbohdaa", sum := "1fab2ddfd858789a32514f491f791a84e5a97f03b4191c9384d204ab8d88a23b", func := "croft/croftlaw19.SeglogBack", spec := "seglogBack", unfollowed := true, recurses := true, apart := false, narrowed := true }
def SeglogBackUptoSaid : Prop := seglogBackUptoRow.holds Try.pinned (OpenSpec.upto seglogBackSpec)

/-- 'croftlaw19.SeglogFails', WHERE WHAT IT READS IS OF BULK AT MOST 1048576: true; the input reads as it did. -/
def seglogFailsUptoRow : OpenClaim := { program := "ytpgibngohbohdaa", sum := "1fab2ddfd858789a32514f491f791a84e5a97f03b4191c9384d204ab8d88a23b", func := "croft/croftlaw19.SeglogFails", spec := "seglogFails", unfollowed := true, recurses := true, apart := false, narrowed := true }
def SeglogFailsUptoSaid : Prop := seglogFailsUptoRow.holds Try.pinned (OpenSpec.upto seglogFailsSpec)

/-- 'croftlaw22.GroveApart', WHERE WHAT IT READS IS OF BULK AT MOST 1048576: true; the input reads as it did. -/
def groveApartUptoRow : OpenClaim := { program := "ytpgibngohbohdaa", sum := "1fab2ddfd858789a32514f491f791a84e5a97f03b4191c9384d204ab8d88a23b", func := "croft/croftlaw22.GroveApart", spec := "groveApart", inPlace := ["maps.clone"], unfollowed := true, recurses := true, apart := false, narrowed := true }
def GroveApartUptoSaid : Prop := groveApartUptoRow.holds Try.pinned (OpenSpec.upto groveApartSpec)

end Rows
end Go.Proofs.Ytpgibngohbohdaa
