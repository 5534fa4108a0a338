/-
  No cell of these rows narrows 'for every input' (looked for: loops, veiled, ifaces, maps, wideKeys, modest, calm, conditions, laid).
  DERIVED. THE GIVEN ROWS OF THIS SEAT. 6 by the template 'for every input the law returns true; each argument reads behind the call as it read before'; 0 by the template 'total and deterministic' (their statements: YtjenhnigdgkkoaaTotals.lean).
  GIVEN WITH THE SEED: the statements are not yours to turn. If you find one false, say at which input.
  Laid BY PROGRAM, IN A SANDBOX (cutbox-rows.mjs): the forced cells as the released guide's own fill.sh prints them over the translation 914c3cb2075314a1… (all of the seat's roots in one cut). By AI agents, Wed Nov 11 2026. No macro, syntax, notation, axiom, sorry.
-/
import Derived.Test.YtjenhnigdgkkoaaChecked
import GoSem.Claim
import GoSem.ClaimJoined
import GoSem.ClaimMapViews
import Derived.JoinedTies
import Derived.KernelRfl
namespace Go.Proofs.Ytjenhnigdgkkoaa
/- THE CELL 'sum', in the pinned program and in every row, IS THE sha256 OF THE DUMP (.gsa) THAT YtjenhnigdgkkoaaProg.lean LOADS. Nothing in Lean hashes anything: it is a label: what it is worth is what the hold of that sum in a sandbox is worth. -/
noncomputable def Try.pinned : Pinned := { name := "ytjenhnigdgkkoaa", sum := "914c3cb2075314a1ca7a6349c64c49cbbd2e1e9a7f8f2bf6e877e4dfe51b5457", checked := Try.checked }
namespace Rows
def none {H : Type} : Left H := { results := [], args := [] }

/-- 'croftlaw34.PolyWithin': WHATEVER THE INPUT: true; the input reads as it did. -/
def polyWithinSpec : ChangeSpec := { name := "polyWithin", fn := fun _ => fun
  | [d1, d2] => { results := [.lit (.bool true)], args := [d1, d2] }
  | _ => none }
def polyWithinRow : OpenClaim := { program := "ytjenhnigdgkkoaa", sum := "914c3cb2075314a1ca7a6349c64c49cbbd2e1e9a7f8f2bf6e877e4dfe51b5457", func := "croft/croftlaw34.PolyWithin", spec := "polyWithin", unfollowed := true, recurses := true, apart := false }
def PolyWithinSaid : Prop := polyWithinRow.holds Try.pinned (OpenSpec.ofChange polyWithinSpec)

/-- ITS FALSE NEIGHBOUR: 'it returns false'. Refute it at one input. -/
def polyWithinWrong : ChangeSpec := { name := "polyWithin", fn := fun _ => fun
  | [d1, d2] => { results := [.lit (.bool false)], args := [d1, d2] }
  | _ => none }
def PolyWithinWrongFalsely : Prop := polyWithinRow.holds Try.pinned (OpenSpec.ofChange polyWithinWrong)

/-- 'croftlaw42.SpanLongest': WHATEVER THE INPUT: true; the input reads as it did. -/
def spanLongestSpec : ChangeSpec := { name := "spanLongest", fn := fun _ => fun
  | [d] => { results := [.lit (.bool true)], args := [d] }
  | _ => none }
def spanLongestRow : OpenClaim := { program := "ytjenhnigdgkkoaa", sum := "914c3cb2075314a1ca7a6349c64c49cbbd2e1e9a7f8f2bf6e877e4dfe51b5457", func := "croft/croftlaw42.SpanLongest", spec := "spanLongest", inPlace := ["math/bits.Add64"], unfollowed := true, recurses := true, apart := false }
def SpanLongestSaid : Prop := spanLongestRow.holds Try.pinned (OpenSpec.ofChange spanLongestSpec)

/-- ITS FALSE NEIGHBOUR: 'it returns false'. Refute it at one input. -/
def spanLongestWrong : ChangeSpec := { name := "spanLongest", fn := fun _ => fun
  | [d] => { results := [.lit (.bool false)], args := [d] }
  | _ => none }
def SpanLongestWrongFalsely : Prop := spanLongestRow.holds Try.pinned (OpenSpec.ofChange spanLongestWrong)

/-- 'croftlaw46.TrackLegs': WHATEVER THE INPUT: true; the input reads as it did. -/
def trackLegsSpec : ChangeSpec := { name := "trackLegs", fn := fun _ => fun
  | [d] => { results := [.lit (.bool true)], args := [d] }
  | _ => none }
def trackLegsRow : OpenClaim := { program := "ytjenhnigdgkkoaa", sum := "914c3cb2075314a1ca7a6349c64c49cbbd2e1e9a7f8f2bf6e877e4dfe51b5457", func := "croft/croftlaw46.TrackLegs", spec := "trackLegs", inPlace := ["math/bits.Add64"], unfollowed := true, recurses := true, apart := false }
def TrackLegsSaid : Prop := trackLegsRow.holds Try.pinned (OpenSpec.ofChange trackLegsSpec)

/-- ITS FALSE NEIGHBOUR: 'it returns false'. Refute it at one input. -/
def trackLegsWrong : ChangeSpec := { name := "trackLegs", fn := fun _ => fun
  | [d] => { results := [.lit (.bool false)], args := [d] }
  | _ => none }
def TrackLegsWrongFalsely : Prop := trackLegsRow.holds Try.pinned (OpenSpec.ofChange trackLegsWrong)

/-- 'croftlaw46.TrackThins': WHATEVER THE INPUT: true; the input reads as it did. -/
def trackThinsSpec : ChangeSpec := { name := "trackThins", fn := fun _ => fun
  | [d1, d2] => { results := [.lit (.bool true)], args := [d1, d2] }
  | _ => none }
def trackThinsRow : OpenClaim := { program := "ytjenhnigdgkkoaa", sum := "914c3cb2075314a1ca7a6349c64c49cbbd2e1e9a7f8f2bf6e877e4dfe51b5457", func := "croft/croftlaw46.TrackThins", spec := "trackThins", inPlace := ["math/bits.Add64"], unfollowed := true, recurses := true, apart := false }
def TrackThinsSaid : Prop := trackThinsRow.holds Try.pinned (OpenSpec.ofChange trackThinsSpec)

/-- ITS FALSE NEIGHBOUR: 'it returns false'. Refute it at one input. -/
def trackThinsWrong : ChangeSpec := { name := "trackThins", fn := fun _ => fun
  | [d1, d2] => { results := [.lit (.bool false)], args := [d1, d2] }
  | _ => none }
def TrackThinsWrongFalsely : Prop := trackThinsRow.holds Try.pinned (OpenSpec.ofChange trackThinsWrong)

/-- 'croftlaw46.TrackStraight': WHATEVER THE INPUT: true; the input reads as it did. -/
def trackStraightSpec : ChangeSpec := { name := "trackStraight", fn := fun _ => fun
  | [d] => { results := [.lit (.bool true)], args := [d] }
  | _ => none }
def trackStraightRow : OpenClaim := { program := "ytjenhnigdgkkoaa", sum := "914c3cb2075314a1ca7a6349c64c49cbbd2e1e9a7f8f2bf6e877e4dfe51b5457", func := "croft/croftlaw46.TrackStraight", spec := "trackStraight", inPlace := ["math/bits.Add64"], unfollowed := true, recurses := true, apart := false }
def TrackStraightSaid : Prop := trackStraightRow.holds Try.pinned (OpenSpec.ofChange trackStraightSpec)

/-- ITS FALSE NEIGHBOUR: 'it returns false'. Refute it at one input. -/
def trackStraightWrong : ChangeSpec := { name := "trackStraight", fn := fun _ => fun
  | [d] => { results := [.lit (.bool false)], args := [d] }
  | _ => none }
def TrackStraightWrongFalsely : Prop := trackStraightRow.holds Try.pinned (OpenSpec.ofChange trackStraightWrong)

/-- 'croftlaw46.TrackZero': WHATEVER THE INPUT: true; the input reads as it did. -/
def trackZeroSpec : ChangeSpec := { name := "trackZero", fn := fun _ => fun
  | [d] => { results := [.lit (.bool true)], args := [d] }
  | _ => none }
def trackZeroRow : OpenClaim := { program := "ytjenhnigdgkkoaa", sum := "914c3cb2075314a1ca7a6349c64c49cbbd2e1e9a7f8f2bf6e877e4dfe51b5457", func := "croft/croftlaw46.TrackZero", spec := "trackZero", inPlace := ["math/bits.Add64"], unfollowed := true, recurses := true, apart := false }
def TrackZeroSaid : Prop := trackZeroRow.holds Try.pinned (OpenSpec.ofChange trackZeroSpec)

/-- ITS FALSE NEIGHBOUR: 'it returns false'. Refute it at one input. -/
def trackZeroWrong : ChangeSpec := { name := "trackZero", fn := fun _ => fun
  | [d] => { results := [.lit (.bool false)], args := [d] }
  | _ => none }
def TrackZeroWrongFalsely : Prop := trackZeroRow.holds Try.pinned (OpenSpec.ofChange trackZeroWrong)

/- THE SECOND FORM. 'bulk': how many values and letters a reading holds, each counted each time it is reached (what is shared counts as often as it is met; a slice's spare places count too). A statement '..UptoSaid' is the law's where the arguments, and the package variables that the reading takes, are together of bulk at most 1048576: NARROWER than '..Said'. Prove '..Said' where nothing that the law and all that it calls make is longer than what came in: it says more and counts as full. Else prove '..UptoSaid'. A law counts once. -/
mutual
def uptoBulk {H : Type} : DataW H → Nat
  | .lit (.string bytes) => bytes.length + 1
  | .lit _ => 1
  | .nil => 1
  | .ptr d => uptoBulk d + 1
  | .slice elems spare => uptoBulkAll elems + uptoBulkAll spare + 1
  | .agg parts => uptoBulkAll parts + 1
  | .iface _ d => uptoBulk d + 1
  | .map entries => uptoBulkEntries entries + 1
  | .held _ => 1
def uptoBulkAll {H : Type} : List (DataW H) → Nat
  | [] => 0
  | d :: r => uptoBulk d + uptoBulkAll r
def uptoBulkEntries {H : Type} : List (Lit × DataW H) → Nat
  | [] => 0
  | x :: r => uptoBulkEntry x + uptoBulkEntries r
def uptoBulkEntry {H : Type} : Lit × DataW H → Nat
  | (.string bytes, d) => bytes.length + uptoBulk d + 1
  | (_, d) => uptoBulk d + 1
 end
def uptoSmall : (H : Type) → List (DataW H) → Bool := fun _ ds => decide (uptoBulkAll ds ≤ 1048576)
def OpenSpec.upto (s : _root_.Go.ChangeSpec) : _root_.Go.OpenSpec := { _root_.Go.OpenSpec.ofChange s with cond := some uptoSmall }

/-- 'croftlaw34.PolyWithin', WHERE WHAT IT READS IS OF BULK AT MOST 1048576: true; the input reads as it did. -/
def polyWithinUptoRow : OpenClaim := { program := "ytjenhnigdgkkoaa", sum := "914c3cb2075314a1ca7a6349c64c49cbbd2e1e9a7f8f2bf6e877e4dfe51b5457", func := "croft/croftlaw34.PolyWithin", spec := "polyWithin", unfollowed := true, recurses := true, apart := false, narrowed := true }
def PolyWithinUptoSaid : Prop := polyWithinUptoRow.holds Try.pinned (OpenSpec.upto polyWithinSpec)

/-- 'croftlaw42.SpanLongest', WHERE WHAT IT READS IS OF BULK AT MOST 1048576: true; the input reads as it did. -/
def spanLongestUptoRow : OpenClaim := { program := "ytjenhnigdgkkoaa", sum := "914c3cb2075314a1ca7a6349c64c49cbbd2e1e9a7f8f2bf6e877e4dfe51b5457", func := "croft/croftlaw42.SpanLongest", spec := "spanLongest", inPlace := ["math/bits.Add64"], unfollowed := true, recurses := true, apart := false, narrowed := true }
def SpanLongestUptoSaid : Prop := spanLongestUptoRow.holds Try.pinned (OpenSpec.upto spanLongestSpec)

/-- 'croftlaw46.TrackLegs', WHERE WHAT IT READS IS OF BULK AT MOST 1048576: true; the input reads as it did. -/
def trackLegsUptoRow : OpenClaim := { program := "ytjenhnigdgkkoaa", sum := "914c3cb2075314a1ca7a6349c64c49cbbd2e1e9a7f8f2bf6e877e4dfe51b5457", func := "croft/croftlaw46.TrackLegs", spec := "trackLegs", inPlace := ["math/bits.Add64"], unfollowed := true, recurses := true, apart := false, narrowed := true }
def TrackLegsUptoSaid : Prop := trackLegsUptoRow.holds Try.pinned (OpenSpec.upto trackLegsSpec)

/-- 'croftlaw46.TrackThins', WHERE WHAT IT READS IS OF BULK AT MOST 1048576: true; the input reads as it did. -/
def trackThinsUptoRow : OpenClaim := { program := "ytjenhnigdgkkoaa", sum := "914c3cb2075314a1ca7a6349c64c49cbbd2e1e9a7f8f2bf6e877e4dfe51b5457", func := "croft/croftlaw46.TrackThins", spec := "trackThins", inPlace := ["math/bits.Add64"], unfollowed := true, recurses := true, apart := false, narrowed := true }
def TrackThinsUptoSaid : Prop := trackThinsUptoRow.holds Try.pinned (OpenSpec.upto trackThinsSpec)

/-- 'croftlaw46.TrackStraight', WHERE WHAT IT READS IS OF BULK AT MOST 1048576: true; the input reads as it did. -/
def trackStraightUptoRow : OpenClaim := { program := "ytjenhnigdgkkoaa", sum := "914c3cb2075314a1ca7a6349c64c49cbbd2e1e9a7f8f2bf6e877e4dfe51b5457", func := "croft/croftlaw46.TrackStraight", spec := "trackStraight", inPlace := ["math/bits.Add64"], unfollowed := true, recurses := true, apart := false, narrowed := true }
def TrackStraightUptoSaid : Prop := trackStraightUptoRow.holds Try.pinned (OpenSpec.upto trackStraightSpec)

/-- 'croftlaw46.TrackZero', WHERE WHAT IT READS IS OF BULK AT MOST 1048576: true; the input reads as it did. -/
def trackZeroUptoRow : OpenClaim := { program := "ytjenhnigdgkkoaa", sum := "914c3cb2075314a1ca7a6349c64c49cbbd2e1e9a7f8f2bf6e877e4dfe51b5457", func := "croft/croftlaw46.TrackZero", spec := "trackZero", inPlace := ["math/bits.Add64"], unfollowed := true, recurses := true, apart := false, narrowed := true }
def TrackZeroUptoSaid : Prop := trackZeroUptoRow.holds Try.pinned (OpenSpec.upto trackZeroSpec)

end Rows
end Go.Proofs.Ytjenhnigdgkkoaa
