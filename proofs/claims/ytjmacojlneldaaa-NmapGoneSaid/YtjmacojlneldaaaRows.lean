/-
  No cell of these rows narrows 'for every input' (looked for: loops, veiled, ifaces, maps, wideKeys, modest, calm, conditions, laid).
  DERIVED. THE GIVEN ROWS OF THIS SEAT. 11 by the template 'for every input the law returns true; each argument reads behind the call as it read before'; 0 by the template 'total and deterministic' (their statements: YtjmacojlneldaaaTotals.lean).
  GIVEN WITH THE SEED: the statements are not yours to turn. If you find one false, say at which input.
  Laid BY PROGRAM, IN A SANDBOX (cutbox-rows.mjs): the forced cells as the released guide's own fill.sh prints them over the translation 2b262afc8292d603… (all of the seat's roots in one cut). By AI agents, Wed Nov 11 2026. No macro, syntax, notation, axiom, sorry.
-/
import Derived.Test.YtjmacojlneldaaaChecked
import GoSem.Claim
import GoSem.ClaimJoined
import GoSem.ClaimMapViews
import Derived.JoinedTies
import Derived.KernelRfl
namespace Go.Proofs.Ytjmacojlneldaaa
/- THE CELL 'sum', in the pinned program and in every row, IS THE sha256 OF THE DUMP (.gsa) THAT YtjmacojlneldaaaProg.lean LOADS. Nothing in Lean hashes anything: it is a label: what it is worth is what the hold of that sum in a sandbox is worth. -/
noncomputable def Try.pinned : Pinned := { name := "ytjmacojlneldaaa", sum := "2b262afc8292d60319c4d2a65e46d6174b98d52576d02101d847c1ba53bb716e", checked := Try.checked }
namespace Rows
def none {H : Type} : Left H := { results := [], args := [] }

/-- 'croftlaw15.PoolRuns': WHATEVER THE INPUT: true; the input reads as it did. -/
def poolRunsSpec : ChangeSpec := { name := "poolRuns", fn := fun _ => fun
  | [d1, d2] => { results := [.lit (.bool true)], args := [d1, d2] }
  | _ => none }
def poolRunsRow : OpenClaim := { program := "ytjmacojlneldaaa", sum := "2b262afc8292d60319c4d2a65e46d6174b98d52576d02101d847c1ba53bb716e", func := "croft/croftlaw15.PoolRuns", spec := "poolRuns", apart := false }
def PoolRunsSaid : Prop := poolRunsRow.holds Try.pinned (OpenSpec.ofChange poolRunsSpec)

/-- ITS FALSE NEIGHBOUR: 'it returns false'. Refute it at one input. -/
def poolRunsWrong : ChangeSpec := { name := "poolRuns", fn := fun _ => fun
  | [d1, d2] => { results := [.lit (.bool false)], args := [d1, d2] }
  | _ => none }
def PoolRunsWrongFalsely : Prop := poolRunsRow.holds Try.pinned (OpenSpec.ofChange poolRunsWrong)

/-- 'croftlaw15.PoolNobody': WHATEVER THE INPUT: true; the input reads as it did. -/
def poolNobodySpec : ChangeSpec := { name := "poolNobody", fn := fun _ => fun
  | [d] => { results := [.lit (.bool true)], args := [d] }
  | _ => none }
def poolNobodyRow : OpenClaim := { program := "ytjmacojlneldaaa", sum := "2b262afc8292d60319c4d2a65e46d6174b98d52576d02101d847c1ba53bb716e", func := "croft/croftlaw15.PoolNobody", spec := "poolNobody", apart := false }
def PoolNobodySaid : Prop := poolNobodyRow.holds Try.pinned (OpenSpec.ofChange poolNobodySpec)

/-- ITS FALSE NEIGHBOUR: 'it returns false'. Refute it at one input. -/
def poolNobodyWrong : ChangeSpec := { name := "poolNobody", fn := fun _ => fun
  | [d] => { results := [.lit (.bool false)], args := [d] }
  | _ => none }
def PoolNobodyWrongFalsely : Prop := poolNobodyRow.holds Try.pinned (OpenSpec.ofChange poolNobodyWrong)

/-- 'croftlaw15.PoolApart': WHATEVER THE INPUT: true; the input reads as it did. -/
def poolApartSpec : ChangeSpec := { name := "poolApart", fn := fun _ => fun
  | [d1, d2] => { results := [.lit (.bool true)], args := [d1, d2] }
  | _ => none }
def poolApartRow : OpenClaim := { program := "ytjmacojlneldaaa", sum := "2b262afc8292d60319c4d2a65e46d6174b98d52576d02101d847c1ba53bb716e", func := "croft/croftlaw15.PoolApart", spec := "poolApart", apart := false }
def PoolApartSaid : Prop := poolApartRow.holds Try.pinned (OpenSpec.ofChange poolApartSpec)

/-- ITS FALSE NEIGHBOUR: 'it returns false'. Refute it at one input. -/
def poolApartWrong : ChangeSpec := { name := "poolApart", fn := fun _ => fun
  | [d1, d2] => { results := [.lit (.bool false)], args := [d1, d2] }
  | _ => none }
def PoolApartWrongFalsely : Prop := poolApartRow.holds Try.pinned (OpenSpec.ofChange poolApartWrong)

/-- 'croftlaw16.UsageTells': WHATEVER THE INPUT: true; the input reads as it did. -/
def usageTellsSpec : ChangeSpec := { name := "usageTells", fn := fun _ => fun
  | [d1, d2, d3, d4] => { results := [.lit (.bool true)], args := [d1, d2, d3, d4] }
  | _ => none }
def usageTellsRow : OpenClaim := { program := "ytjmacojlneldaaa", sum := "2b262afc8292d60319c4d2a65e46d6174b98d52576d02101d847c1ba53bb716e", func := "croft/croftlaw16.UsageTells", spec := "usageTells", unfollowed := true, recurses := true, apart := false }
def UsageTellsSaid : Prop := usageTellsRow.holds Try.pinned (OpenSpec.ofChange usageTellsSpec)

/-- ITS FALSE NEIGHBOUR: 'it returns false'. Refute it at one input. -/
def usageTellsWrong : ChangeSpec := { name := "usageTells", fn := fun _ => fun
  | [d1, d2, d3, d4] => { results := [.lit (.bool false)], args := [d1, d2, d3, d4] }
  | _ => none }
def UsageTellsWrongFalsely : Prop := usageTellsRow.holds Try.pinned (OpenSpec.ofChange usageTellsWrong)

/-- 'croftlaw16.UsageSums': WHATEVER THE INPUT: true; the input reads as it did. -/
def usageSumsSpec : ChangeSpec := { name := "usageSums", fn := fun _ => fun
  | [d1, d2, d3] => { results := [.lit (.bool true)], args := [d1, d2, d3] }
  | _ => none }
def usageSumsRow : OpenClaim := { program := "ytjmacojlneldaaa", sum := "2b262afc8292d60319c4d2a65e46d6174b98d52576d02101d847c1ba53bb716e", func := "croft/croftlaw16.UsageSums", spec := "usageSums", unfollowed := true, recurses := true, apart := false }
def UsageSumsSaid : Prop := usageSumsRow.holds Try.pinned (OpenSpec.ofChange usageSumsSpec)

/-- ITS FALSE NEIGHBOUR: 'it returns false'. Refute it at one input. -/
def usageSumsWrong : ChangeSpec := { name := "usageSums", fn := fun _ => fun
  | [d1, d2, d3] => { results := [.lit (.bool false)], args := [d1, d2, d3] }
  | _ => none }
def UsageSumsWrongFalsely : Prop := usageSumsRow.holds Try.pinned (OpenSpec.ofChange usageSumsWrong)

/-- 'croftlaw16.UsageMoves': WHATEVER THE INPUT: true; the input reads as it did. -/
def usageMovesSpec : ChangeSpec := { name := "usageMoves", fn := fun _ => fun
  | [d1, d2, d3, d4] => { results := [.lit (.bool true)], args := [d1, d2, d3, d4] }
  | _ => none }
def usageMovesRow : OpenClaim := { program := "ytjmacojlneldaaa", sum := "2b262afc8292d60319c4d2a65e46d6174b98d52576d02101d847c1ba53bb716e", func := "croft/croftlaw16.UsageMoves", spec := "usageMoves", unfollowed := true, recurses := true, apart := false }
def UsageMovesSaid : Prop := usageMovesRow.holds Try.pinned (OpenSpec.ofChange usageMovesSpec)

/-- ITS FALSE NEIGHBOUR: 'it returns false'. Refute it at one input. -/
def usageMovesWrong : ChangeSpec := { name := "usageMoves", fn := fun _ => fun
  | [d1, d2, d3, d4] => { results := [.lit (.bool false)], args := [d1, d2, d3, d4] }
  | _ => none }
def UsageMovesWrongFalsely : Prop := usageMovesRow.holds Try.pinned (OpenSpec.ofChange usageMovesWrong)

/-- 'croftlaw17.NmapTells': WHATEVER THE INPUT: true; the input reads as it did. -/
def nmapTellsSpec : ChangeSpec := { name := "nmapTells", fn := fun _ => fun
  | [d1, d2, d3] => { results := [.lit (.bool true)], args := [d1, d2, d3] }
  | _ => none }
def nmapTellsRow : OpenClaim := { program := "ytjmacojlneldaaa", sum := "2b262afc8292d60319c4d2a65e46d6174b98d52576d02101d847c1ba53bb716e", func := "croft/croftlaw17.NmapTells", spec := "nmapTells", apart := false }
def NmapTellsSaid : Prop := nmapTellsRow.holds Try.pinned (OpenSpec.ofChange nmapTellsSpec)

/-- ITS FALSE NEIGHBOUR: 'it returns false'. Refute it at one input. -/
def nmapTellsWrong : ChangeSpec := { name := "nmapTells", fn := fun _ => fun
  | [d1, d2, d3] => { results := [.lit (.bool false)], args := [d1, d2, d3] }
  | _ => none }
def NmapTellsWrongFalsely : Prop := nmapTellsRow.holds Try.pinned (OpenSpec.ofChange nmapTellsWrong)

/-- 'croftlaw17.NmapApplies': WHATEVER THE INPUT: true; the input reads as it did. -/
def nmapAppliesSpec : ChangeSpec := { name := "nmapApplies", fn := fun _ => fun
  | [d1, d2, d3] => { results := [.lit (.bool true)], args := [d1, d2, d3] }
  | _ => none }
def nmapAppliesRow : OpenClaim := { program := "ytjmacojlneldaaa", sum := "2b262afc8292d60319c4d2a65e46d6174b98d52576d02101d847c1ba53bb716e", func := "croft/croftlaw17.NmapApplies", spec := "nmapApplies", apart := false }
def NmapAppliesSaid : Prop := nmapAppliesRow.holds Try.pinned (OpenSpec.ofChange nmapAppliesSpec)

/-- ITS FALSE NEIGHBOUR: 'it returns false'. Refute it at one input. -/
def nmapAppliesWrong : ChangeSpec := { name := "nmapApplies", fn := fun _ => fun
  | [d1, d2, d3] => { results := [.lit (.bool false)], args := [d1, d2, d3] }
  | _ => none }
def NmapAppliesWrongFalsely : Prop := nmapAppliesRow.holds Try.pinned (OpenSpec.ofChange nmapAppliesWrong)

/-- 'croftlaw17.NmapGone': WHATEVER THE INPUT: true; the input reads as it did. -/
def nmapGoneSpec : ChangeSpec := { name := "nmapGone", fn := fun _ => fun
  | [d] => { results := [.lit (.bool true)], args := [d] }
  | _ => none }
def nmapGoneRow : OpenClaim := { program := "ytjmacojlneldaaa", sum := "2b262afc8292d60319c4d2a65e46d6174b98d52576d02101d847c1ba53bb716e", func := "croft/croftlaw17.NmapGone", spec := "nmapGone", apart := false }
def NmapGoneSaid : Prop := nmapGoneRow.holds Try.pinned (OpenSpec.ofChange nmapGoneSpec)

/-- ITS FALSE NEIGHBOUR: 'it returns false'. Refute it at one input. -/
def nmapGoneWrong : ChangeSpec := { name := "nmapGone", fn := fun _ => fun
  | [d] => { results := [.lit (.bool false)], args := [d] }
  | _ => none }
def NmapGoneWrongFalsely : Prop := nmapGoneRow.holds Try.pinned (OpenSpec.ofChange nmapGoneWrong)

/-- 'croftlaw21.HeapRuns': WHATEVER THE INPUT: true; the input reads as it did. -/
def heapRunsSpec : ChangeSpec := { name := "heapRuns", fn := fun _ => fun
  | [d1, d2] => { results := [.lit (.bool true)], args := [d1, d2] }
  | _ => none }
def heapRunsRow : OpenClaim := { program := "ytjmacojlneldaaa", sum := "2b262afc8292d60319c4d2a65e46d6174b98d52576d02101d847c1ba53bb716e", func := "croft/croftlaw21.HeapRuns", spec := "heapRuns", apart := false }
def HeapRunsSaid : Prop := heapRunsRow.holds Try.pinned (OpenSpec.ofChange heapRunsSpec)

/-- ITS FALSE NEIGHBOUR: 'it returns false'. Refute it at one input. -/
def heapRunsWrong : ChangeSpec := { name := "heapRuns", fn := fun _ => fun
  | [d1, d2] => { results := [.lit (.bool false)], args := [d1, d2] }
  | _ => none }
def HeapRunsWrongFalsely : Prop := heapRunsRow.holds Try.pinned (OpenSpec.ofChange heapRunsWrong)

/-- 'croftlaw21.HeapSorts': WHATEVER THE INPUT: true; the input reads as it did. -/
def heapSortsSpec : ChangeSpec := { name := "heapSorts", fn := fun _ => fun
  | [d1, d2, d3] => { results := [.lit (.bool true)], args := [d1, d2, d3] }
  | _ => none }
def heapSortsRow : OpenClaim := { program := "ytjmacojlneldaaa", sum := "2b262afc8292d60319c4d2a65e46d6174b98d52576d02101d847c1ba53bb716e", func := "croft/croftlaw21.HeapSorts", spec := "heapSorts", apart := false }
def HeapSortsSaid : Prop := heapSortsRow.holds Try.pinned (OpenSpec.ofChange heapSortsSpec)

/-- ITS FALSE NEIGHBOUR: 'it returns false'. Refute it at one input. -/
def heapSortsWrong : ChangeSpec := { name := "heapSorts", fn := fun _ => fun
  | [d1, d2, d3] => { results := [.lit (.bool false)], args := [d1, d2, d3] }
  | _ => none }
def HeapSortsWrongFalsely : Prop := heapSortsRow.holds Try.pinned (OpenSpec.ofChange heapSortsWrong)

/- THE SECOND FORM. 'bulk': how many values and letters a reading holds, each counted each time it is reached (what is shared counts as often as it is met; a slice's spare places count too). A statement '..UptoSaid' is the law's where the arguments, and the package variables that the reading takes, are together of bulk at most 1048576: NARROWER than '..Said'. Prove '..Said' where nothing that the law and all that it calls make is longer than what came in: it says more and counts as full. Else prove '..UptoSaid'. A law counts once. -/
mutual
def uptoBulk {H : Type} : DataW H → Nat
  | .lit (.string bytes) => bytes.length + 1
  | .lit _ => 1
  | .nil => 1
  | .ptr d => uptoBulk d + 1
  | .slice elems spare => uptoBulkAll elems + uptoBulkAll spare + 1
  | .agg parts => uptoBulkAll parts + 1
  | .iface _ d => uptoBulk d + 1
  | .map entries => uptoBulkEntries entries + 1
  | .held _ => 1
def uptoBulkAll {H : Type} : List (DataW H) → Nat
  | [] => 0
  | d :: r => uptoBulk d + uptoBulkAll r
def uptoBulkEntries {H : Type} : List (Lit × DataW H) → Nat
  | [] => 0
  | x :: r => uptoBulkEntry x + uptoBulkEntries r
def uptoBulkEntry {H : Type} : Lit × DataW H → Nat
  | (.string bytes, d) => bytes.length + uptoBulk d + 1
  | (_, d) => uptoBulk d + 1
 end
def uptoSmall : (H : Type) → List (DataW H) → Bool := fun _ ds => decide (uptoBulkAll ds ≤ 1048576)
def OpenSpec.upto (s : _root_.Go.ChangeSpec) : _root_.Go.OpenSpec := { _root_.Go.OpenSpec.ofChange s with cond := some uptoSmall }

/-- 'croftlaw15.PoolRuns', WHERE WHAT IT READS IS OF BULK AT MOST 1048576: true; the input reads as it did. -/
def poolRunsUptoRow : OpenClaim := { program := "ytjmacojlneldaaa", sum := "2b262afc8292d60319c4d2a65e46d6174b98d52576d02101d847c1ba53bb716e", func := "croft/croftlaw15.PoolRuns", spec := "poolRuns", apart := false, narrowed := true }
def PoolRunsUptoSaid : Prop := poolRunsUptoRow.holds Try.pinned (OpenSpec.upto poolRunsSpec)

/-- 'croftlaw15.PoolNobody', WHERE WHAT IT READS IS OF BULK AT MOST 1048576: true; the input reads as it did. -/
def poolNobodyUptoRow : OpenClaim := { program := "ytjmacojlneldaaa", sum := "2b262afc8292d60319c4d2a65e46d6174b98d52576d02101d847c1ba53bb716e", func := "croft/croftlaw15.PoolNobody", spec := "poolNobody", apart := false, narrowed := true }
def PoolNobodyUptoSaid : Prop := poolNobodyUptoRow.holds Try.pinned (OpenSpec.upto poolNobodySpec)

/-- 'croftlaw15.PoolApart', WHERE WHAT IT READS IS OF BULK AT MOST 1048576: true; the input reads as it did. -/
def poolApartUptoRow : OpenClaim := { program := "ytjmacojlneldaaa", sum := "2b262afc8292d60319c4d2a65e46d6174b98d52576d02101d847c1ba53bb716e", func := "croft/croftlaw15.PoolApart", spec := "poolApart", apart := false, narrowed := true }
def PoolApartUptoSaid : Prop := poolApartUptoRow.holds Try.pinned (OpenSpec.upto poolApartSpec)

/-- 'croftlaw16.UsageTells', WHERE WHAT IT READS IS OF BULK AT MOST 1048576: true; the input reads as it did. -/
def usageTellsUptoRow : OpenClaim := { program := "ytjmacojlneldaaa", sum := "2b262afc8292d60319c4d2a65e46d6174b98d52576d02101d847c1ba53bb716e", func := "croft/croftlaw16.UsageTells", spec := "usageTells", unfollowed := true, recurses := true, apart := false, narrowed := true }
def UsageTellsUptoSaid : Prop := usageTellsUptoRow.holds Try.pinned (OpenSpec.upto usageTellsSpec)

/-- 'croftlaw16.UsageSums', WHERE WHAT IT READS IS OF BULK AT MOST 1048576: true; the input reads as it did. -/
def usageSumsUptoRow : OpenClaim := { program := "ytjmacojlneldaaa", sum := "2b262afc8292d60319c4d2a65e46d6174b98d52576d02101d847c1ba53bb716e", func := "croft/croftlaw16.UsageSums", spec := "usageSums", unfollowed := true, recurses := true, apart := false, narrowed := true }
def UsageSumsUptoSaid : Prop := usageSumsUptoRow.holds Try.pinned (OpenSpec.upto usageSumsSpec)

/-- 'croftlaw16.UsageMoves', WHERE WHAT IT READS IS OF BULK AT MOST 1048576: true; the input reads as it did. -/
def usageMovesUptoRow : OpenClaim := { program := "ytjmacojlneldaaa", sum := "2b262afc8292d60319c4d2a65e46d6174b98d52576d02101d847c1ba53bb716e", func := "croft/croftlaw16.UsageMoves", spec := "usageMoves", unfollowed := true, recurses := true, apart := false, narrowed := true }
def UsageMovesUptoSaid : Prop := usageMovesUptoRow.holds Try.pinned (OpenSpec.upto usageMovesSpec)

/-- 'croftlaw17.NmapTells', WHERE WHAT IT READS IS OF BULK AT MOST 1048576: true; the input reads as it did. -/
def nmapTellsUptoRow : OpenClaim := { program := "ytjmacojlneldaaa", sum := "2b262afc8292d60319c4d2a65e46d6174b98d52576d02101d847c1ba53bb716e", func := "croft/croftlaw17.NmapTells", spec := "nmapTells", apart := false, narrowed := true }
def NmapTellsUptoSaid : Prop := nmapTellsUptoRow.holds Try.pinned (OpenSpec.upto nmapTellsSpec)

/-- 'croftlaw17.NmapApplies', WHERE WHAT IT READS IS OF BULK AT MOST 1048576: true; the input reads as it did. -/
def nmapAppliesUptoRow : OpenClaim := { program := "ytjmacojlneldaaa", sum := "2b262afc8292d60319c4d2a65e46d6174b98d52576d02101d847c1ba53bb716e", func := "croft/croftlaw17.NmapApplies", spec := "nmapApplies", apart := false, narrowed := true }
def NmapAppliesUptoSaid : Prop := nmapAppliesUptoRow.holds Try.pinned (OpenSpec.upto nmapAppliesSpec)

/-- 'croftlaw17.NmapGone', WHERE WHAT IT READS IS OF BULK AT MOST 1048576: true; the input reads as it did. -/
def nmapGoneUptoRow : OpenClaim := { program := "ytjmacojlneldaaa", sum := "2b262afc8292d60319c4d2a65e46d6174b98d52576d02101d847c1ba53bb716e", func := "croft/croftlaw17.NmapGone", spec := "nmapGone", apart := false, narrowed := true }
def NmapGoneUptoSaid : Prop := nmapGoneUptoRow.holds Try.pinned (OpenSpec.upto nmapGoneSpec)

/-- 'croftlaw21.HeapRuns', WHERE WHAT IT READS IS OF BULK AT MOST 1048576: true; the input reads as it did. -/
def heapRunsUptoRow : OpenClaim := { program := "ytjmacojlneldaaa", sum := "2b262afc8292d60319c4d2a65e46d6174b98d52576d02101d847c1ba53bb716e", func := "croft/croftlaw21.HeapRuns", spec := "heapRuns", apart := false, narrowed := true }
def HeapRunsUptoSaid : Prop := heapRunsUptoRow.holds Try.pinned (OpenSpec.upto heapRunsSpec)

/-- 'croftlaw21.HeapSorts', WHERE WHAT IT READS IS OF BULK AT MOST 1048576: true; the input reads as it did. -/
def heapSortsUptoRow : OpenClaim := { program := "ytjmacojlneldaaa", sum := "2b262afc8292d60319c4d2a65e46d6174b98d52576d02101d847c1ba53bb716e", func := "croft/croftlaw21.HeapSorts", spec := "heapSorts", apart := false, narrowed := true }
def HeapSortsUptoSaid : Prop := heapSortsUptoRow.holds Try.pinned (OpenSpec.upto heapSortsSpec)

end Rows
end Go.Proofs.Ytjmacojlneldaaa
