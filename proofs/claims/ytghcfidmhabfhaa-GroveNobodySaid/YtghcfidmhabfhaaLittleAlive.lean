/-
  Layer 1: the page's example: 258 in three octets.
-/
import Derived.Test.YtghcfidmhabfhaaLittleNobody
import Derived.OwnWalk
import Derived.Lib.BufferMore
import Derived.Test.YtghcfidmhabfhaaBig
import Derived.Lib.SlBytesRow
namespace Go.Proofs.Ytghcfidmhabfhaa
open Go.RowKit
set_option linter.unusedVariables false
set_option linter.unusedSimpArgs false

theorem bytes3 {w : World} {b : Nat} (d0 : w.cell? ⟨b, 0, none⟩ = some (.int .u8 2)) (d1 : w.cell? ⟨b, 1, none⟩ = some (.int .u8 1)) (d2 : w.cell? ⟨b, 2, none⟩ = some (.int .u8 0)) (cap : Nat) :
    (convert 22 9 (.slice (some ⟨b, 0, none⟩) 3 cap)).run Try.prog w = .ok (.string ⟨#[2, 1, 0]⟩) w :=
  Lib.run_convert_whole (P := Try.prog) w 22 5 9 Try.underlying22 Try.underlying5 Try.underlying9 b 0 ⟨#[2, 1, 0]⟩ (fun i hi => by
    match i, hi with
    | 0, _ => exact d0
    | 1, _ => exact d1
    | 2, _ => exact d2) cap

end Go.Proofs.Ytghcfidmhabfhaa
