/-
  append(s, make([]byte, m)...) at a row of the call's own: its octets, and m zeros.
-/
import Derived.Test.YtghboanmiggcnaaAid
import Derived.Test.YtghboanmiggcnaaProg
import Derived.Lib.AppendZerosOnto
import Derived.OwnWalk
namespace Go.Proofs.Ytghboanmiggcnaa
open Go.RowKit
set_option linter.unusedVariables false
set_option linter.unusedSimpArgs false

theorem u8Info : (Try.prog.info? 5).map (fun i => (i.zero, i.size, i.bytes)) = some (some (.int .u8 0), 1, 1) := by kernel_rfl

theorem zeros_list (m : Nat) : (Builtin.zeroCells #[.int .u8 0] m).toList = List.replicate m (.int .u8 0) := by
  apply List.ext_getElem?
  intro j
  by_cases h : j < m
  · have : j < (Builtin.zeroCells #[Value.int .u8 0] m).toList.length := by simp [size_zeroCells, h]
    rw [List.getElem?_eq_getElem this, List.getElem?_replicate, if_pos h]
    simp [Builtin.zeroCells, Nat.mod_one]
  · rw [List.getElem?_eq_none (by simp [size_zeroCells]; omega), List.getElem?_eq_none (by simp; omega)]

end Go.Proofs.Ytghboanmiggcnaa
