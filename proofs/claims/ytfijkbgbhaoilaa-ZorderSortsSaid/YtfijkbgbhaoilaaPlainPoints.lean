/-
  The document's own: are two lists of points one? Here of one and the same.
-/
import Derived.Test.YtfijkbgbhaoilaaSlices
import Derived.Deep.QuietTactic
import Derived.BigQuiet
import Derived.LoopTactic
import Derived.WalkKit
namespace Go.Proofs.Ytfijkbgbhaoilaa
open Go.RowKit
set_option linter.unusedVariables false
set_option linter.unusedSimpArgs false

set_option maxRecDepth 100000 in
theorem plainPoints_same (pa pb : Option Addr) (n ca cb : Nat) (f : Nat → Pt) (h1 : n ≤ ca) (h2 : ca ≤ maxLen) (h3 : n ≤ cb) (h4 : cb ≤ maxLen) (w : World) (HA : RowP w pa 4 n (fun i => pcells (f i))) (HB : RowP w pb 4 n (fun i => pcells (f i))) :
    Calls Try.prog 8 #[.slice pa n ca, .slice pb n cb] w fun e w' => e = .returned (.bool true) ∧ Below w.heap.size w w' := by
  unfold maxLen at h2 h4
  replace HA := hid HA
  replace HB := hid HB
  go_enter Try.func8, Try.ntmps8
  go_wp2_with fail
  go_loopw [5] (fun i wx => ∃ k : Nat, k ≤ n ∧ i = .int .i64 (k : Int) ∧ Below w.heap.size w wx) (fun i _ => n - (intOf i).toNat)
  case atStart => exact ⟨0, by omega, rfl, Below.refl _ _⟩
  case round =>
    obtain ⟨k, hk, rfl, hb⟩ := hrel
    by_cases hlt : k < n
    · obtain ⟨b, o, rfl, R⟩ := HA.out.row (by omega)
      obtain ⟨b', o', rfl, R'⟩ := HB.out.row (by omega)
      have R := R.more hb
      have R' := R'.more hb
      have y0 := R.at0 hlt (v := .int .i64 (f k).id) rfl
      have y1 := R.at1 hlt (v := .int .u32 (f k).x) rfl
      have y2 := R.at2 hlt (v := .int .u32 (f k).y) rfl
      have y3 := R.at3 hlt (v := .string (f k).d) rfl
      have z0 := R'.at0 hlt (v := .int .i64 (f k).id) rfl
      have z1 := R'.at1 hlt (v := .int .u32 (f k).x) rfl
      have z2 := R'.at2 hlt (v := .int .u32 (f k).y) rfl
      have z3 := R'.at3 hlt (v := .string (f k).d) rfl
      clear R R'
      replace hb := hid hb
      go_wp2_with fail
      go_quiet (fail)
      go_wp2_with fail
      go_roundw
      case rel => exact ⟨k + 1, by omega, by go_num, ⟨hb.out.os, hb.out.tape, hb.out.output, hb.out.size, hb.out.block⟩⟩
      case measure => simp [intOf]; omega
    · obtain rfl : k = n := by omega
      replace hb := hid hb
      go_wp2
      go_ret
      exact ⟨rfl, hb.out⟩
end Go.Proofs.Ytfijkbgbhaoilaa
