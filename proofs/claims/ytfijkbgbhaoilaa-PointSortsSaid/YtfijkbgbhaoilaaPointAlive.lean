/-
  Package point: Size; the example of layer 7.
-/
import Derived.Test.YtfijkbgbhaoilaaPointGet
import Derived.Test.YtfijkbgbhaoilaaLittleAlive
namespace Go.Proofs.Ytfijkbgbhaoilaa
open Go.RowKit
set_option linter.unusedVariables false
set_option linter.unusedSimpArgs false

set_option maxRecDepth 100000 in
theorem size_any (P : Pt) (hP : P.ok) (h : P.d.size ≤ 140737488351232) (w : World) : Calls Try.prog 19 #[pval P] w fun e w' => e = .returned (.int .i64 (13 + (P.d.size : Int))) ∧ Below w.heap.size w w' := by
  have sz : (P.d.size : Int) ≤ 140737488351232 := by omega
  clear h hP
  go_enter Try.func19, Try.ntmps19
  go_wp2
  go_ret
  exact ⟨by simp, (Below.refl _ _).alloc (Nat.le_refl _) _⟩
theorem pt0_ok : pt0.ok := ⟨by decide, by decide, by decide, by decide, by decide, by decide, Nat.zero_le _⟩
set_option maxRecDepth 100000 in
theorem alive07 (w : World) : Calls Try.prog 10 #[] w fun e w' => e = .returned (.bool true) ∧ Below w.heap.size w w' := by
  have K1 := fun w => size_any pt0 pt0_ok (Nat.zero_le _) w
  have K2 := fun w => check_any pt0 pt0_ok w
  rw [show checkC pt0 = 4 from rfl] at K2
  rw [show (13 + ((pt0.d.size : Nat) : Int)) = 13 from rfl] at K1
  replace K1 := hid K1
  replace K2 := hid K2
  go_enter Try.func10, Try.ntmps10
  go_wp2_with fail
  refine (K1.out _).mono ?_
  rintro e w1 ⟨rfl, hb1⟩
  replace hb1 := hid hb1
  go_wp2_with fail
  refine (K2.out _).mono ?_
  rintro e w2 ⟨rfl, hb2⟩
  have E := hid (below2 hb1.out hb2 hb1.out.size)
  clear hb2
  go_wp2
  go_ret
  exact ⟨rfl, E.out⟩
end Go.Proofs.Ytfijkbgbhaoilaa
