/-
  Layer 27: of any three segments being better goes on; no segment is better than itself. The walk of VictimOrders.
-/
import Derived.Test.YtohdhbamdeenlaaVictim
import Derived.Deep.DeepCutAuto
namespace Go.Proofs.Ytohdhbamdeenlaa
open Go.RowKit
set_option linter.unusedVariables false

theorem alive27 (w : World) : Calls Try.prog 55 #[] w fun e w' => e = .returned (.bool true) ∧ Below w.heap.size w w' := by
  have K := fun w => better_any 8 8 2 3 5 3 (by decide) w
  rw [show betterB 8 2 3 5 3 = true from by decide] at K
  have M := fun w => better_any 8 8 5 3 2 3 (by decide) w
  rw [show betterB 8 5 3 2 3 = false from by decide] at M
  have HK := hid K
  have HM := hid M
  clear K M
  go_enter Try.func55, Try.ntmps55
  go_wp2_with fail
  refine (HK.out _).mono ?_
  rintro e w1 ⟨rfl, hb1⟩
  have H1 := hid hb1
  clear hb1
  go_wp2_with fail
  refine (HM.out _).mono ?_
  rintro e w2 ⟨rfl, hb2⟩
  have H2 := hid (below2 H1.out hb2 H1.out.size)
  clear hb2
  go_wp2
  go_ret
  exact ⟨by simp, H2.out⟩

end Go.Proofs.Ytohdhbamdeenlaa
