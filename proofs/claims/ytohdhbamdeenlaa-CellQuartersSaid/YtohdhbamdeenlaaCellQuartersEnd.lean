/-
  Layer 4: a cell is its four quarters: single places, and all together.
-/
import Derived.Test.YtohdhbamdeenlaaCellQuartersWalk
namespace Go.Proofs.Ytohdhbamdeenlaa
open Go.RowKit
set_option linter.unusedVariables false
set_option linter.unusedSimpArgs false

set_option maxRecDepth 100000 in
set_option maxHeartbeats 16000000 in
theorem cq_one (cx cy l x y q X Y : Int) 
    (KA : ∀ w : World, Calls Try.prog 36 #[.int .u32 cx, .int .u32 cy, .int .i64 l] w fun e w' => e = .returned (cl X Y 32) ∧ Below w.heap.size w w')
    (KK : ∀ w : World, Calls Try.prog 37 #[cl X Y 32, .int .i64 q] w fun e w' => e = .returned (cl X Y 32) ∧ Below w.heap.size w w')
    (KQ : ∀ (w : World), Calls Try.prog 38 #[cl X Y 32, .int .u32 x, .int .u32 y] w fun e w' => e = .returned (.int .i64 0) ∧ Below w.heap.size w w') (w : World) :
    Calls Try.prog 8 #[cl cx cy l, .int .u32 x, .int .u32 y, .int .i64 q] w fun e w' => e = .returned (.bool true) ∧ Below w.heap.size w w' := by
  replace KA := hid KA
  replace KK := hid KK
  replace KQ := hid KQ
  go_enter Try.func8, Try.ntmps8
  go_wp2_with fail
  refine (alive4 _).mono ?_
  rintro e w1 ⟨rfl, hb1⟩
  obtain ⟨B0, H⟩ := boxed1 hb1
  have HB0 := hid B0
  have H1 := hid H
  obtain ⟨l0, k0, f0⟩ := B0
  clear hb1 H
  go_wp2_with fail
  refine (KA.out _).mono ?_
  rintro e w2 ⟨rfl, hb2⟩
  have HB1 := hid (HB0.out.more hb2)
  have H2 := hid (below2 H1.out hb2 H1.out.size)
  clear l0 k0 f0 HB0 H1 hb2
  obtain ⟨l0, k0, f0⟩ := HB1.out
  go_wp2_with fail
  generalize hW : World.setCell _ _ _ = W
  have HC := hid (show Blk W w.heap.size #[.int .u32 X, .int .u32 Y, .int .i64 32] from by rw [← hW]; exact Blk.fill [_, _, _] 0 HB1.out (by simp))
  have H3 := hid (show Below w.heap.size w W from by rw [← hW]; exact below_fill (Nat.le_refl _) [_, _, _] 0 H2.out)
  clear hW l0 k0 f0 HB1 H2
  obtain ⟨l0, k0, f0⟩ := HC.out
  refine (KK.out _).mono ?_
  rintro e w3 ⟨rfl, hb3⟩
  have HC1 := hid (HC.out.more hb3)
  have H4 := hid (below2 H3.out hb3 H3.out.size)
  clear l0 k0 f0 HC H3 hb3
  obtain ⟨l0, k0, f0⟩ := HC1.out
  go_upto_if 28 with (fail)
  have HK := hid (Blk.new w3 #[.int .u32 X, .int .u32 Y, .int .i64 32] 64)
  have HC2 := hid (HC1.out.alloc (.cells #[.int .u32 X, .int .u32 Y, .int .i64 32] 64))
  have H5 := hid (Below.alloc H4.out H4.out.size (.cells #[.int .u32 X, .int .u32 Y, .int .i64 32] 64))
  generalize w3.alloc (.cells #[.int .u32 X, .int .u32 Y, .int .i64 32] 64) = w4 at *
  generalize w3.heap.size = b9 at *
  clear l0 k0 f0 HC1 H4
  obtain ⟨l0, k0, f0⟩ := HC2.out
  obtain ⟨l1, k1, f1⟩ := HK.out
  have es : eq3 X Y 32 X Y 32 = true := by simp [eq3]
  go_wp2_with fail
  refine (KQ.out _).mono ?_
  rintro e w5 ⟨rfl, hb5⟩
  have H6 := hid (below2 H5.out hb5 H5.out.size)
  clear l0 k0 f0 l1 k1 f1 hb5 HC2 HK H5
  go_wp2
  go_ret
  exact ⟨by simp, H6.out⟩

theorem cellQuarters (cx cy l x y q : Int) (gx : 0 ≤ cx) (gx' : cx ≤ 4294967295) (gy : 0 ≤ cy) (gy' : cy ≤ 4294967295) (hx : 0 ≤ x) (hx' : x ≤ 4294967295) (hy : 0 ≤ y) (hy' : y ≤ 4294967295) (w : World) :
    Calls Try.prog 8 #[cl cx cy l, .int .u32 x, .int .u32 y, .int .i64 q] w fun e w' => e = .returned (.bool true) ∧ Below w.heap.size w w' := by
  have bl := lvl_bd l
  have KA := fun w => at_any cx cy l gx gx' gy gy' w
  by_cases hL : lvl l < 32
  · obtain ⟨A, B, hb, hc, qv, X1, Y1, A1, B1, K⟩ := qs_of cx cy l x y q gx gx' gy gy' hx hx' hy hy' hL
    exact cq_some cx cy l x y q _ _ _ X1 Y1 A1 B1 qv A B hb hc K bl.1 hL (beq_eq_false_iff_ne.2 (by omega)) KA w
  · have e : lvl l = 32 := by omega
    have fX := floor_bd gx gx' bl.1 bl.2
    have fY := floor_bd gy gy' bl.1 bl.2
    have KK := fun w => kid_any (floorI cx (lvl l)) (floorI cy (lvl l)) (lvl l) q (by omega) (by omega) (by omega) (by omega) w
    have KQ := fun w => quarter_any (floorI cx (lvl l)) (floorI cy (lvl l)) (lvl l) x y hx hx' hy hy' (by omega) (by omega) (by omega) (by omega) w
    have e2 : ∀ X b : Int, kidX X 32 b = X := fun X b => if_neg (by omega)
    have e3 : kidL 32 = 32 := by decide
    have e4 : qI 32 x y = 0 := if_neg (by omega)
    have e5 : lvl 32 = 32 := by decide
    unfold kid at KK
    rw [lvl_idem, floor_self bl.1 bl.2, floor_self bl.1 bl.2] at KK
    rw [lvl_idem] at KQ
    rw [e] at KA KK KQ
    simp only [e2, e3] at KK
    rw [e4] at KQ
    exact cq_one cx cy l x y q _ _ KA KK KQ w
end Go.Proofs.Ytohdhbamdeenlaa
