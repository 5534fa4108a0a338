/-
  Layer 34: the law's own small places, and its own way of telling which way it goes; the page's example.
-/
import Derived.Test.YtahdhgaoofpefaaPolyTurn
namespace Go.Proofs.Ytahdhgaoofpefaa
open Go.RowKit
set_option linter.unusedVariables false
set_option linter.unusedSimpArgs false

def sm (x : Int) : Int := x % 1048576
theorem sm_bd (x : Int) : 0 ≤ sm x ∧ sm x ≤ 1048575 := by unfold sm; omega

theorem small_any (id x y : Int) (dv : Value) (hx : 0 ≤ x) (hx' : x ≤ 4294967295) (hy : 0 ≤ y) (hy' : y ≤ 4294967295) (w : World) :
    Calls Try.prog 40 #[pt id x y dv] w fun e w' => e = .returned (.tuple #[.int .i64 (sm x), .int .i64 (sm y)]) ∧ Below w.heap.size w w' := by
  unfold sm
  have t1 : x.tmod 1048576 = x % 1048576 := Int.tmod_eq_emod_of_nonneg hx
  have t2 : y.tmod 1048576 = y % 1048576 := Int.tmod_eq_emod_of_nonneg hy
  have u1 : IntKind.i64.wrap (x % 1048576) = x % 1048576 := IntWalk.i64_in _ (by omega)
  have u2 : IntKind.i64.wrap (y % 1048576) = y % 1048576 := IntWalk.i64_in _ (by omega)
  go_enter Try.func40, Try.ntmps40
  go_wp2_with fail
  generalize hW : w.alloc _ = W
  have B0 := hid (hW ▸ Blk.new w _ _ : Blk W w.heap.size _)
  have H1 : Hid (Below w.heap.size w W) := hid (hW ▸ Below.alloc (Below.refl _ _) (Nat.le_refl _) _)
  have q0 := fun u : Later W => u.blk B0.out
  clear hW
  refine wp_region_late 9 (by kernel_rfl) (by kernel_rfl) ?_
  simp only [List.take_succ_cons, List.take_zero, List.drop_succ_cons, List.drop_zero]
  repeat (quiet_step (fail))
  refine wpQuiet_nil ?_
  intro w3 h3'
  have h3 := late_out h3'
  clear h3'
  go_wp2
  go_ret2
  exact ⟨rfl, H1.out.trans (h3.mono H1.out.size)⟩

theorem mul_small {a b : Int} (h : -1048575 ≤ a) (h' : a ≤ 1048575) (g : -1048575 ≤ b) (g' : b ≤ 1048575) : -1099509530625 ≤ a * b ∧ a * b ≤ 1099509530625 := by
  have e : (a * b).natAbs ≤ 1048575 * 1048575 := by
    rw [Int.natAbs_mul]
    exact Nat.mul_le_mul (by omega) (by omega)
  omega

set_option maxRecDepth 100000 in
set_option maxHeartbeats 4000000 in
theorem lawturn_any (ia ib ic ax ay bx by' cx cy : Int) (da db dc : Value) (h1 : 0 ≤ ax) (h1' : ax ≤ 4294967295) (h2 : 0 ≤ ay) (h2' : ay ≤ 4294967295) (h3 : 0 ≤ bx) (h3' : bx ≤ 4294967295) (h4 : 0 ≤ by') (h4' : by' ≤ 4294967295) (h5 : 0 ≤ cx) (h5' : cx ≤ 4294967295) (h6 : 0 ≤ cy) (h6' : cy ≤ 4294967295) (w : World) :
    Calls Try.prog 28 #[pt ia ax ay da, pt ib bx by' db, pt ic cx cy dc] w fun e w' => e = .returned (.int .i64 (turnI (sm ax) (sm ay) (sm bx) (sm by') (sm cx) (sm cy))) ∧ Below w.heap.size w w' := by
  have K1 := hid (fun w => small_any ia ax ay da h1 h1' h2 h2' w)
  have K2 := hid (fun w => small_any ib bx by' db h3 h3' h4 h4' w)
  have K3 := hid (fun w => small_any ic cx cy dc h5 h5' h6 h6' w)
  have b1 := sm_bd ax
  have b2 := sm_bd ay
  have b3 := sm_bd bx
  have b4 := sm_bd by'
  have b5 := sm_bd cx
  have b6 := sm_bd cy
  unfold turnI
  generalize sm ax = A1 at *
  generalize sm ay = A2 at *
  generalize sm bx = B1 at *
  generalize sm by' = B2 at *
  generalize sm cx = C1 at *
  generalize sm cy = C2 at *
  have m1 := mul_small (a := B1 - A1) (b := C2 - A2) (by omega) (by omega) (by omega) (by omega)
  have m2 := mul_small (a := B2 - A2) (b := C1 - A1) (by omega) (by omega) (by omega) (by omega)
  have e1 : IntKind.i64.wrap ((B1 - A1) * (C2 - A2)) = (B1 - A1) * (C2 - A2) := IntWalk.i64_in _ (by omega)
  have e2 : IntKind.i64.wrap ((B2 - A2) * (C1 - A1)) = (B2 - A2) * (C1 - A1) := IntWalk.i64_in _ (by omega)
  generalize hp : (B1 - A1) * (C2 - A2) = p at *
  generalize hq : (B2 - A2) * (C1 - A1) = q at *
  have e3 : IntKind.i64.wrap (p - q) = p - q := IntWalk.i64_in _ (by omega)
  have ways : (0 < p - q ∧ cmpI p q = 1) ∨ (¬ 0 < p - q ∧ p - q < 0 ∧ cmpI p q = -1) ∨ (¬ 0 < p - q ∧ ¬ p - q < 0 ∧ cmpI p q = 0) := by
    unfold cmpI; split <;> (try split) <;> omega
  generalize hn : p - q = n at *
  clear h1 h1' h2 h2' h3 h3' h4 h4' h5 h5' h6 h6' m1 m2
  rcases ways with ⟨g1, e⟩ | ⟨g1, g2, e⟩ | ⟨g1, g2, e⟩
  all_goals
    rw [e]
    clear e
    go_enter Try.func28, Try.ntmps28
    go_wp2_with fail
    refine (K1.out _).mono ?_
    rintro e w1 ⟨rfl, hb1⟩
    obtain ⟨P0, P1, P2, H⟩ := boxed3 hb1
    have HB1 := hid P1
    have HB2 := hid P2
    have H1 := hid H
    obtain ⟨l1, k1, f1⟩ := P1
    clear hb1 H P0 P2
    go_wp2_with fail
    refine (K2.out _).mono ?_
    rintro e w2 ⟨rfl, hb2⟩
    have HC2 := hid (HB2.out.more hb2)
    have H2 := hid (below2 H1.out hb2 H1.out.size)
    clear l1 k1 f1 HB1 HB2 H1 hb2
    obtain ⟨l1, k1, f1⟩ := HC2.out
    go_wp2_with fail
    refine (K3.out _).mono ?_
    rintro e w3 ⟨rfl, hb3⟩
    have H3 := hid (below2 H2.out hb3 H2.out.size)
    clear l1 k1 f1 HC2 H2 hb3
    go_wp2
    go_ret
    exact ⟨rfl, H3.out⟩

set_option maxRecDepth 100000 in
set_option maxHeartbeats 4000000 in
theorem alive34 (w : World) : Calls Try.prog 26 #[] w fun e w' => e = .returned (.bool true) ∧ Below w.heap.size w w' := by
  have K1 := fun (d1 d2 d3 : Value) w => polyTurn_any 0 0 0 0 0 1 0 0 1 d1 d2 d3 (by omega) (by omega) (by omega) (by omega) (by omega) (by omega) (by omega) (by omega) (by omega) (by omega) (by omega) (by omega) w
  have K2 := fun (d1 d2 d3 : Value) w => polyTurn_any 0 0 0 0 0 0 1 1 0 d1 d2 d3 (by omega) (by omega) (by omega) (by omega) (by omega) (by omega) (by omega) (by omega) (by omega) (by omega) (by omega) (by omega) w
  have K3 := fun (d1 d2 d3 : Value) w => polyTurn_any 0 0 0 0 0 1 0 1 0 d1 d2 d3 (by omega) (by omega) (by omega) (by omega) (by omega) (by omega) (by omega) (by omega) (by omega) (by omega) (by omega) (by omega) w
  rw [show turnI 0 0 1 0 0 1 = 1 from by decide] at K1
  rw [show turnI 0 0 0 1 1 0 = -1 from by decide] at K2
  rw [show turnI 0 0 1 0 1 0 = 0 from by decide] at K3
  replace K1 := hid K1
  replace K2 := hid K2
  replace K3 := hid K3
  go_enter Try.func26, Try.ntmps26
  go_wp2_with fail
  refine (K1.out _ _ _ _).mono ?_
  rintro e w1 ⟨rfl, hb1⟩
  obtain ⟨P0, P1, P2, H⟩ := boxed3 hb1
  have HB0 := hid P0
  have HB1 := hid P1
  have HB2 := hid P2
  have H1 := hid H
  obtain ⟨l0, k0, f0⟩ := P0
  obtain ⟨l1, k1, f1⟩ := P1
  obtain ⟨l2, k2, f2⟩ := P2
  clear hb1 H
  go_wp2_with fail
  refine (K2.out _ _ _ _).mono ?_
  rintro e w2 ⟨rfl, hb2⟩
  have HC0 := hid (HB0.out.more hb2)
  have HC1 := hid (HB1.out.more hb2)
  have H2 := hid (below2 H1.out hb2 H1.out.size)
  clear l0 k0 f0 l1 k1 f1 l2 k2 f2 HB0 HB1 HB2 H1 hb2
  obtain ⟨l0, k0, f0⟩ := HC0.out
  obtain ⟨l1, k1, f1⟩ := HC1.out
  go_wp2_with fail
  refine (K3.out _ _ _ _).mono ?_
  rintro e w3 ⟨rfl, hb3⟩
  have H3 := hid (below2 H2.out hb3 H2.out.size)
  clear l0 k0 f0 l1 k1 f1 HC0 HC1 H2 hb3
  go_wp2
  go_ret
  exact ⟨by simp, H3.out⟩
end Go.Proofs.Ytahdhgaoofpefaa
