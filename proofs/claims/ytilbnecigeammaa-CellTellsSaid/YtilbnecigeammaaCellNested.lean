/-
  Layer 4: of a place's cells each greater one has the lesser one, and all its places. The walk of CellNested.
-/
import Derived.Test.YtilbnecigeammaaCell
namespace Go.Proofs.Ytilbnecigeammaa
open Go.RowKit
set_option linter.unusedVariables false

theorem eq3_self (a b c : Int) : eq3 a b c a b c = true := by simp [eq3]
theorem has_iff {cx cy l x y : Int} : hasB cx cy l x y = true ↔ floorI x (lvl l) = floorI cx (lvl l) ∧ floorI y (lvl l) = floorI cy (lvl l) := by
  simp [hasB, eq3]

set_option maxRecDepth 100000 in
set_option maxHeartbeats 4000000 in
theorem cellNested (x y a b u v : Int) (hx : 0 ≤ x) (hx' : x ≤ 4294967295) (hy : 0 ≤ y) (hy' : y ≤ 4294967295) (hu : 0 ≤ u) (hu' : u ≤ 4294967295) (hv : 0 ≤ v) (hv' : v ≤ 4294967295) (w : World) :
    Calls Try.prog 5 #[.int .u32 x, .int .u32 y, .int .i64 a, .int .i64 b, .int .u32 u, .int .u32 v] w fun e w' => e = .returned (.bool true) ∧ Below w.heap.size w w' := by
  have pa := lvl_bd a
  have pb := lvl_bd b
  unfold lvl at pa pb
  generalize hA : min (max a 0) 32 = p at *
  generalize hB : min (max b 0) 32 = q at *
  have hm : 0 ≤ min p q ∧ min p q ≤ max p q ∧ max p q ≤ 32 := by omega
  generalize hmin : min p q = m at *
  generalize hmax : max p q = M at *
  have em : lvl m = m := by unfold lvl; omega
  have eM : lvl M = M := by unfold lvl; omega
  have K1 := fun w => at_any x y m hx hx' hy hy' w
  have K2 := fun w => at_any x y M hx hx' hy hy' w
  rw [em] at K1
  rw [eM] at K2
  have bx := floor_bd hx hx' (L := M) (by omega) (by omega)
  have bY := floor_bd hy hy' (L := M) (by omega) (by omega)
  have cx := floor_bd hx hx' (L := m) (by omega) (by omega)
  have cy := floor_bd hy hy' (L := m) (by omega) (by omega)
  have K3 := fun w => at_any (floorI x M) (floorI y M) m (by omega) (by omega) (by omega) (by omega) w
  rw [em, floor_floor hm.1 hm.2.1 hm.2.2, floor_floor hm.1 hm.2.1 hm.2.2] at K3
  have K4 := fun w => has_any (floorI x M) (floorI y M) M u v hu hu' hv hv' (by omega) (by omega) (by omega) (by omega) w
  have K5 := fun w => has_any (floorI x m) (floorI y m) m u v hu hu' hv hv' (by omega) (by omega) (by omega) (by omega) w
  have K6 := fun w => has_any (floorI x m) (floorI y m) m x y hx hx' hy hy' (by omega) (by omega) (by omega) (by omega) w
  have h6 : hasB (floorI x m) (floorI y m) m x y = true := by
    rw [has_iff, em, floor_self hm.1 (by omega), floor_self hm.1 (by omega)]; exact ⟨rfl, rfl⟩
  rw [h6] at K6
  have ways : hasB (floorI x M) (floorI y M) M u v = false ∨ (hasB (floorI x M) (floorI y M) M u v = true ∧ hasB (floorI x m) (floorI y m) m u v = true) := by
    cases h : hasB (floorI x M) (floorI y M) M u v
    · exact .inl rfl
    · refine .inr ⟨rfl, ?_⟩
      rw [has_iff, eM, floor_self (by omega) hm.2.2, floor_self (by omega) hm.2.2] at h
      rw [has_iff, em, floor_self hm.1 (by omega), floor_self hm.1 (by omega)]
      rw [← floor_floor (x := u) hm.1 hm.2.1 hm.2.2, ← floor_floor (x := v) hm.1 hm.2.1 hm.2.2, h.1, h.2, floor_floor hm.1 hm.2.1 hm.2.2, floor_floor hm.1 hm.2.1 hm.2.2]
      exact ⟨rfl, rfl⟩
  generalize hasB (floorI x M) (floorI y M) M u v = h1 at *
  generalize hasB (floorI x m) (floorI y m) m u v = h2 at *
  generalize floorI x M = X2 at *
  generalize floorI y M = Y2 at *
  generalize floorI x m = X1 at *
  generalize floorI y m = Y1 at *
  have es := eq3_self X1 Y1 m
  replace K1 := hid K1
  replace K2 := hid K2
  replace K3 := hid K3
  replace K4 := hid K4
  replace K5 := hid K5
  replace K6 := hid K6
  replace ways := hid ways
  clear pa pb hm em eM bx bY cx cy h6
  go_enter Try.func5, Try.ntmps5
  go_wp2_with fail
  refine (alive4 _).mono ?_
  rintro e w1 ⟨rfl, hb1⟩
  have H1 := hid hb1
  clear hb1
  go_wp2_with fail
  refine (K1.out _).mono ?_
  rintro e w2 ⟨rfl, hb2⟩
  have H2 := hid (below2 H1.out hb2 H1.out.size)
  clear hb2
  go_wp2_with fail
  refine (K2.out _).mono ?_
  rintro e w3 ⟨rfl, hb3⟩
  have H3 := hid (below2 H2.out hb3 H2.out.size)
  clear hb3
  go_wp2_with fail
  obtain ⟨B0, B1, H⟩ := @boxed2 w3 _ #[.int .u32 X1, .int .u32 Y1, .int .i64 m] #[.int .u32 X2, .int .u32 Y2, .int .i64 M] 24 24 (Below.refl _ _)
  generalize (w3.alloc (.cells #[.int .u32 X1, .int .u32 Y1, .int .i64 m] 24)).alloc (.cells #[.int .u32 X2, .int .u32 Y2, .int .i64 M] 24) = W at B0 B1 H ⊢
  have q0 := fun u : Later W => u.blk B0
  have q1 := fun u : Later W => u.blk B1
  have H4 := hid (below2 H3.out H H3.out.size)
  clear H B0 B1 H1 H2 H3
  have ways := ways.out
  rcases ways with rfl | ⟨rfl, rfl⟩
  all_goals
    refine wp_region_late 28 (by kernel_rfl) (by kernel_rfl) ?_
    simp only [List.take_succ_cons, List.take_zero, List.drop_succ_cons, List.drop_zero]
    repeat (quiet_step (first
      | (go_at_call 20; (with_reducible exact late_call (K3.out _)))
      | (go_at_call 18; first | (with_reducible exact late_call (K4.out _)) | (with_reducible exact late_call (K5.out _)) | (with_reducible exact late_call (K6.out _)))))
    refine wpQuiet_nil ?_
    intro w5 h5'
    have h5 := late_out h5'
    clear h5'
    go_wp2
    go_ret
    exact ⟨by simp, H4.out.trans (h5.mono H4.out.size)⟩
end Go.Proofs.Ytilbnecigeammaa
