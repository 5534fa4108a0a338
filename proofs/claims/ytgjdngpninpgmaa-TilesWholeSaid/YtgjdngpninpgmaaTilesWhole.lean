/-
  Layer 41: a window that is a cell has that cell alone.
-/
import Derived.Test.YtgjdngpninpgmaaTilesAlive
namespace Go.Proofs.Ytgjdngpninpgmaa
open Go.RowKit
set_option linter.unusedVariables false
set_option linter.unusedSimpArgs false

set_option maxRecDepth 100000 in
theorem near_any (m : Int) (w : World) : Calls Try.prog 12 #[.int .i64 m] w fun e w' => (∃ k : Int, e = .returned (.int .i64 k)) ∧ w' = w := by
  go_enter Try.func12, Try.ntmps12
  go_wp2
  go_ret
  exact ⟨⟨_, rfl⟩, rfl⟩
set_option maxRecDepth 100000 in
set_option maxHeartbeats 4000000 in
theorem tilesWhole (x y L most : Int) (x0 : 0 ≤ x) (x1 : x ≤ 4294967295) (y0 : 0 ≤ y) (y1 : y ≤ 4294967295) (w : World) :
    Calls Try.prog 4 #[cl x y L, .int .i64 most] w fun e w' => e = .returned (.bool true) ∧ Below w.heap.size w w' := by
  obtain ⟨n, hn⟩ : ∃ n : Nat, lvl L = (n : Int) := ⟨(lvl L).toNat, by have := lvl_bd L; omega⟩
  have hn32 : n ≤ 32 := by have := lvl_bd L; omega
  have hln : lvl (n : Int) = (n : Int) := by rw [← hn, lvl_idem]
  have KAt := fun w => at_any x y L x0 x1 y0 y1 w
  rw [hn] at KAt
  have tx := floor_bd x0 x1 (show (0 : Int) ≤ (n : Int) by omega) (show (n : Int) ≤ 32 by omega)
  have ty := floor_bd y0 y1 (show (0 : Int) ≤ (n : Int) by omega) (show (n : Int) ≤ 32 by omega)
  have KR := fun w => rectc_any (floorI x (n : Int)) (floorI y (n : Int)) (n : Int) tx.1 (by omega) ty.1 (by omega) w
  rw [hln, floor_self (show (0 : Int) ≤ (n : Int) by omega) (show (n : Int) ≤ 32 by omega), floor_self (show (0 : Int) ≤ (n : Int) by omega) (show (n : Int) ≤ 32 by omega)] at KR
  have KC := fun m w => cover_any x y n x0 x1 y0 y1 hn32 m w
  unfold winA wayC at KC
  have KA := hid (fun w => alive41 w)
  have KN := hid (fun m w => near_any m w)
  clear tx ty hln hn hn32 x0 x1 y0 y1
  generalize floorI x (n : Int) + (pw (n : Int) - 1) = F1 at *
  generalize floorI y (n : Int) + (pw (n : Int) - 1) = G1 at *
  generalize floorI x (n : Int) = F at *
  generalize floorI y (n : Int) = G at *
  replace KAt := hid KAt
  replace KR := hid KR
  replace KC := hid KC
  have b0 := tbelow_one w (.cells #[.int .u32 x, .int .u32 y, .int .i64 L] 33)
  have P0 := hid (Blk.new w #[.int .u32 x, .int .u32 y, .int .i64 L] 33)
  have D0 := hid b0
  clear b0
  go_enter Try.func4, Try.ntmps4
  go_wp2_with fail
  refine (KA.out _).mono ?_
  rintro e w1 ⟨rfl, hb1⟩
  have D1 := hid (below2 D0.out hb1 D0.out.size)
  have P1 := hid (P0.out.more hb1)
  clear hb1 KA P0 D0
  obtain ⟨l1, m1, f1⟩ := P1.out
  go_wp2_with fail
  refine (KAt.out _).mono ?_
  rintro e w2 ⟨rfl, hb2⟩
  have D2 := below2 D1.out hb2 D1.out.size
  have P2 := P1.out.more hb2
  have P2s := hid (((P2.set 0 (.int .u32 F) (by simp)).set 1 (.int .u32 G) (by simp)).set 2 (.int .i64 (n : Int)) (by simp))
  have S2 := ((Sole.setCell (S := fun k => k = w.heap.size) w2 (b := w.heap.size) (o := 0) (.int .u32 F) rfl).trans (Sole.setCell _ (b := w.heap.size) (o := 1) (.int .u32 G) rfl)).trans (Sole.setCell _ (b := w.heap.size) (o := 2) (.int .i64 (n : Int)) rfl)
  have D2s := hid (D2.trans (S2.below (B := w.heap.size) D2.size fun k e => by omega))
  clear D2 S2 hb2 KAt D1 P1 l1 m1 f1
  obtain ⟨l2, m2, f2⟩ := P2
  have P3 := P2s.out
  simp only [List.setIfInBounds_toArray, List.set_cons_zero, List.set_cons_succ] at P3
  have P3h := hid P3
  obtain ⟨l3, m3, f3⟩ := P3
  go_wp2_with fail
  refine (KR.out _).mono ?_
  rintro e w4 ⟨rfl, hb4⟩
  have D4 := hid (below2 D2s.out hb4 D2s.out.size)
  have P4 := hid (P3h.out.more hb4)
  clear hb4 KR P3h P2s D2s l2 m2 f2 l3 m3 f3
  go_wp2_with fail
  refine (KN.out _ _).mono ?_
  rintro e w5 ⟨⟨k5, rfl⟩, hw5⟩
  rw [hw5]
  clear hw5 w5 KN
  go_wp2_with fail
  refine (KC.out _ _).mono ?_
  rintro e w6 ⟨p, c, rfl, O6, hb6⟩
  have hcur : ∃ g cur, p = some ⟨g, 0, none⟩ ∧ Blk w6 g cur ∧ cur[0]? = some (.int .u32 F) ∧ cur[1]? = some (.int .u32 G) ∧ cur[2]? = some (.int .i64 (n : Int)) := by
    rcases O6.2 with ⟨_, h0⟩ | ⟨g, cap, cur, e, hb, hg, h1, h2, h3, h4⟩
    · cases h0
    · simp only [Value.slice.injEq] at e
      refine ⟨g, cur, e.1, ⟨(O6.lt g (by rw [e.1]; rfl)).2, fun o => by simp [World.cell?, hg], fun o => by simp [World.frozen?, hg]⟩, ?_, ?_, ?_⟩
      · have := congrArg (·[0]?) h4
        simpa [flatR, clT] using this
      · have := congrArg (·[1]?) h4
        simpa [flatR, clT] using this
      · have := congrArg (·[2]?) h4
        simpa [flatR, clT] using this
  obtain ⟨g, cur, rfl, BC, hc0, hc1, hc2⟩ := hcur
  have D6 := hid (below2 D4.out hb6 D4.out.size)
  have P6 := hid (P4.out.more hb6)
  have BCh := hid BC
  have h3 : eq3 F G (n : Int) F G (n : Int) = true := by simp [eq3]
  clear O6 hb6 KC P4 D4 BC
  go_wp2_with fail
  have q0 := fun u : Later w6 => u.blk BCh.out
  have q1 := fun u : Later w6 => u.blk P6.out
  refine wp_region_late 10 (by kernel_rfl) (by kernel_rfl) ?_
  simp only [List.take_succ_cons, List.take_zero, List.drop_succ_cons, List.drop_zero]
  iterate 10 (go_big_quiet_step (fail))
  refine wpQuiet_nil ?_
  intro w7 h7'
  have h7 := late_out h7'
  have E := hid (below2 D6.out h7 D6.out.size)
  clear h7 h7' q0 q1
  go_wp2_with fail
  go_ret
  exact ⟨rfl, E.out⟩
end Go.Proofs.Ytgjdngpninpgmaa
