/-
  Package tiles: Order and Spans of the root; the example of layer 41.
-/
import Derived.Test.YtdepmoocjnmbeaaTilesCover
import Derived.Test.YtdepmoocjnmbeaaTilesSort
import Derived.Test.YtdepmoocjnmbeaaZorder
namespace Go.Proofs.Ytdepmoocjnmbeaa
open Go.RowKit
set_option linter.unusedVariables false
set_option linter.unusedSimpArgs false

set_option maxRecDepth 100000 in
theorem join_zero (w : World) : Calls Try.prog 17 #[.int .u32 0, .int .u32 0] w fun e w' => e = .returned (.int .u64 0) ∧ Below w.heap.size w w' := by
  have K1 := fun w => spread_nat 0 (by decide) w
  rw [show ((spreadN 0 : Nat) : Int) = 0 from by decide, show ((0 : Nat) : Int) = 0 from rfl] at K1
  have o1 : bits .or .u64 0 0 = 0 := by decide
  replace K1 := hid K1
  go_enter Try.func17, Try.ntmps17
  go_wp2_with fail
  refine (K1.out _).mono ?_
  rintro e w1 ⟨rfl, hb1⟩
  have D1 := hid hb1
  clear hb1
  go_wp2_with fail
  refine (K1.out _).mono ?_
  rintro e w2 ⟨rfl, hb2⟩
  have D2 := hid (below2 D1.out hb2 D1.out.size)
  clear hb2
  go_wp2_with fail
  go_ret
  exact ⟨rfl, D2.out⟩
set_option maxRecDepth 100000 in
set_option maxHeartbeats 4000000 in
theorem order_one (p : Option Addr) (c : Nat) (w : World) (R : RowOf clT w p [⟨0, 0, 0⟩]) :
    Calls Try.prog 18 #[.slice p 1 c] w fun e w' => ∃ q d, e = .returned (.slice q 1 d) ∧ RowOf clT w' q [⟨0, 0, 0⟩] ∧ Below w.heap.size w w' := by
  obtain ⟨b8, o8, rfl, R8⟩ := R.row (by simp)
  have c0 := R8.at0 (i := 0) (by simp) (v := .int .u32 0) rfl
  have c1 := R8.at1 (i := 0) (by simp) (v := .int .u32 0) rfl
  have c2 := R8.at2 (i := 0) (by simp) (v := .int .i64 0) rfl
  simp only [Nat.zero_mul, Nat.add_zero] at c0 c1 c2
  have b0 := tbelow_one w (.cells #[.int .u32 0, .int .u32 0, .int .i64 0] 32)
  have D0 := hid b0
  have KA := fun w => at_any 0 0 0 (by omega) (by omega) (by omega) (by omega) w
  rw [show floorI 0 (lvl 0) = 0 by decide, show lvl 0 = 0 by decide] at KA
  replace KA := hid KA
  have KS := hid (fun p c f w => tksort1 p c f w)
  clear R R8 b0
  go_enter Try.func18, Try.ntmps18
  go_wp2_with fail
  refine wp_loop_rounds 2 ?_
  rw [rounds_succ]
  go_wp2_with fail
  refine (KA.out _).mono ?_
  rintro e w2 ⟨rfl, hb2⟩
  have D2 := hid (below2 D0.out hb2 D0.out.size)
  have hZ := hid (fun (Z : Array Value) => show RowOf clT ((w2.alloc (.cells #[.int .u32 0, .int .u32 0, .int .i64 0] 32)).alloc (.cells (#[.int .u32 0, .int .u32 0, .int .i64 0] ++ Z) 32)).drew (some ⟨w2.heap.size + 1, 0, none⟩) [⟨0, 0, 0⟩] ∧ Below w.heap.size w ((w2.alloc (.cells #[.int .u32 0, .int .u32 0, .int .i64 0] 32)).alloc (.cells (#[.int .u32 0, .int .u32 0, .int .i64 0] ++ Z) 32)).drew from by
    have b1 := tbelow_one w2 (.cells #[.int .u32 0, .int .u32 0, .int .i64 0] 32)
    have b2 := tbelow_one (w2.alloc (.cells #[.int .u32 0, .int .u32 0, .int .i64 0] 32)) (.cells (#[.int .u32 0, .int .u32 0, .int .i64 0] ++ Z) 32)
    have BZ := Blk.new (w2.alloc (.cells #[.int .u32 0, .int .u32 0, .int .i64 0] 32)) (#[.int .u32 0, .int .u32 0, .int .i64 0] ++ Z) 32
    rw [show (w2.alloc (.cells #[.int .u32 0, .int .u32 0, .int .i64 0] 32)).heap.size = w2.heap.size + 1 by simp] at BZ
    refine ⟨.inr ⟨w2.heap.size + 1, 0, rfl, BZ.lt, fun i hi j v hv => ?_⟩, (below2 D2.out (below2 b1 b2 b1.size) D2.out.size).drew⟩
    have hi0 : i = 0 := by simpa using hi
    subst hi0
    have hv' : ([Value.int .u32 0, .int .u32 0, .int .i64 0] : List Value)[j]? = some v := hv
    have hj : j < 3 := by
      by_cases h : j < 3
      · exact h
      · rw [List.getElem?_eq_none (by simp; omega)] at hv'; cases hv'
    have hget : (#[Value.int .u32 0, .int .u32 0, .int .i64 0] ++ Z)[j]? = some v := by
      rw [Array.getElem?_append_left (by simp; omega)]
      rcases (by omega : j = 0 ∨ j = 1 ∨ j = 2) with rfl | rfl | rfl <;> simpa using hv'
    have hcell := BZ.cell (0 + 0 * clT.sz + j)
    rw [show 0 + 0 * clT.sz + j = j by simp] at hcell ⊢
    exact hcell.trans hget)
  clear hb2 KA c0 c1 c2 D0
  go_wp2_with fail
  rw [rounds_succ]
  go_wp2_with fail
  refine (KS.out _ _ _ _).mono ?_
  rintro e w3 ⟨rfl, hw⟩
  rw [hw]
  clear hw w3 KS
  go_wp2_with fail
  go_ret
  exact ⟨_, _, rfl, hZ.out _⟩
set_option maxRecDepth 100000 in
set_option maxHeartbeats 4000000 in
theorem spans_one (p : Option Addr) (c : Nat) (w : World) (R : RowOf clT w p [⟨0, 0, 0⟩]) :
    Calls Try.prog 16 #[.slice p 1 c] w fun e w' => ∃ q d, e = .returned (.slice q 1 d) ∧ Below w.heap.size w w' := by
  have KO := hid (order_one p c w R)
  have KJ := hid (fun w => join_zero w)
  clear R
  go_enter Try.func16, Try.ntmps16
  go_wp2_with fail
  refine KO.out.mono ?_
  rintro e w1 ⟨q, d, rfl, R1, hb1⟩
  obtain ⟨b8, o8, rfl, R8⟩ := R1.row (by simp)
  have c0 := R8.at0 (i := 0) (by simp) (v := .int .u32 0) rfl
  have c1 := R8.at1 (i := 0) (by simp) (v := .int .u32 0) rfl
  have c2 := R8.at2 (i := 0) (by simp) (v := .int .i64 0) rfl
  simp only [Nat.zero_mul, Nat.add_zero] at c0 c1 c2
  have b0 := tbelow_one w1 (.cells #[.int .u32 0, .int .u32 0, .int .i64 0] 32)
  have P0 := hid (Blk.new w1 #[.int .u32 0, .int .u32 0, .int .i64 0] 32)
  have D1 := hid (below2 hb1 b0 hb1.size)
  clear R1 R8 b0 hb1 KO
  go_wp2_with fail
  refine wp_loop_rounds 2 ?_
  rw [rounds_succ]
  go_wp2_with fail
  refine (KJ.out _).mono ?_
  rintro e w2 ⟨rfl, hb2⟩
  have D2 := hid (below2 D1.out hb2 D1.out.size)
  have P2 := P0.out.more hb2
  obtain ⟨l2, m2, f2⟩ := P2
  have o1 : bits .or .u64 0 18446744073709551615 = 18446744073709551615 := by decide
  have hZ := hid (fun (A Z : Array Value) => show Below w.heap.size w ((w2.alloc (.cells A 44)).alloc (.cells Z 44)).drew from (below2 D2.out (below2 (tbelow_one _ _) (tbelow_one _ _) (by simp)) D2.out.size).drew)
  clear hb2 c0 c1 c2 KJ P0 D1
  go_wp2_with fail
  rw [rounds_succ]
  go_wp2_with fail
  go_ret
  exact ⟨_, _, rfl, hZ.out _ _⟩
set_option maxRecDepth 100000 in
set_option maxHeartbeats 4000000 in
theorem alive41 (w : World) : Calls Try.prog 6 #[] w fun e w' => e = .returned (.bool true) ∧ Below w.heap.size w w' := by
  have KC := fun w => cover_any 0 0 0 (by omega) (by omega) (by omega) (by omega) (by omega) 9 w
  have hw0 : winA 0 0 ((0 : Nat) : Int) = rct 0 0 4294967295 4294967295 := by
    unfold winA
    rw [show ((0 : Nat) : Int) = 0 from rfl, floor_zero (by omega) (by omega), show pw 0 = 4294967296 by decide]
    rfl
  have hc0 : wayC 0 0 0 = ⟨0, 0, 0⟩ := by
    unfold wayC
    rw [show ((0 : Nat) : Int) = 0 from rfl, floor_zero (by omega) (by omega)]
  rw [hw0, hc0] at KC
  replace KC := hid KC
  clear hw0 hc0
  have KR := hid (fun w => root_any w)
  go_enter Try.func6, Try.ntmps6
  go_wp2_with fail
  refine (KC.out _).mono ?_
  rintro e w1 ⟨p, c, rfl, O1, hb1⟩
  obtain ⟨p', c', e', _, _, R1⟩ := RowOwn.open clOk O1
  obtain ⟨rfl, rfl⟩ : p = p' ∧ c = c' := by simp only [Value.slice.injEq] at e'; exact ⟨e'.1, e'.2.2⟩
  have hcur : ∃ g cur, p = some ⟨g, 0, none⟩ ∧ Blk w1 g cur ∧ cur[0]? = some (.int .u32 0) ∧ cur[1]? = some (.int .u32 0) ∧ cur[2]? = some (.int .i64 0) := by
    rcases O1.2 with ⟨_, h0⟩ | ⟨g, cap, cur, e, hb, hg, h1, h2, h3, h4⟩
    · cases h0
    · simp only [Value.slice.injEq] at e
      refine ⟨g, cur, e.1, ⟨(O1.lt g (by rw [e.1]; rfl)).2, fun o => by simp [World.cell?, hg], fun o => by simp [World.frozen?, hg]⟩, ?_, ?_, ?_⟩
      · have := congrArg (·[0]?) h4
        simpa [flatR, clT] using this
      · have := congrArg (·[1]?) h4
        simpa [flatR, clT] using this
      · have := congrArg (·[2]?) h4
        simpa [flatR, clT] using this
  obtain ⟨g, cur, rfl, BC, hc0, hc1, hc2⟩ := hcur
  have BCh := hid BC
  have D1 := hid hb1
  have KS : Hid (∀ u, Below w1.heap.size w1 u → Calls Try.prog 16 #[.slice (some ⟨g, 0, none⟩) 1 c] u fun e w' => ∃ v, e = .returned v ∧ Below u.heap.size u w' ∧ OneV v w') := hid (fun u hu => (spans_one _ c u (RowOf.more R1 hu)).mono fun e w' ⟨q, d, he, hb⟩ => ⟨_, he, hb, q, d, rfl⟩)
  have h3 : eq3 0 0 0 0 0 0 = true := by decide
  clear O1 e' R1 BC hb1 KC
  go_wp2_with fail
  refine wp_region_order [([0, 1, 2, 3, 4, 5, 6, 7, 8, 9, 10, 11], 12)] [13, 14, 15] 16 (by kernel_rfl) (by kernel_rfl) (by kernel_rfl) ?_
  refine order_call ?A1 ?walk1 _ 16 #[.slice (some ⟨g, 0, none⟩) 1 c] OneV OneV.stable (by rfl) (by rfl) ?want1 ?run1 ?call1 ?next1
  case walk1 =>
    intro S hS hSS hN
    have q0 := fun u : LaterC w1 S => LaterC.blk BCh.out u
    simp only [List.filterMap_cons, List.filterMap_nil, List.getElem?_toArray, List.getElem?_cons_succ, List.getElem?_cons_zero]
    change wpQuiet _ _ _ _ [_, _, _, _, _, _, _, _, _, _, _, _] _
    iterate 12 (go_big_quiet_step ((go_at_call 19; (with_reducible exact latec_call hS (KR.out _)))))
    refine wpQuiet_nil ?_
    rfl
  case want1 => kernel_rfl
  case run1 => intro w2; simp [execOp, Act.eval, go_sem]
  case call1 => exact fun u => KS.out _ u.h
  case next1 =>
    intro v hN1
    obtain ⟨pm, cm, rfl⟩ := (Classical.choice hN1).s.2
    simp only [Act.put, Option.bind_some, List.setIfInBounds_toArray, List.set_cons_zero, List.set_cons_succ]
    refine order_last ?A3 ?walk3 ?fin
    case walk3 =>
      intro S hS hSS hN
      simp only [List.filterMap_cons, List.filterMap_nil, List.getElem?_toArray, List.getElem?_cons_succ, List.getElem?_cons_zero]
      change wpQuiet _ _ _ _ [_, _, _] _
      iterate 3 (go_big_quiet_step (fail))
      refine wpQuiet_nil ?_
      rfl
    case fin =>
      intro u
      have h4 := hid (below2 D1.out u.h D1.out.size)
      generalize u.val = w9 at *
      simp only [List.drop_succ_cons, List.drop_zero]
      go_wp2_with fail
      go_ret
      exact ⟨rfl, h4.out⟩
end Go.Proofs.Ytdepmoocjnmbeaa
