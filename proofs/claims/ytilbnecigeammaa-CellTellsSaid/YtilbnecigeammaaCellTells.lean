/-
  Layer 4: any cell as it is taken, its places, and which quarter a place is in. The walk of CellTells.
-/
import Derived.Test.YtilbnecigeammaaCellMore
import Derived.Test.YtilbnecigeammaaCellNested
import Derived.Deep.DeepCutAuto
namespace Go.Proofs.Ytilbnecigeammaa
open Go.RowKit
set_option linter.unusedVariables false

theorem floor_eq_iff {x X p : Int} (hp : 1 ≤ p) : (x / p * p = X / p * p) ↔ (X / p * p ≤ x ∧ x ≤ X / p * p + (p - 1)) := by
  have a1 := Int.emod_add_mul_ediv x p
  have a2 := Int.emod_nonneg x (show p ≠ 0 by omega)
  have a3 := Int.emod_lt_of_pos x (show 0 < p by omega)
  rw [Int.mul_comm] at a1
  constructor
  · intro h; omega
  · intro ⟨h1, h2⟩
    have e : x / p = X / p := by
      have l1 : X / p ≤ x / p := Int.le_ediv_of_mul_le (by omega) h1
      have l2 : x / p < X / p + 1 := by
        apply Int.ediv_lt_of_lt_mul (by omega)
        rw [Int.add_mul, Int.one_mul]; omega
      omega
    rw [e]

theorem has_ways (cx cy l x y : Int) : (hasB cx cy l x y = true ∧ floorI cx (lvl l) ≤ x ∧ x ≤ floorI cx (lvl l) + (pw (lvl l) - 1) ∧ floorI cy (lvl l) ≤ y ∧ y ≤ floorI cy (lvl l) + (pw (lvl l) - 1)) ∨
    (hasB cx cy l x y = false ∧ decide (floorI cx (lvl l) ≤ x) = false) ∨ (hasB cx cy l x y = false ∧ floorI cx (lvl l) ≤ x ∧ decide (x ≤ floorI cx (lvl l) + (pw (lvl l) - 1)) = false) ∨
    (hasB cx cy l x y = false ∧ floorI cx (lvl l) ≤ x ∧ x ≤ floorI cx (lvl l) + (pw (lvl l) - 1) ∧ decide (floorI cy (lvl l) ≤ y) = false) ∨
    (hasB cx cy l x y = false ∧ floorI cx (lvl l) ≤ x ∧ x ≤ floorI cx (lvl l) + (pw (lvl l) - 1) ∧ floorI cy (lvl l) ≤ y ∧ decide (y ≤ floorI cy (lvl l) + (pw (lvl l) - 1)) = false) := by
  have bl := lvl_bd l
  have p := (pw_bd bl.1 bl.2).1
  have h : hasB cx cy l x y = true ↔ ((floorI cx (lvl l) ≤ x ∧ x ≤ floorI cx (lvl l) + (pw (lvl l) - 1)) ∧ (floorI cy (lvl l) ≤ y ∧ y ≤ floorI cy (lvl l) + (pw (lvl l) - 1))) := by
    rw [has_iff]
    unfold floorI
    rw [floor_eq_iff p, floor_eq_iff p]
  simp only [decide_eq_false_iff_not]
  generalize floorI cx (lvl l) = X at *
  generalize floorI cy (lvl l) = Y at *
  generalize pw (lvl l) - 1 = s at *
  cases hb : hasB cx cy l x y
  · have g : ¬ ((X ≤ x ∧ x ≤ X + s) ∧ (Y ≤ y ∧ y ≤ Y + s)) := fun k => by rw [h.2 k] at hb; cases hb
    simp only [Bool.false_eq_true, false_and, true_and, false_or]
    omega
  · have g := h.1 hb
    exact .inl ⟨rfl, g.1.1, g.1.2, g.2.1, g.2.2⟩

theorem check_ways (cx cy l : Int) : (chkC cx cy l = 0 ∧ (lvl l == l) = true ∧ (cx == floorI cx (lvl l)) = true ∧ (cy == floorI cy (lvl l)) = true) ∨
    (chkC cx cy l = 4 ∧ (lvl l == l) = false) ∨ (chkC cx cy l = 4 ∧ (lvl l == l) = true ∧ (cx == floorI cx (lvl l)) = false) ∨
    (chkC cx cy l = 4 ∧ (lvl l == l) = true ∧ (cx == floorI cx (lvl l)) = true ∧ (cy == floorI cy (lvl l)) = false) := by
  unfold chkC eq3
  generalize floorI cx (lvl l) = X
  generalize floorI cy (lvl l) = Y
  generalize lvl l = L
  by_cases h1 : L = l
  · by_cases h2 : cx = X
    · by_cases h3 : cy = Y
      · subst h1 h2 h3; exact .inl (by simp)
      · subst h1 h2; exact .inr (.inr (.inr (by simp [h3])))
    · subst h1; exact .inr (.inr (.inl (by simp [h2])))
  · refine .inr (.inl ⟨?_, by simpa using h1⟩)
    have : ¬ l = L := fun e => h1 e.symm
    simp [this]

theorem check_at (x y l : Int) : chkC (floorI x (lvl l)) (floorI y (lvl l)) (lvl l) = 0 := by
  have b := lvl_bd l
  unfold chkC
  rw [lvl_idem, floor_self b.1 b.2, floor_self b.1 b.2, eq3_self]
  rfl
theorem has_at (x y l : Int) : hasB (floorI x (lvl l)) (floorI y (lvl l)) (lvl l) x y = true := by
  have b := lvl_bd l
  rw [has_iff, lvl_idem, floor_self b.1 b.2, floor_self b.1 b.2]
  exact ⟨rfl, rfl⟩

set_option maxRecDepth 100000 in
set_option maxHeartbeats 16000000 in
theorem cellTells (cx cy l x y v : Int) (gx : 0 ≤ cx) (gx' : cx ≤ 4294967295) (gy : 0 ≤ cy) (gy' : cy ≤ 4294967295) (hx : 0 ≤ x) (hx' : x ≤ 4294967295) (hy : 0 ≤ y) (hy' : y ≤ 4294967295) (w : World) :
    Calls Try.prog 3 #[cl cx cy l, .int .u32 x, .int .u32 y, .int .i64 v] w fun e w' => e = .returned (.bool true) ∧ Below w.heap.size w w' := by
  have bl := lvl_bd l
  have bv := lvl_bd v
  have pb := pw_bd bl.1 bl.2
  have fX := floor_bd gx gx' bl.1 bl.2
  have fY := floor_bd gy gy' bl.1 bl.2
  have fA := floor_bd hx hx' bv.1 bv.2
  have fB := floor_bd hy hy' bv.1 bv.2
  have m2 : IntKind.u64.wrap (cx / pw (lvl l) * pw (lvl l)) = floorI cx (lvl l) := IntWalk.u64_in _ (by unfold floorI at fX; omega)
  have m3 : IntKind.u64.wrap (cy / pw (lvl l) * pw (lvl l)) = floorI cy (lvl l) := IntWalk.u64_in _ (by unfold floorI at fY; omega)
  have KS1 := fun w => lawside_any (lvl l) bl.1 bl.2 w
  have KR := fun w => rectc_any cx cy l gx gx' gy gy' w
  have KH := fun w => has_any cx cy l x y hx hx' hy hy' gx gx' gy gy' w
  have KC := fun w => checkc_any cx cy l gx gx' gy gy' w
  have KA := fun w => at_any x y v hx hx' hy hy' w
  have KQ := fun w => quarter_any cx cy l x y hx hx' hy hy' gx gx' gy gy' w
  have KH2 := fun w => has_any (floorI x (lvl v)) (floorI y (lvl v)) (lvl v) x y hx hx' hy hy' (by omega) (by omega) (by omega) (by omega) w
  have KC2 := fun w => checkc_any (floorI x (lvl v)) (floorI y (lvl v)) (lvl v) (by omega) (by omega) (by omega) (by omega) w
  rw [has_at] at KH2
  rw [check_at] at KC2
  have HW := has_ways cx cy l x y
  have CW := check_ways cx cy l
  have QW : (lvl l < 32 ∧ ∃ s2 H bx by' : Int, (∀ w : World, Calls Try.prog 16 #[.int .i64 (lvl l + 1)] w fun e w' => e = .returned (.int .u64 s2) ∧ w' = w) ∧ IntKind.u64.wrap (s2 + 1) = H ∧ 1 ≤ H ∧ x / H % 2 = bx ∧ y / H % 2 = by' ∧ 0 ≤ bx ∧ bx ≤ 1 ∧ 0 ≤ by' ∧ by' ≤ 1 ∧ bx + 2 * by' = qI (lvl l) x y) ∨ (decide (lvl l < 32) = false ∧ qI (lvl l) x y = 0) := by
    by_cases h : lvl l < 32
    · have b := pw_bd (L := lvl l + 1) (by omega) (by omega)
      refine .inl ⟨h, pw (lvl l + 1) - 1, pw (lvl l + 1), _, _, fun w => lawside_any (lvl l + 1) (by omega) (by omega) w, ?_, b.1, rfl, rfl, by omega, by omega, by omega, by omega, ?_⟩
      · rw [Int.sub_add_cancel]; exact IntWalk.u64_in _ (by omega)
      · unfold qI; rw [if_pos h]
    · exact .inr ⟨decide_eq_false h, by unfold qI; rw [if_neg h]⟩
  generalize hasB cx cy l x y = hb at *
  generalize chkC cx cy l = ck at *
  generalize qI (lvl l) x y = qv at *
  generalize floorI cx (lvl l) = X at *
  generalize floorI cy (lvl l) = Y at *
  generalize floorI x (lvl v) = AX at *
  generalize floorI y (lvl v) = AY at *
  unfold lvl at *
  generalize hn : min (max l 0) 32 = n at *
  generalize hAL : min (max v 0) 32 = AL at *
  generalize pw n = P at *
  have m1 : IntKind.u64.wrap (P - 1 + 1) = P := by rw [Int.sub_add_cancel]; exact IntWalk.u64_in _ (by omega)
  have m4 : IntKind.u64.wrap (X + (P - 1)) = X + (P - 1) := IntWalk.u64_in _ (by omega)
  have m5 : IntKind.u64.wrap (Y + (P - 1)) = Y + (P - 1) := IntWalk.u64_in _ (by omega)
  have m6 : IntKind.u64.wrap X = X := IntWalk.u64_in _ (by omega)
  have m7 : IntKind.u64.wrap Y = Y := IntWalk.u64_in _ (by omega)
  have p1 : 1 ≤ P := pb.1
  have p0 : P ≠ 0 := by omega
  have s0 : 0 ≤ P - 1 ∧ P - 1 ≤ 4294967295 := by omega
  have X0 : 0 ≤ X := fX.1
  have Y0 : 0 ≤ Y := fY.1
  generalize P - 1 = s at *
  replace KS1 := hid KS1
  replace KR := hid KR
  replace KH := hid KH
  replace KC := hid KC
  replace KA := hid KA
  replace KQ := hid KQ
  replace KH2 := hid KH2
  replace KC2 := hid KC2
  replace HW := hid HW
  replace CW := hid CW
  replace QW := hid QW
  clear fX fY fA fB bv pb
  go_enter Try.func3, Try.ntmps3
  go_wp2_with fail
  refine (alive4 _).mono ?_
  rintro e w1 ⟨rfl, hb1⟩
  obtain ⟨B0, H⟩ := boxed1 hb1
  have HB0 := hid B0
  have H1 := hid H
  obtain ⟨l0, k0, f0⟩ := B0
  clear hb1 H
  go_wp2_with fail
  refine (KS1.out _).mono ?_
  rintro e w2 ⟨rfl, rfl⟩
  go_wp2_with fail
  have q0 := fun u : Later _ => u.blk HB0.out
  refine wp_region_late 19 (by kernel_rfl) (by kernel_rfl) ?_
  simp only [List.take_succ_cons, List.take_zero, List.drop_succ_cons, List.drop_zero]
  repeat (go_big_quiet_step (fail))
  refine wpQuiet_nil ?_
  intro w3 h3'
  have h3 := late_out h3'
  clear h3' q0 l0 k0 f0
  have HB1 := hid (HB0.out.more h3)
  have H3 := hid (below2 H1.out h3 H1.out.size)
  clear HB0 H1 h3
  obtain ⟨l0, k0, f0⟩ := HB1.out
  go_upto_region 6 with (fail)
  go_cut [13] (fun s13 wx => s13 = .bool hb ∧ wx = w3)
  case first =>
    have HW := HW.out
    rcases HW with ⟨rfl, g1, g2, g3, g4⟩ | ⟨rfl, g1⟩ | ⟨rfl, g1, g2⟩ | ⟨rfl, g1, g2, g3⟩ | ⟨rfl, g1, g2, g3, g4⟩
    all_goals
      go_wp2_with fail
      go_meet
      case rel => exact ⟨by simp, rfl⟩
  case rest =>
    obtain ⟨rfl, rfl⟩ := hcut
    clear HW
    go_wp2_with fail
    refine (KR.out _).mono ?_
    rintro e w4 ⟨rfl, hb4⟩
    have HB2 := hid (HB1.out.more hb4)
    have H4 := hid (below2 H3.out hb4 H3.out.size)
    clear l0 k0 f0 HB1 H3 hb4
    obtain ⟨l0, k0, f0⟩ := HB2.out
    go_wp2_with fail
    refine (KH.out _).mono ?_
    rintro e w5 ⟨rfl, hb5⟩
    obtain ⟨R0, HH⟩ := boxed1 hb5
    have HB3 := hid (HB2.out.more HH)
    have H5 := hid (below2 H4.out HH H4.out.size)
    clear l0 k0 f0 HB2 H4 hb5 HH
    obtain ⟨l0, k0, f0⟩ := HB3.out
    obtain ⟨l1, k1, f1⟩ := R0
    go_upto_region 10 with (fail)
    clear l1 k1 f1 l0 k0 f0
    have q0 := fun u : Later w5 => u.blk HB3.out
    go_cut [131] (fun s131 wx => s131 = .bool false ∧ Below w5.heap.size w5 wx)
    case first =>
      have CW := CW.out
      rcases CW with ⟨rfl, g1, g2, g3⟩ | ⟨rfl, g1⟩ | ⟨rfl, g1, g2⟩ | ⟨rfl, g1, g2, g3⟩
      all_goals
        refine wp_region_late 21 (by kernel_rfl) (by kernel_rfl) ?_
        simp only [List.take_succ_cons, List.take_zero, List.drop_succ_cons, List.drop_zero]
        repeat (go_big_quiet_step ((go_at_call 19; (with_reducible exact late_call (KC.out _)))))
        refine wpQuiet_nil ?_
        intro w6 h6'
        have h6 := late_out h6'
        clear h6' q0
        go_wp2_with fail
        go_meet
        case rel => exact ⟨by simp, h6⟩
    case rest =>
      obtain ⟨rfl, h6⟩ := hcut
      have HB4 := hid (HB3.out.more h6)
      have H6 := hid (below2 H5.out h6 H5.out.size)
      clear q0 HB3 H5 h6 CW
      go_upto_if 133 with (fail)
      go_cut [15] (fun s15 wx => s15 = .int .i64 qv ∧ Below wc.heap.size wc wx)
      case first =>
        have QW := QW.out
        rcases QW with ⟨g, s2, Hh, bx, by', KS2, e1, e2, e3, e4, e5, e6, e7, e8, e9⟩ | ⟨g, rfl⟩
        · have KS2 := hid KS2
          have ha : Hh ≠ 0 := by omega
          have n1 : 0 ≤ x / Hh := Int.ediv_nonneg hx (by omega)
          have n2 : 0 ≤ y / Hh := Int.ediv_nonneg hy (by omega)
          have t1 : (x / Hh).tmod 2 = bx := by rw [Int.tmod_eq_emod_of_nonneg n1]; exact e3
          have t2 : (y / Hh).tmod 2 = by' := by rw [Int.tmod_eq_emod_of_nonneg n2]; exact e4
          have u1 : IntKind.u64.wrap (2 * by') = 2 * by' := IntWalk.u64_in _ (by omega)
          have u2 : IntKind.u64.wrap (bx + 2 * by') = bx + 2 * by' := IntWalk.u64_in _ (by omega)
          have u3 : IntKind.i64.wrap (bx + 2 * by') = bx + 2 * by' := IntWalk.i64_in _ (by omega)
          go_wp2_with fail
          refine (KS2.out _).mono ?_
          rintro e w7 ⟨rfl, rfl⟩
          go_wp2_with fail
          refine wp_region_late 13 (by kernel_rfl) (by kernel_rfl) ?_
          simp only [List.take_succ_cons, List.take_zero, List.drop_succ_cons, List.drop_zero]
          repeat (go_big_quiet_step (fail))
          refine wpQuiet_nil ?_
          intro w8 h8'
          have h8 := late_out h8'
          clear h8'
          go_wp2_with fail
          go_meet
          case rel => exact ⟨by first | (rw [← e9]; done) | (rw [← e9]; simp [t1, t2, u1, u2, u3, wrap64]; done), h8⟩
        · have g' : ¬ n < 32 := of_decide_eq_false g
          clear g
          go_wp2_with fail
          go_meet
          case rel => exact ⟨rfl, Below.refl _ _⟩
      case rest =>
        obtain ⟨rfl, h7⟩ := hcut
        have HB5 := hid (HB4.out.more h7)
        have H7 := hid (below2 H6.out h7 H6.out.size)
        clear HB4 H6 h7 QW
        obtain ⟨l0, k0, f0⟩ := HB5.out
        go_wp2_with fail
        refine (KA.out _).mono ?_
        rintro e w8 ⟨rfl, hb8⟩
        have HB6 := hid (HB5.out.more hb8)
        have H8 := hid (below2 H7.out hb8 H7.out.size)
        clear l0 k0 f0 HB5 H7 hb8
        obtain ⟨l0, k0, f0⟩ := HB6.out
        go_wp2_with fail
        refine (KQ.out _).mono ?_
        rintro e w9 ⟨rfl, hb9⟩
        obtain ⟨R0, HH⟩ := boxed1 hb9
        have HR := hid R0
        have H9 := hid (below2 H8.out HH H8.out.size)
        clear l0 k0 f0 HB6 H8 hb9 HH
        obtain ⟨l0, k0, f0⟩ := R0
        go_wp2_with fail
        refine (KH2.out _).mono ?_
        rintro e w10 ⟨rfl, hb10⟩
        have HR1 := hid (HR.out.more hb10)
        have H10 := hid (below2 H9.out hb10 H9.out.size)
        clear l0 k0 f0 HR H9 hb10
        obtain ⟨l0, k0, f0⟩ := HR1.out
        go_wp2_with fail
        refine (KC2.out _).mono ?_
        rintro e w11 ⟨rfl, hb11⟩
        have H11 := hid (below2 H10.out hb11 H10.out.size)
        clear l0 k0 f0 HR1 H10 hb11
        go_wp2
        go_ret
        exact ⟨by simp, H11.out⟩
end Go.Proofs.Ytilbnecigeammaa
