/-
  Layer 6: which places any two windows have, and have in common. The walk of RectTells.
-/
import Derived.Test.YtilbnecigeammaaRectAreas
import Derived.Deep.DeepCutAuto
namespace Go.Proofs.Ytilbnecigeammaa
open Go.RowKit
set_option linter.unusedVariables false

theorem law_has (a b c d x y : Int) (w : World) :
    Calls Try.prog 35 #[rct a b c d, .int .u32 x, .int .u32 y] w fun e w' => e = .returned (.bool (hasB a b c d x y)) ∧ Below w.heap.size w w' := by
  rcases has_ways a b c d x y with ⟨h1, h2, h3, h4, e⟩ | ⟨h1, e⟩ | ⟨h1, h2, e⟩ | ⟨h1, h2, h3, e⟩ | ⟨h1, h2, h3, h4, e⟩
  all_goals
    rw [e]
    clear e
    go_enter Try.func35, Try.ntmps35
    go_wp2
    go_ret
    exact ⟨rfl, by go_grown⟩

theorem law_none (a b c d : Int) (w : World) :
    Calls Try.prog 32 #[rct a b c d] w fun e w' => e = .returned (.bool (emptyB a b c d)) ∧ Below w.heap.size w w' := by
  have ways : (c < a ∧ emptyB a b c d = true) ∨ (¬ c < a ∧ d < b ∧ emptyB a b c d = true) ∨ (¬ c < a ∧ ¬ d < b ∧ emptyB a b c d = false) := by
    unfold emptyB
    by_cases h1 : c < a <;> by_cases h2 : d < b <;> simp [h1, h2]
  rcases ways with ⟨h1, e⟩ | ⟨h1, h2, e⟩ | ⟨h1, h2, e⟩
  all_goals
    rw [e]
    clear e
    go_enter Try.func32, Try.ntmps32
    go_wp2
    go_ret
    exact ⟨rfl, by go_grown⟩

theorem has_cut (a b c d a' b' c' d' x y : Int) : hasB (cutP a b c d a' b' c' d') (cutQ a b c d a' b' c' d') (cutR a b c d a' b' c' d') (cutS a b c d a' b' c' d') x y = (hasB a b c d x y && hasB a' b' c' d' x y) := by
  unfold cutP cutQ cutR cutS
  cases h : noCut a b c d a' b' c' d'
  · simp only [cond_false, hasB]
    rw [Bool.eq_iff_iff]
    simp only [Bool.and_eq_true, decide_eq_true_eq]
    omega
  · unfold noCut emptyB at h
    simp only [Bool.or_eq_true, decide_eq_true_eq] at h
    simp only [cond_true, hasB]
    rw [Bool.eq_iff_iff]
    simp only [Bool.and_eq_true, decide_eq_true_eq]
    omega

/-- The law's own words of two windows that meet, and of one within another. -/
theorem meets_ways (a b c d a' b' c' d' : Int) : (emptyB a b c d = true ∧ meetsB a b c d a' b' c' d' = false) ∨ (emptyB a b c d = false ∧ emptyB a' b' c' d' = true ∧ meetsB a b c d a' b' c' d' = false) ∨
    (emptyB a b c d = false ∧ emptyB a' b' c' d' = false ∧ ((¬ a ≤ c' ∧ meetsB a b c d a' b' c' d' = false) ∨ (a ≤ c' ∧ ¬ a' ≤ c ∧ meetsB a b c d a' b' c' d' = false) ∨ (a ≤ c' ∧ a' ≤ c ∧ ¬ b ≤ d' ∧ meetsB a b c d a' b' c' d' = false) ∨ (a ≤ c' ∧ a' ≤ c ∧ b ≤ d' ∧ ¬ b' ≤ d ∧ meetsB a b c d a' b' c' d' = false) ∨ (a ≤ c' ∧ a' ≤ c ∧ b ≤ d' ∧ b' ≤ d ∧ meetsB a b c d a' b' c' d' = true))) := by
  unfold meetsB noCut emptyB
  simp only [Bool.not_eq_true', Bool.not_eq_false', Bool.or_eq_true, Bool.or_eq_false_iff, decide_eq_true_eq, decide_eq_false_iff_not]
  omega
theorem within_ways (a b c d a' b' c' d' : Int) : (emptyB a b c d = true ∧ withinB a b c d a' b' c' d' = true) ∨ (emptyB a b c d = false ∧ emptyB a' b' c' d' = true ∧ withinB a b c d a' b' c' d' = false) ∨
    (emptyB a b c d = false ∧ emptyB a' b' c' d' = false ∧ ((a < a' ∧ withinB a b c d a' b' c' d' = false) ∨ (¬ a < a' ∧ ¬ c ≤ c' ∧ withinB a b c d a' b' c' d' = false) ∨ (¬ a < a' ∧ c ≤ c' ∧ b < b' ∧ withinB a b c d a' b' c' d' = false) ∨ (¬ a < a' ∧ c ≤ c' ∧ ¬ b < b' ∧ ¬ d ≤ d' ∧ withinB a b c d a' b' c' d' = false) ∨ (¬ a < a' ∧ c ≤ c' ∧ ¬ b < b' ∧ d ≤ d' ∧ withinB a b c d a' b' c' d' = true))) := by
  cases h1 : emptyB a b c d
  · right
    cases h2 : emptyB a' b' c' d'
    all_goals
      unfold withinB
      rw [h1, Bool.false_or]
      unfold cutP cutQ cutR cutS
      unfold emptyB at h1 h2
      simp only [Bool.or_eq_true, Bool.or_eq_false_iff, decide_eq_true_eq, decide_eq_false_iff_not] at h1 h2
      cases h3 : noCut a b c d a' b' c' d'
      all_goals
        unfold noCut emptyB at h3
        simp only [Bool.or_eq_true, Bool.or_eq_false_iff, decide_eq_true_eq, decide_eq_false_iff_not] at h3
        simp only [cond_true, cond_false, eq4, Bool.and_eq_true, Bool.and_eq_false_iff, decide_eq_true_eq, decide_eq_false_iff_not, true_and, false_and, or_false, false_or, reduceCtorEq, Bool.false_eq_true]
        omega
  · left
    exact ⟨rfl, by unfold withinB; rw [h1]; rfl⟩

set_option maxRecDepth 100000 in
set_option maxHeartbeats 8000000 in
theorem rectTells (a b c d a' b' c' d' x y : Int) (w : World) :
    Calls Try.prog 9 #[rct a b c d, rct a' b' c' d', .int .u32 x, .int .u32 y] w fun e w' => e = .returned (.bool true) ∧ Below w.heap.size w w' := by
  have C := hid (fun w => cut_any a b c d a' b' c' d' w)
  have KE := hid (fun w => empty_any a b c d w)
  have NE := hid (fun w => law_none a b c d w)
  have NE' := hid (fun w => law_none a' b' c' d' w)
  have KH := hid (fun w => has_any a b c d x y w)
  have LH := hid (fun w => law_has a b c d x y w)
  have LH' := hid (fun w => law_has a' b' c' d' x y w)
  have LC := fun w => law_has (cutP a b c d a' b' c' d') (cutQ a b c d a' b' c' d') (cutR a b c d a' b' c' d') (cutS a b c d a' b' c' d') x y w
  rw [has_cut] at LC
  have HLC := hid LC
  have KM := hid (fun w => meets_any a b c d a' b' c' d' w)
  have KW := hid (fun w => within_any a b c d a' b' c' d' w)
  have WM := hid (meets_ways a b c d a' b' c' d')
  have WW := hid (within_ways a b c d a' b' c' d')
  have EN := hid (cut_eq_none a b c d a' b' c' d')
  clear LC
  generalize cutP a b c d a' b' c' d' = p at *
  generalize cutQ a b c d a' b' c' d' = q at *
  generalize cutR a b c d a' b' c' d' = r at *
  generalize cutS a b c d a' b' c' d' = s at *
  generalize hasB a b c d x y = ha at *
  generalize hasB a' b' c' d' x y = hb at *
  generalize emptyB a b c d = ea at *
  generalize emptyB a' b' c' d' = eb at *
  generalize meetsB a b c d a' b' c' d' = mm at *
  generalize withinB a b c d a' b' c' d' = ww at *
  go_enter Try.func9, Try.ntmps9
  go_wp2_with fail
  refine (alive6 _).mono ?_
  rintro e w1 ⟨rfl, hb1⟩
  obtain ⟨B0, B1, H⟩ := boxed2 hb1
  have HB0 := hid B0
  have HB1 := hid B1
  have H1 := hid H
  obtain ⟨l0, k0, f0⟩ := B0
  obtain ⟨l1, k1, f1⟩ := B1
  clear hb1 H
  go_wp2_with fail
  refine (C.out _).mono ?_
  rintro e w2 ⟨rfl, hb2⟩
  have B0 := HB0.out.more hb2
  have B1 := HB1.out.more hb2
  have H2 := hid (below2 H1.out hb2 H1.out.size)
  have HB0 := hid B0
  have HB1 := hid B1
  clear k0 f0 k1 f1 H1 hb2 l0 l1 B0 B1 C
  go_wp2_with fail
  generalize hW : w2.alloc _ = W
  have B2 := hid (hW ▸ Blk.new w2 _ _ : Blk W w2.heap.size _)
  have B0 := hid (hW ▸ HB0.out.alloc _ : Blk W w.heap.size _)
  have B1 := hid (hW ▸ HB1.out.alloc _ : Blk W (w.heap.size + 1) _)
  have H3 : Hid (Below w.heap.size w W) := hid (hW ▸ Below.alloc H2.out H2.out.size _)
  have q0 := fun u : Later W => u.blk B0.out
  have q1 := fun u : Later W => u.blk B1.out
  have q2 := fun u : Later W => u.blk B2.out
  clear hW HB0 HB1 H2
  go_cut [51] (fun s51 wx => s51 = .bool false ∧ Below W.heap.size W wx)
  case first =>
    refine wp_region_late 33 (by kernel_rfl) (by kernel_rfl) ?_
    simp only [List.take_succ_cons, List.take_zero, List.drop_succ_cons, List.drop_zero]
    cases ha
    all_goals
      repeat (go_big_quiet_step (first
        | (go_at_call 34; (with_reducible exact late_call (KH.out _)))
        | (go_at_call 36; (with_reducible exact late_call (KE.out _)))
        | (go_at_call 32; first | (with_reducible exact late_call (NE.out _)) | (with_reducible exact late_call (NE'.out _)))
        | (go_at_call 35; first | (with_reducible exact late_call (LH.out _)) | (with_reducible exact late_call (LH'.out _)) | (with_reducible exact late_call (HLC.out _)))))
      refine wpQuiet_nil ?_
      intro w3 h3'
      have h3 := late_out h3'
      clear h3'
      go_wp2_with fail
      go_meet
      case rel => exact ⟨by simp, h3⟩
  case rest =>
    obtain ⟨rfl, h4⟩ := hcut
    have B0 := hid (B0.out.more h4)
    have B1 := hid (B1.out.more h4)
    have B2 := hid (B2.out.more h4)
    have H4 := hid (H3.out.trans (h4.mono H3.out.size))
    have q0 := fun u : Later wc => u.blk B0.out
    have q1 := fun u : Later wc => u.blk B1.out
    have q2 := fun u : Later wc => u.blk B2.out
    clear h4 H3 LH LH' HLC KH KE
    go_upto_region 7 with (fail)
    go_cut [11] (fun s11 wx => s11 = .bool mm ∧ Below wc.heap.size wc wx)
    case first =>
      refine wp_region_late_seq 38 ?_
      simp only [List.take_succ_cons, List.take_zero, List.drop_succ_cons, List.drop_zero]
      have WM := WM.out
      rcases WM with ⟨rfl, rfl⟩ | ⟨rfl, rfl, rfl⟩ | ⟨rfl, rfl, ⟨t1, rfl⟩ | ⟨t1, t2, rfl⟩ | ⟨t1, t2, t3, rfl⟩ | ⟨t1, t2, t3, t4, rfl⟩ | ⟨t1, t2, t3, t4, rfl⟩⟩
      all_goals
        first | (have z1 : decide (a ≤ c') = false := decide_eq_false (by omega)) | skip
        first | (have z2 : decide (a' ≤ c) = false := decide_eq_false (by omega)) | skip
        first | (have z3 : decide (b ≤ d') = false := decide_eq_false (by omega)) | skip
        first | (have z4 : decide (b' ≤ d) = false := decide_eq_false (by omega)) | skip
        repeat (go_big_quiet_step (first
          | (go_at_call 32; first | (with_reducible exact late_call (NE.out _)) | (with_reducible exact late_call (NE'.out _)))))
        refine wpQuiet_nil ?_
        intro w3 h3'
        have h3 := late_out h3'
        clear h3'
        go_wp2_with fail
        go_meet
        case rel => exact ⟨by first | (simp; done) | (simp; omega), h3⟩
    case rest =>
      obtain ⟨rfl, h5⟩ := hcut
      have B0 := hid (B0.out.more h5)
      have B1 := hid (B1.out.more h5)
      have B2 := hid (B2.out.more h5)
      have H5 := hid (H4.out.trans (h5.mono H4.out.size))
      have q0 := fun u : Later wc => u.blk B0.out
      have q1 := fun u : Later wc => u.blk B1.out
      have q2 := fun u : Later wc => u.blk B2.out
      clear h5 H4 WM
      go_upto_region 8 with (fail)
      go_cut [12] (fun s12 wx => s12 = .bool ww ∧ Below wc.heap.size wc wx)
      case first =>
        refine wp_region_late_seq 37 ?_
        simp only [List.take_succ_cons, List.take_zero, List.drop_succ_cons, List.drop_zero]
        have WW := WW.out
        rcases WW with ⟨rfl, rfl⟩ | ⟨rfl, rfl, rfl⟩ | ⟨rfl, rfl, ⟨t1, rfl⟩ | ⟨t1, t2, rfl⟩ | ⟨t1, t2, t3, rfl⟩ | ⟨t1, t2, t3, t4, rfl⟩ | ⟨t1, t2, t3, t4, rfl⟩⟩
        all_goals
          first | (have z1 : decide (a' ≤ a) = false := decide_eq_false (by omega)) | (have z1 : decide (a' ≤ a) = true := decide_eq_true (by omega)) | skip
          first | (have z2 : decide (c ≤ c') = false := decide_eq_false (by omega)) | skip
          first | (have z3 : decide (b' ≤ b) = false := decide_eq_false (by omega)) | (have z3 : decide (b' ≤ b) = true := decide_eq_true (by omega)) | skip
          first | (have z4 : decide (d ≤ d') = false := decide_eq_false (by omega)) | skip
          repeat (go_big_quiet_step (first
            | (go_at_call 32; first | (with_reducible exact late_call (NE.out _)) | (with_reducible exact late_call (NE'.out _)))))
          refine wpQuiet_nil ?_
          intro w3 h3'
          have h3 := late_out h3'
          clear h3'
          go_wp2_with fail
          go_meet
          case rel => exact ⟨by first | (simp; done) | (simp; omega), h3⟩
      case rest =>
        obtain ⟨rfl, h6⟩ := hcut
        have B0 := hid (B0.out.more h6)
        have B1 := hid (B1.out.more h6)
        have B2 := hid (B2.out.more h6)
        have H6 := hid (H5.out.trans (h6.mono H5.out.size))
        have q0 := fun u : Later wc => u.blk B0.out
        have q1 := fun u : Later wc => u.blk B1.out
        have q2 := fun u : Later wc => u.blk B2.out
        clear h6 H5 WW
        go_upto_region 9 with (fail)
        have EN := EN.out
        refine wp_region_late_seq 19 ?_
        simp only [List.take_succ_cons, List.take_zero, List.drop_succ_cons, List.drop_zero]
        cases mm
        all_goals
          simp only [Bool.not_eq_false', Bool.not_eq_true'] at EN
          repeat (go_big_quiet_step (first
            | (go_at_call 37; (with_reducible exact late_call (KM.out _)))
            | (go_at_call 38; (with_reducible exact late_call (KW.out _)))))
          refine wpQuiet_nil ?_
          intro w3 h3'
          have h3 := late_out h3'
          clear h3'
          go_wp2
          go_ret
          exact ⟨by simp, H6.out.trans (h3.mono H6.out.size)⟩
end Go.Proofs.Ytilbnecigeammaa
