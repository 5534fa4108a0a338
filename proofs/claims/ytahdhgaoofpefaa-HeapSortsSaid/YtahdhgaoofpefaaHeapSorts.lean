/-
  Layer 21: sorted, each is ahead of, or like, the next one; none is lost; which of two is ahead is as the page says.
-/
import Derived.Test.YtahdhgaoofpefaaHeapEq
import Derived.Test.YtahdhgaoofpefaaHeapLaw
import Derived.Deep.DeepCutAuto
import Derived.Outline
namespace Go.Proofs.Ytahdhgaoofpefaa
open Go.RowKit
set_option linter.unusedVariables false
set_option linter.unusedSimpArgs false

set_option maxRecDepth 100000 in
set_option maxHeartbeats 16000000 in
theorem heapSorts (p : Option Addr) (n cap : Nat) (f : Nat → It) (h1 : n ≤ cap) (h2 : cap ≤ maxLen) (a b : It) (w : World) (HA : RowP w p 4 n (fun i => icells (f i))) :
    Calls Try.prog 7 #[.slice p n cap, itval a, itval b] w fun e w' => e = .returned (.bool true) ∧ Below w.heap.size w w' := by
  have HAh := hid HA
  have h12 := hid (And.intro h1 h2)
  have h2' : cap ≤ 9223372036854775807 := by unfold maxLen at h2; exact h2
  have KLess := hid (fun w => less_any a b w)
  have KLaw := hid (fun w => hless_any a b w)
  have KCmp := hid (fun w => cmp_any a.h a.l a.h a.l w)
  have hcz : cmpD a.h a.l a.h a.l = 0 := by rw [cmpD_eqs]; simp
  rw [hcz] at KCmp
  have KNil := hid (fun w => push_nil a w)
  obtain ⟨ah, al, ao, ai⟩ := a
  obtain ⟨bh, bl, bo, bi⟩ := b
  unfold itval at *
  simp only at *
  generalize lessB ⟨ah, al, ao, ai⟩ ⟨bh, bl, bo, bi⟩ = r at *
  obtain ⟨B0, B1, H⟩ := @boxed2 w _ #[.int .u64 ah, .int .u64 al, .int .i64 ao, .int .i64 ai] #[.int .u64 bh, .int .u64 bl, .int .i64 bo, .int .i64 bi] 52 52 (Below.refl _ _)
  have hB0 := hid B0
  have hB1 := hid B1
  have hH := hid H
  clear HA h2 B0 B1 H hcz
  go_enter Try.func7, Try.ntmps7
  go_wp2_with fail
  generalize (w.alloc (.cells #[.int .u64 ah, .int .u64 al, .int .i64 ao, .int .i64 ai] 52)).alloc (.cells #[.int .u64 bh, .int .u64 bl, .int .i64 bo, .int .i64 bi] 52) = W0 at *
  refine (alive21 _).mono ?_
  rintro e w1 ⟨rfl, hb1⟩
  have C0 := hid (hB0.out.more hb1)
  have C1 := hid (hB1.out.more hb1)
  have D1 := hid (below2 hH.out hb1 hH.out.size)
  clear hb1 hB0 hB1 hH
  go_upto_if 19 with (fail)
  go_cut [0] (fun s wx => ∃ N, N ≤ n ∧ N ≤ 60 ∧ s = .slice p N cap ∧ wx = w1)
  case first =>
    by_cases g : 60 < (n : Int)
    · have gc : (60 : Int) ≤ (cap : Int) := by omega
      go_wp2_with fail
      go_meet
      case rel => exact ⟨60, by omega, by omega, rfl, rfl⟩
    · go_wp2_with fail
      go_meet
      case rel => exact ⟨n, by omega, by omega, rfl, rfl⟩
  case rest =>
    obtain ⟨N, hN, hN60, rfl, rfl⟩ := hcut
    have KS := hid (fun w HA => sorted_any p N cap f (by have := h12.out.1; omega) h12.out.2 hN60 w HA)
    go_wp2_with fail
    refine (KS.out _ (((HAh.out.take hN)).more D1.out)).mono ?_
    rintro e w3 ⟨v, S, rfl, O3, P3, W3, hb3⟩
    have hSN : S.length = N := by rw [P3.length_eq, itsL_len]
    obtain ⟨ps, caps, rfl, d1, d2, RS⟩ := O3.open
    rw [hSN] at d1 RS
    rw [hSN]
    have hRS := hid RS
    have hRA := hid ((((HAh.out.take hN)).more D1.out).more hb3)
    have E0 := hid (C0.out.more hb3)
    have E1 := hid (C1.out.more hb3)
    have D3 := hid (below2 D1.out hb3 D1.out.size)
    have hcnt := hid (fun x => cnt_same P3 hSN x)
    have hstep := hid (fun i h0 (hi : i < N) => sorted_step W3 i h0 (by rw [hSN]; exact hi))
    have hNN : (N : Int) ≤ 60 := by omega
    clear KS O3 P3 W3 hb3 C0 C1 D1 RS HAh
    go_wp2_with fail
    have q0 := fun u : Later w3 => u.blk E0.out
    have q1 := fun u : Later w3 => u.blk E1.out
    have hrr : (r != r) = false := by simp
    refine wp_region_late 21 (by kernel_rfl) (by kernel_rfl) ?_
    simp only [List.take_succ_cons, List.take_zero, List.drop_succ_cons, List.drop_zero]
    iterate 21 (go_big_quiet_step (first | (go_at_call 24; (with_reducible exact late_call (KLess.out _))) | (go_at_call 20; (with_reducible exact late_call (KLaw.out _))) | (go_at_call 25; (with_reducible exact late_call (KCmp.out _)))))
    refine wpQuiet_nil ?_
    intro w4 h4'
    have h4 := late_out h4'
    have D4 := hid (D3.out.trans (h4.mono D3.out.size))
    have F0 := hid (E0.out.more h4)
    have gRS := hid (hRS.out.more h4)
    have gRA := hid (hRA.out.more h4)
    clear h4' h4 q0 q1 E0 E1 D3 hRS hRA KLess KLaw KCmp
    go_wp2_with fail
    go_loopw [8] (fun s wr => ∃ i : Nat, i ≤ N ∧ s = .int .i64 (i : Int) ∧ Below w4.heap.size w4 wr) (fun s _ => N - (intOf s).toNat)
    case atStart => exact ⟨0, by omega, rfl, Below.refl _ _⟩
    case round =>
      obtain ⟨i, hi, rfl, Hb⟩ := hrel
      by_cases hlt : i < N
      · obtain ⟨WY, rfl⟩ : ∃ WY, WY = wr := ⟨_, rfl⟩
        have hlt1 : (i : Int) < (N : Int) := by omega
        have hi0 : (0 : Int) ≤ (i : Int) := by omega
        obtain ⟨bs, os, rfl, Rs0⟩ := (gRS.out.more Hb).row (by omega)
        obtain ⟨ba, oa, rfl, Ra0⟩ := (gRA.out.more Hb).row (by omega)
        have hRs := hid Rs0
        have hRa := hid Ra0
        have HbY := hid Hb
        obtain ⟨X, hX⟩ : ∃ X, itAt S i = X := ⟨_, rfl⟩
        have hcX := hid (hcnt.out X)
        replace hX := hid hX
        clear Rs0 Ra0 Hb
        go_wp2_with fail
        go_loopw [9, 10, 11] (fun a b t wx => ∃ k : Nat, k ≤ N ∧ t = .int .i64 (k : Int) ∧ a = .int .i64 (cntTo (itAt S) X k : Int) ∧ b = .int .i64 (cntTo f X k : Int) ∧ Below WY.heap.size WY wx) (fun _ _ t _ => N - (intOf t).toNat)
        case atStart => exact ⟨0, by omega, rfl, rfl, rfl, Below.refl _ _⟩
        case round =>
          obtain ⟨k, hk, rfl, rfl, rfl, Hb⟩ := hrel
          have Hbh := hid Hb
          by_cases hkl : k < N
          · have hkl1 : (k : Int) < (N : Int) := by omega
            have hk0 : (0 : Int) ≤ (k : Int) := by omega
            have hc1 := hid (show cntTo (itAt S) X (k + 1) = cntTo (itAt S) X k + if eqI (itAt S k) X then 1 else 0 from rfl)
            have hc2 := hid (show cntTo f X (k + 1) = cntTo f X k + if eqI (f k) X then 1 else 0 from rfl)
            have hl1 := cntTo_le (itAt S) X k
            have hl2 := cntTo_le f X k
            generalize cntTo (itAt S) X k = m1 at *
            generalize cntTo f X k = m2 at *
            have hw1 : IntKind.i64.wrap ((m1 : Int) + 1) = (m1 : Int) + 1 := IntWalk.i64_in _ ⟨by omega, by omega⟩
            have hw2 : IntKind.i64.wrap ((m2 : Int) + 1) = (m2 : Int) + 1 := IntWalk.i64_in _ ⟨by omega, by omega⟩
            have ys := hid (fun (W : World) (hW : Below WY.heap.size WY W) => (hRs.out.more hW).cell k hkl)
            have xs := hid (fun (W : World) (hW : Below WY.heap.size WY W) => (hRs.out.more hW).cell i hlt)
            have zs := hid (fun (W : World) (hW : Below WY.heap.size WY W) => (hRa.out.more hW).cell k hkl)
            rw [hX.out] at xs
            generalize itAt S k = Y at *
            generalize f k = Z at *
            obtain ⟨xh, xl, xo, xi⟩ := X
            obtain ⟨yh, yl, yo, yi⟩ := Y
            obtain ⟨zh, zl, zo, zi⟩ := Z
            unfold eqI at hc1 hc2
            simp only at hc1 hc2
            have late : Hid (∀ (W : World), Below WY.heap.size WY W → ∀ u : Later W,
                (u.val.cell? ⟨bs, os + k * 4, none⟩ = some (.int .u64 yh) ∧ u.val.cell? ⟨bs, os + k * 4 + 1, none⟩ = some (.int .u64 yl) ∧ u.val.cell? ⟨bs, os + k * 4 + 2, none⟩ = some (.int .i64 yo) ∧ u.val.cell? ⟨bs, os + k * 4 + 3, none⟩ = some (.int .i64 yi))
                ∧ (u.val.cell? ⟨bs, os + i * 4, none⟩ = some (.int .u64 xh) ∧ u.val.cell? ⟨bs, os + i * 4 + 1, none⟩ = some (.int .u64 xl) ∧ u.val.cell? ⟨bs, os + i * 4 + 2, none⟩ = some (.int .i64 xo) ∧ u.val.cell? ⟨bs, os + i * 4 + 3, none⟩ = some (.int .i64 xi))
                ∧ (u.val.cell? ⟨ba, oa + k * 4, none⟩ = some (.int .u64 zh) ∧ u.val.cell? ⟨ba, oa + k * 4 + 1, none⟩ = some (.int .u64 zl) ∧ u.val.cell? ⟨ba, oa + k * 4 + 2, none⟩ = some (.int .i64 zo) ∧ u.val.cell? ⟨ba, oa + k * 4 + 3, none⟩ = some (.int .i64 zi))) := hid (fun W hW u => by
              have cc : ∀ (c oo : Nat) (v : Value), W.cell? ⟨c, oo, none⟩ = some v → u.val.cell? ⟨c, oo, none⟩ = some v := fun c oo v hv => (u.cell c oo (cell_lt hv)).trans hv
              exact ⟨⟨cc _ _ _ (ys.out W hW 0 _ rfl), cc _ _ _ (ys.out W hW 1 _ rfl), cc _ _ _ (ys.out W hW 2 _ rfl), cc _ _ _ (ys.out W hW 3 _ rfl)⟩,
                ⟨cc _ _ _ (xs.out W hW 0 _ rfl), cc _ _ _ (xs.out W hW 1 _ rfl), cc _ _ _ (xs.out W hW 2 _ rfl), cc _ _ _ (xs.out W hW 3 _ rfl)⟩,
                ⟨cc _ _ _ (zs.out W hW 0 _ rfl), cc _ _ _ (zs.out W hW 1 _ rfl), cc _ _ _ (zs.out W hW 2 _ rfl), cc _ _ _ (zs.out W hW 3 _ rfl)⟩⟩)
            clear ys xs zs Hb
            cases e1 : eqI8 yh yl yo yi xh xl xo xi <;> cases e2 : eqI8 zh zl zo zi xh xl xo xi
            all_goals
              rw [e1] at hc1
              rw [e2] at hc2
              have a0 := fun u => (late.out _ Hbh.out u).1.1
              have a1 := fun u => (late.out _ Hbh.out u).1.2.1
              have a2 := fun u => (late.out _ Hbh.out u).1.2.2.1
              have a3 := fun u => (late.out _ Hbh.out u).1.2.2.2
              have b0 := fun u => (late.out _ Hbh.out u).2.1.1
              have b1 := fun u => (late.out _ Hbh.out u).2.1.2.1
              have b2 := fun u => (late.out _ Hbh.out u).2.1.2.2.1
              have b3 := fun u => (late.out _ Hbh.out u).2.1.2.2.2
              go_wp2_with fail
              refine wp_region_late 8 (by kernel_rfl) (by kernel_rfl) ?_
              simp only [List.take_succ_cons, List.take_zero, List.drop_succ_cons, List.drop_zero]
              iterate 8 (go_big_quiet_step (fail))
              refine wpQuiet_nil ?_
              intro w5 h5'
              have h5 := late_out h5'
              have Hb5 := hid (Hbh.out.trans (h5.mono Hbh.out.size))
              clear h5' h5 a0 a1 a2 a3 b0 b1 b2 b3
              have b0 := fun u => (late.out _ Hb5.out u).2.1.1
              have b1 := fun u => (late.out _ Hb5.out u).2.1.2.1
              have b2 := fun u => (late.out _ Hb5.out u).2.1.2.2.1
              have b3 := fun u => (late.out _ Hb5.out u).2.1.2.2.2
              have c0 := fun u => (late.out _ Hb5.out u).2.2.1
              have c1 := fun u => (late.out _ Hb5.out u).2.2.2.1
              have c2 := fun u => (late.out _ Hb5.out u).2.2.2.2.1
              have c3 := fun u => (late.out _ Hb5.out u).2.2.2.2.2
              go_wp2_with fail
              refine wp_region_late 8 (by kernel_rfl) (by kernel_rfl) ?_
              simp only [List.take_succ_cons, List.take_zero, List.drop_succ_cons, List.drop_zero]
              iterate 8 (go_big_quiet_step (fail))
              refine wpQuiet_nil ?_
              intro w6 h6'
              have h6 := late_out h6'
              have Hb6 := hid (Hb5.out.trans (h6.mono Hb5.out.size))
              clear h6' h6 b0 b1 b2 b3 c0 c1 c2 c3 late
              go_wp2_with fail
              go_roundw
              case rel => exact ⟨k + 1, by omega, by go_num, by rw [hc1.out]; simp, by rw [hc2.out]; simp, Hb6.out⟩
              case measure => simp [intOf]; omega
          · obtain rfl : k = N := by omega
            rw [hcX.out]
            have hl2 := cntTo_le f X k
            generalize cntTo f X k = m2 at *
            have hmm : (m2 != m2) = false := by simp
            have hmi : ((m2 : Int) != (m2 : Int)) = false := by simp
            have HbW := hid (HbY.out.trans (Hb.mono HbY.out.size))
            clear hcX
            by_cases h0 : i = 0
            · subst h0
              clear Hb
              go_wp2_with fail
              refine wp_region_late 18 (by kernel_rfl) (by kernel_rfl) ?_
              simp only [List.take_succ_cons, List.take_zero, List.drop_succ_cons, List.drop_zero]
              iterate 18 (go_big_quiet_step (fail))
              refine wpQuiet_nil ?_
              intro w6 h6'
              have h6 := late_out h6'
              have Hb6 := hid (HbW.out.trans (h6.mono HbW.out.size))
              clear h6' h6
              go_wp2_with fail
              go_roundw
              case rel => exact ⟨1, by omega, by go_num, Hb6.out⟩
              case measure => simp [intOf]; omega
            · obtain ⟨j, rfl⟩ : ∃ j, i = j + 1 := ⟨i - 1, by omega⟩
              have hj0 : (0 : Int) ≤ (j : Int) := by omega
              have hj1 : (j : Int) < (k : Int) := by omega
              have hj2 : (j : Int) + 1 < (k : Int) := by omega
              have hj3 : (0 : Int) < (j : Int) + 1 := by omega
              have hj4 : (0 : Int) ≤ (j : Int) + 1 := by omega
              have hwj : IntKind.i64.wrap ((j : Int) + 1 - 1) = (j : Int) := by rw [show (j : Int) + 1 - 1 = (j : Int) by omega]; exact IntWalk.i64_in _ ⟨by omega, by omega⟩
              have hst := hstep.out (j + 1) (by omega) hlt
              rw [hX.out, show j + 1 - 1 = j by omega] at hst
              have KW := hid (fun w => hless_any X (itAt S j) w)
              rw [hst] at KW
              have xs := fun t v hv => (hRs.out.more Hb).cell (j + 1) hlt t v hv
              have ys := fun t v hv => (hRs.out.more Hb).cell j (by omega) t v hv
              rw [hX.out] at xs
              generalize itAt S j = Y at *
              obtain ⟨xh, xl, xo, xi⟩ := X
              obtain ⟨yh, yl, yo, yi⟩ := Y
              have cc : ∀ (c oo : Nat) (v : Value), wr.cell? ⟨c, oo, none⟩ = some v → ∀ u : Later wr, u.val.cell? ⟨c, oo, none⟩ = some v := fun c oo v hv u => (u.cell c oo (cell_lt hv)).trans hv
              have a0 := cc _ _ _ (xs 0 _ rfl)
              have a1 := cc _ _ _ (xs 1 _ rfl)
              have a2 := cc _ _ _ (xs 2 _ rfl)
              have a3 := cc _ _ _ (xs 3 _ rfl)
              have b0 := cc _ _ _ (ys 0 _ rfl)
              have b1 := cc _ _ _ (ys 1 _ rfl)
              have b2 := cc _ _ _ (ys 2 _ rfl)
              have b3 := cc _ _ _ (ys 3 _ rfl)
              unfold itval at KW
              simp only [Nat.add_zero] at KW a0 a1 a2 a3 b0 b1 b2 b3
              clear xs ys cc Hb hst
              go_wp2_with fail
              refine wp_region_late 18 (by kernel_rfl) (by kernel_rfl) ?_
              simp only [List.take_succ_cons, List.take_zero, List.drop_succ_cons, List.drop_zero]
              iterate 18 (go_big_quiet_step ((go_at_call 20; (with_reducible exact late_call (KW.out _)))))
              refine wpQuiet_nil ?_
              intro w6 h6'
              have h6 := late_out h6'
              have Hb6 := hid (HbW.out.trans (h6.mono HbW.out.size))
              clear h6' h6 a0 a1 a2 a3 b0 b1 b2 b3
              go_wp2_with fail
              go_roundw
              case rel => exact ⟨j + 1 + 1, by omega, by go_num, Hb6.out⟩
              case measure => simp [intOf]; omega
      · obtain rfl : i = N := by omega
        have F1 := F0.out.more Hb
        have D5 := hid (D4.out.trans (Hb.mono D4.out.size))
        obtain ⟨l1, k1, f1⟩ := F1
        clear Hb gRS gRA hcnt hstep
        go_wp2_with fail
        refine (KNil.out _).mono ?_
        rintro e w6 ⟨rfl, hb6⟩
        have D6 := hid (below2 D5.out hb6 D5.out.size)
        clear hb6 l1 k1 f1
        go_wp2_with fail
        refine (pop_nil _).mono ?_
        rintro e w7 ⟨rfl, hb7⟩
        have D7 := hid (below2 D6.out hb7 D6.out.size)
        clear hb7
        go_wp2_with fail
        refine (hlen_nil _).mono ?_
        rintro e w8 ⟨rfl, rfl⟩
        go_wp2_with fail
        go_ret
        exact ⟨rfl, D7.out.alloc D7.out.size _⟩
end Go.Proofs.Ytahdhgaoofpefaa
