/-
  Layer 18: PlanTells, the way B: there is no room.
-/
import Derived.Test.YtibjccfillhfpaaPlanGot
namespace Go.Proofs.Ytibjccfillhfpaa
open Go.RowKit
set_option linter.unusedVariables false
set_option linter.unusedSimpArgs false

set_option maxRecDepth 100000 in
set_option maxHeartbeats 16000000 in
theorem planTellsB (n z s o x : Int) (fp : Option Addr) (fcap : Nat) (F : List Int) (lp : Option Addr) (lcap : Nat) (L0 : List En) (f1 : F.length ≤ fcap) (f2 : fcap ≤ maxLen) (f3 : F.length ≤ 17592186044416) (f4 : fp = none → F = []) (l1 : L0.length ≤ lcap) (l2 : lcap ≤ maxLen) (w : World) (RF : RowOf inT w fp F) (RL0 : RowOf enT w lp L0) (hway : placedB n z ⟨s, o, x⟩ F = true ∧ (L0.take 200).all goodE = true ∧ planP z ⟨s, o, x⟩ F (L0.take 200) = none) :
    Calls Try.prog 3 #[geo n z, plv s o x, .slice fp F.length fcap, .slice lp L0.length lcap] w fun e w' => e = .returned (.bool true) ∧ Below w.heap.size w w' := by
  obtain ⟨B0, B1, Hb⟩ := @boxed2 w _ #[.int .i64 n, .int .i64 z] #[.int .i64 s, .int .i64 o, .int .i64 x] 23 25 (Below.refl _ _)
  obtain ⟨W, hW⟩ : ∃ W, (w.alloc (.cells #[.int .i64 n, .int .i64 z] 23)).alloc (.cells #[.int .i64 s, .int .i64 o, .int .i64 x] 25) = W := ⟨_, rfl⟩
  rw [hW] at B0 B1 Hb
  have HB0 := hid B0
  have HB1 := hid B1
  have HH := hid Hb
  replace hW := hid hW
  have RFh := hid RF
  have RLh := hid RL0
  have hl63 : (L0.length : Int) ≤ 9223372036854775807 := by unfold maxLen at l2; omega
  have hlc : (L0.length : Int) ≤ (lcap : Int) := by omega
  clear B0 B1 Hb RF RL0
  go_enter Try.func3, Try.ntmps3
  go_wp2_with fail
  rw [hW.out]
  refine (alive18 _).mono ?_
  rintro e w1 ⟨rfl, hb1⟩
  have C0 := hid (HB0.out.more hb1)
  have C1 := hid (HB1.out.more hb1)
  have D1 := hid (below2 HH.out hb1 HH.out.size)
  clear hb1 HB0 HB1 HH hW
  go_upto_if 25 with (fail)
  go_cut [3] (fun s3 wx => ∃ L : List En, s3 = .slice lp L.length lcap ∧ L.length ≤ 200 ∧ L.length ≤ lcap ∧ RowOf enT w lp L ∧ L = L0.take 200 ∧ wx = w1)
  case first =>
    by_cases g : 200 < (L0.length : Int)
    · have gc : (200 : Int) ≤ (lcap : Int) := by omega
      have ht : (L0.take 200).length = 200 := by rw [List.length_take]; omega
      have hT := hid (RowOf.take RLh.out 200 (by omega))
      replace ht := hid ht
      go_wp2_with fail
      go_meet
      case rel => exact ⟨L0.take 200, by rw [ht.out], by have := ht.out; omega, by have := ht.out; omega, hT.out, rfl, rfl⟩
    · go_wp2_with fail
      go_meet
      case rel => exact ⟨L0, rfl, by omega, l1, RLh.out, (List.take_of_length_le (by omega)).symm, rfl⟩
  case rest =>
    obtain ⟨L, rfl, hL2, hLc, RL, hLt, rfl⟩ := hcut
    rw [← hLt] at hway
    replace hway := hid hway
    clear hLt
    obtain ⟨l0, k0, g0⟩ := C0.out
    obtain ⟨l1', k1, g1⟩ := C1.out
    have KP := hid ((parts_any n z s o x fp fcap F lp lcap L f1 f2 f3 f4 hLc l2 (by omega) wc (RowOf.more RFh.out D1.out) (RowOf.more RL D1.out)).mono fun e w' h => h.got)
    have RLL := hid RL
    clear RL RLh hl63 hlc
    go_wp2_with fail
    refine KP.out.mono ?_
    rintro e w2 ⟨pv, nv, cv, qs, qo, qx, pf, nf, cf, code, rfl, hb2, hgot⟩
    have hGot := hid hgot
    have hlw := hid (show w.heap.size < w2.heap.size by have h1 := (C0.out.more hb2).lt; exact h1)
    have E0 := hid ((C0.out.more hb2).alloc (.cells #[.int .i64 qs, .int .i64 qo, .int .i64 qx] 25))
    have E1 := hid ((C1.out.more hb2).alloc (.cells #[.int .i64 qs, .int .i64 qo, .int .i64 qx] 25))
    have E2 := hid (Blk.new w2 #[.int .i64 qs, .int .i64 qo, .int .i64 qx] 25)
    have Da := below2 D1.out hb2 D1.out.size
    have D2 := hid (Da.alloc Da.size (.cells #[.int .i64 qs, .int .i64 qo, .int .i64 qx] 25))
    have hmore := hid ((Below.refl w2.heap.size w2).alloc (Nat.le_refl _) (.cells #[.int .i64 qs, .int .i64 qo, .int .i64 qx] 25))
    clear hgot hb2 KP l0 k0 g0 l1' k1 g1 Da C0 C1 D1
    go_wp2_with fail
    generalize w2.alloc (.cells #[.int .i64 qs, .int .i64 qo, .int .i64 qx] 25) = W2 at *
    have hall : Hid (∀ k, k < L.length → (L.take (k + 1)).all goodE = ((L.take k).all goodE && goodE (enAt L k))) := hid (fun k hk => by
      rw [List.take_add_one, List.getElem?_eq_getElem hk, ← atR_eq (T := enT) L k hk]
      simp [List.all_append])
    have hfull : Hid ((L.take L.length).all goodE = L.all goodE) := hid (by rw [List.take_length])
    have h00 : Hid ((L.take 0).all goodE = true) := hid (by simp)
    go_loopw [13, 14] (fun s13 i wr => ∃ k : Nat, k ≤ L.length ∧ i = .int .i64 (k : Int) ∧ s13 = .int .i64 (wantI ((L.take k).all goodE)) ∧ wr = W2) (fun _ i _ => L.length - (intOf i).toNat)
    case atStart => exact ⟨0, by omega, rfl, by rw [h00.out]; rfl, rfl⟩
    case round =>
      obtain ⟨k, hk, rfl, rfl, rfl⟩ := hrel
      by_cases hlt : k < L.length
      · obtain ⟨b, o', rfl, R0⟩ := (en_rowp RLL.out).row (by omega)
        have R := R0.more D2.out
        have z0 := R.at0 hlt (v := .int .i64 (enAt L k).k) rfl
        have z1 := R.at1 hlt (v := .int .i64 (enAt L k).i) rfl
        have hst := hall.out k hlt
        have hlt1 : (k : Int) < (L.length : Int) := by omega
        have hk0 : (0 : Int) ≤ (k : Int) := by omega
        have hk1 : IntKind.i64.wrap ((k : Int) + 1) = (k : Int) + 1 := IntWalk.i64_in _ ⟨by omega, by omega⟩
        have hgw := good_ways (enAt L k)
        generalize (L.take k).all goodE = c at *
        have hst2 : Hid (goodE (enAt L k) = true → wantI ((L.take (k + 1)).all goodE) = wantI c) := hid (fun h => by rw [hst, h]; cases c <;> rfl)
        have hst3 : Hid (goodE (enAt L k) = false → wantI ((L.take (k + 1)).all goodE) = 12) := hid (fun h => by rw [hst, h]; cases c <;> rfl)
        generalize wantI c = wc' at *
        generalize goodE (enAt L k) = gk at *
        generalize (enAt L k).k = ek at *
        generalize (enAt L k).i = ei at *
        clear R R0 hst
        rcases hgw with ⟨rfl, hk12, i1, i2⟩ | ⟨rfl, hk1'⟩ | ⟨rfl, hk2⟩ | ⟨rfl, hk12, i1⟩ | ⟨rfl, hk12, i1, i2⟩
        · have j1 : decide (ei < 1) = false := decide_eq_false (by omega)
          have j2 : decide (255 < ei) = false := decide_eq_false (by omega)
          have hr := hid (hst2.out rfl)
          clear i1 i2 hst2 hst3
          rcases hk12 with rfl | rfl
          all_goals
            go_wp2_with fail
            go_roundw
            case rel => exact ⟨k + 1, hlt, by go_num, by rw [hr.out], by simp⟩
            case measure => simp [intOf]; omega
        · have hr := hid (hst3.out rfl)
          clear hst2 hst3
          go_wp2_with fail
          go_roundw
          case rel => exact ⟨k + 1, hlt, by go_num, by rw [hr.out], by simp⟩
          case measure => simp [intOf]; omega
        · have hr := hid (hst3.out rfl)
          have j1 : decide (ek < 1) = false := decide_eq_false (by omega)
          clear hst2 hst3
          go_wp2_with fail
          go_roundw
          case rel => exact ⟨k + 1, hlt, by go_num, by rw [hr.out], by simp⟩
          case measure => simp [intOf]; omega
        · have hr := hid (hst3.out rfl)
          clear hst2 hst3
          rcases hk12 with rfl | rfl
          all_goals
            go_wp2_with fail
            go_roundw
            case rel => exact ⟨k + 1, hlt, by go_num, by rw [hr.out], by simp⟩
            case measure => simp [intOf]; omega
        · have hr := hid (hst3.out rfl)
          have j1 : decide (ei < 1) = false := decide_eq_false (by omega)
          clear hst2 hst3 i1
          rcases hk12 with rfl | rfl
          all_goals
            go_wp2_with fail
            go_roundw
            case rel => exact ⟨k + 1, hlt, by go_num, by rw [hr.out], by simp⟩
            case measure => simp [intOf]; omega
      · obtain rfl : k = L.length := by omega
        rw [hfull.out]
        have KO := hid (odd_any n z s o x F fp fcap f1 f2 wr (RowOf.more RFh.out D2.out))
        obtain ⟨l0, k0, g0⟩ := E0.out
        obtain ⟨l1', k1, g1⟩ := E1.out
        clear hall h00 hfull
        rcases hGot.out.ways with ⟨hpb, rfl, rfl, rfl, rfl, rfl, rfl⟩ | ⟨hpb, hgb, rfl, rfl, rfl, rfl, rfl, rfl⟩ | ⟨hpb, hgb, hpl, rfl, rfl, rfl⟩ | ⟨hpb, hgb, V, f, hpl, rfl, rfl, rfl, c1, c2, RV, hV⟩
        · exact absurd hway.out (by rw [hpb]; simp)
        · exact absurd hway.out (by rw [hgb]; simp)
        · rw [hpb] at KO
          rw [hgb]
          have hGP := hid (goodP_of hpb)
          have hkind : Hid (∀ j, j < L.length → (enAt L j).k = 1 ∨ (enAt L j).k = 2) := hid (fun j hj => by
            have h := List.all_eq_true.1 hgb _ (atR_mem (T := enT) L j hj)
            simp only [goodE, Bool.and_eq_true, Bool.or_eq_true, decide_eq_true_eq] at h
            exact h.1)
          have hpl' : planK z L.length ⟨s, o, x⟩ F L = none := hpl
          have hplh := hid hpl'
          have hwi : wantI true = 0 := rfl
          rw [hwi]
          clear hpb hgb hpl hpl' hGot
          go_wp2_with fail
          refine KO.out.mono ?_
          rintro e w4 ⟨rfl, hb4⟩
          have D4 := below2 D2.out hb4 D2.out.size
          have D5 := hid (D4.alloc D4.size (.cells #[.int .i64 s, .int .i64 o, .int .i64 x] 25))
          have G0 := hid ((E0.out.more hb4).alloc (.cells #[.int .i64 s, .int .i64 o, .int .i64 x] 25))
          have G2 := hid ((E2.out.more hb4).alloc (.cells #[.int .i64 s, .int .i64 o, .int .i64 x] 25))
          have GT := hid (Blk.new w4 #[.int .i64 s, .int .i64 o, .int .i64 x] 25)
          have hb45 := hid ((hmore.out.trans (hb4.mono hmore.out.size)).alloc (by have h1 := hmore.out.size; have h2 := hb4.size; omega) (.cells #[.int .i64 s, .int .i64 o, .int .i64 x] 25))
          have hlt2 : Hid (w2.heap.size < w4.heap.size ∧ w.heap.size < w2.heap.size) := hid (by
            have h1 := hb4.size
            have h2 := E2.out.lt
            have h3 := E0.out.lt
            have h4 := hlw.out
            omega)
          obtain ⟨l1', k1, g1⟩ := E1.out.more hb4
          clear hb4 KO D4 E0 E1 E2 hmore l0 k0 g0
          go_wp2_with fail
          generalize w4.alloc (.cells #[.int .i64 s, .int .i64 o, .int .i64 x] 25) = W5 at *
          generalize w4.heap.size = bt at *
          clear l1' k1 g1
          go_loopw [16, 17, 18] (fun s16 s17 s18 wr => ∃ (K nn i : Nat) (q : Plc) (fr : List Int) (fq : Option Addr) (fc : Nat), i ≤ L.length ∧ s18 = .int .i64 (i : Int) ∧ s17 = .slice fq fr.length fc ∧ s16 = .int .i64 (nn : Int) ∧ GoodP n z q fr ∧ (fr.length ≤ fc ∧ fc ≤ maxLen ∧ RowOf inT w fq fr) ∧ (L.length - i ≤ K ∧ planK z K q fr (L.drop i) = none ∧ nn = 0) ∧ Blk wr bt #[.int .i64 q.seg, .int .i64 q.off, .int .i64 q.next] ∧ Sole (fun j => j = bt) W5 wr) (fun _ _ s18 _ => L.length - (intOf s18).toNat)
          case atStart => exact ⟨L.length, 0, 0, ⟨s, o, x⟩, F, fp, fcap, by omega, rfl, rfl, rfl, hGP.out, ⟨f1, f2, RFh.out⟩, ⟨by omega, by have hpl' := hplh.out; exact ⟨by rw [List.drop_zero]; exact hpl', rfl⟩⟩, GT.out, Sole.refl _ _⟩
          case round =>
            obtain ⟨K, nn, i, ⟨us, uo, ux⟩, fr, fq, fc, hi, rfl, rfl, rfl, HG, HF, HP, BT, SS⟩ := hrel
            have HGh := hid HG
            have HFh := hid HF
            have HPh := hid HP
            have BTh := hid BT
            have SSh := hid SS
            have Q0 := (G0.out.sole SS (by have := hlt2.out; omega))
            have Q0h := hid Q0
            have DD := hid (D5.out.trans (SS.below (by have := hlt2.out; have := D5.out.size; omega) (fun j e => by have := hlt2.out; omega)))
            have hzz := HG.z32
            have hz4 := HG.z4
            have ho0 := HG.o0
            have hoz := HG.oz
            simp only at ho0 hoz
            by_cases hlt : i < L.length
            · have hlt1 : (i : Int) < (L.length : Int) := by omega
              have hl0h : Hid (L.drop i ≠ []) := hid (by intro h; have := congrArg List.length h; rw [List.length_drop] at this; simp at this; omega)
              have hw1 : IntKind.i64.wrap (z - uo) = z - uo := IntWalk.i64_in _ ⟨by omega, by omega⟩
              obtain ⟨q0, qk0, qg0⟩ := Q0
              obtain ⟨q1, qk1, qg1⟩ := BT
              clear HG HF HP SS
              go_upto_if 118 with (fail)
              go_cut [17] (fun s17 wx => ∃ (q' : Plc) (fr' : List Int) (fq' : Option Addr) (fc' : Nat), s17 = .slice fq' fr'.length fc' ∧ stepP z ⟨us, uo, ux⟩ fr = some (q', fr') ∧ (fr'.length ≤ fc' ∧ fc' ≤ maxLen ∧ RowOf inT w fq' fr') ∧
                Blk wx bt #[.int .i64 q'.seg, .int .i64 q'.off, .int .i64 q'.next] ∧ Sole (fun j => j = bt) wr wx)
              case first =>
                by_cases hsp : z - uo < 2
                · cases fr with
                  | nil =>
                    have hno : planK z K ⟨us, uo, ux⟩ [] (L.drop i) = none := planK_none hl0h.out (by rw [List.length_drop]; exact HPh.out.1) (by unfold stepP; simp only; rw [if_pos hsp])
                    have hno' : True := trivial
                    clear hno hno'
                    go_wp2_with fail
                    go_ret
                    exact ⟨rfl, DD.out⟩
                  | cons y ys =>
                    obtain ⟨fb, fo, rfl, RF0⟩ := (in_rowp HFh.out.2.2).row (by simp)
                    have RF1 := RF0.more DD.out
                    have y0 := RF1.at0 (i := 0) (by simp) (v := .int .i64 y) rfl
                    simp only [Nat.zero_mul, Nat.add_zero] at y0
                    have hfc := HFh.out.1
                    simp only [List.length_cons] at hfc
                    have hfc1 : (1 : Int) ≤ (fc : Int) := by omega
                    have hys1 : (1 : Int) ≤ (ys.length : Int) + 1 := by omega
                    have hys0 : (0 : Int) < (ys.length : Int) + 1 := by omega
                    have hysf : (ys.length : Int) + 1 ≤ (fc : Int) := by omega
                    have hfcm : (fc : Int) ≤ 9223372036854775807 := by have h2 := HFh.out.2.1; unfold maxLen at h2; omega
                    have hysz : ((ys.length : Int) + 1 == 0) = false := by simp; omega
                    have hst : Hid (stepP z ⟨us, uo, ux⟩ (y :: ys) = some (⟨ux, 0, y⟩, ys)) := hid (by unfold stepP; simp only; rw [if_pos hsp])
                    have RT := hid (RowOf.drop (T := inT) HFh.out.2.2 1)
                    clear RF0 RF1
                    simp only [List.length_cons]
                    by_cases hf1 : fc = 1
                    · subst hf1
                      have hy0 : ys.length = 0 := by omega
                      have hyn : ys = [] := List.eq_nil_of_length_eq_zero hy0
                      subst hyn
                      go_wp2_with fail
                      go_region
                      go_wp2_with fail
                      have BF := (Blk.fill [.int .i64 ux, .int .i64 0, .int .i64 y] 0 BTh.out (by simp)).drew
                      have SF := (sole_setAll (b := bt) [.int .i64 ux, .int .i64 0, .int .i64 y] 0 wr).drew
                      go_meet
                      case rel => exact ⟨⟨ux, 0, y⟩, [], _, 0, rfl, hst.out, ⟨by simp, by omega, .inl rfl⟩, BF, SF⟩
                    · go_wp2_with fail
                      go_region
                      go_wp2_with fail
                      have BF := (Blk.fill [.int .i64 ux, .int .i64 0, .int .i64 y] 0 BTh.out (by simp)).drew
                      have SF := (sole_setAll (b := bt) [.int .i64 ux, .int .i64 0, .int .i64 y] 0 wr).drew
                      go_meet
                      case rel => exact ⟨⟨ux, 0, y⟩, ys, _, fc - 1, rfl, hst.out, ⟨by omega, by unfold maxLen; omega, RT.out⟩, BF, SF⟩
                · have hst : Hid (stepP z ⟨us, uo, ux⟩ fr = some (⟨us, uo, ux⟩, fr)) := hid (by unfold stepP; simp only; rw [if_neg hsp])
                  go_wp2_with fail
                  go_meet
                  case rel => exact ⟨⟨us, uo, ux⟩, fr, fq, fc, rfl, hst.out, HFh.out, BTh.out, Sole.refl _ _⟩
              case rest =>
                obtain ⟨⟨ps, po, px⟩, fr', fq', fc', rfl, hst, HF', J1, SJ⟩ := hcut
                have hGs := HGh.out.step hst
                have hpo2 := hGs.2.1
                have hpo0 := hGs.1.o0
                simp only at hpo2 hpo0
                have HF'h := hid HF'
                have hGB := hid (hGs.1.behind hpo2 (L.drop i))
                have J1h := hid J1
                have SSJ := SSh.out.trans SJ
                have SSh := hid SSJ
                have J0 := G0.out.sole SSJ (by have := hlt2.out; omega)
                have J0h := hid J0
                have DD := hid (D5.out.trans (SSJ.below (by have := hlt2.out; have := D5.out.size; omega) (fun j e => by have := hlt2.out; omega)))
                have hK : Hid (∃ K', K = K' + 1) := hid ⟨K - 1, by have := HPh.out.1; omega⟩
                have hstep : Hid (∀ K', K = K' + 1 → planK z K ⟨us, uo, ux⟩ fr (L.drop i) = (planK z K' (behindP z ⟨ps, po, px⟩ (L.drop i)) fr' ((L.drop i).drop (fit (L.drop i) (z - po - 1)))).map fun r => (partP z ⟨ps, po, px⟩ (L.drop i) :: r.1, r.2)) := hid (fun K' e => by rw [e]; exact planK_step hl0h.out hst)
                have hfitl := fit_le (L.drop i) (z - po - 1)
                rw [List.length_drop] at hfitl
                have hfit1 := fit_pos (L := L.drop i) (left := z - po - 1) hl0h.out (by omega)
                have hfit64 := fit_64 (L.drop i) (z - po - 1)
                have hfitw := fit_wr (L.drop i) (z - po - 1) (by omega)
                have hpart := hid (show partP z ⟨ps, po, px⟩ (L.drop i) = ⟨⟨ps, po, px⟩, decide (fit (L.drop i) (z - po - 1) = (L.drop i).length), (L.drop i).take (fit (L.drop i) (z - po - 1))⟩ from rfl)
                have hbeh := hid (show behindP z ⟨ps, po, px⟩ (L.drop i) = ⟨ps, po + (1 + wrN ((L.drop i).take (fit (L.drop i) (z - po - 1)))), px⟩ from rfl)
                have hfdef : Hid (fit (L.drop i) (z - po - 1) = min (fitN (L.drop i) (z - po - 1)) 64) := hid rfl
                have hfst := hid (fun j hj => fitN_step (L.drop i) (z - po - 1) j hj)
                have hwt := hid (fun j hj => wrN_take (L.drop i) j hj)
                have hat : Hid (∀ j, enAt (L.drop i) j = enAt L (i + j)) := hid (fun j => atR_drop L i j)
                have hdl : Hid ((L.drop i).length = L.length - i) := hid List.length_drop
                have hf0 : Hid (fitN (L.drop i) (z - po - 1) = 0 + fitN ((L.drop i).drop 0) (z - po - 1 - wrN ((L.drop i).take 0))) := hid (by simp [wrN])
                have hfend : Hid (∀ j, (L.drop i).length ≤ j → fitN ((L.drop i).drop j) (z - po - 1 - wrN ((L.drop i).take j)) = 0) := hid (fun j hj => by rw [List.drop_eq_nil_of_le hj]; rfl)
                have hwz : Hid (wrN ((L.drop i).take 0) = 0) := hid (by simp [wrN])
                have hdrops : Hid (∀ j, (L.drop i).drop j = L.drop (i + j)) := hid (fun j => by rw [List.drop_drop])
                have hw2 : IntKind.i64.wrap (z - po) = z - po := IntWalk.i64_in _ ⟨by omega, by omega⟩
                have hw3 : IntKind.i64.wrap (z - po - 1) = z - po - 1 := IntWalk.i64_in _ ⟨by omega, by omega⟩
                clear qk0 qg0 qk1 qg1 q0 q1
                obtain ⟨q0, qk0, qg0⟩ := J0
                obtain ⟨q1, qk1, qg1⟩ := J1
                clear hst HF' hGs SJ SSJ HGh HFh BTh Q0h hw1
                go_wp2_with fail
                go_region
                obtain ⟨w6, hw6⟩ : ∃ w6, wc.drew = w6 := ⟨_, rfl⟩
                have h6 : Below wc.heap.size wc w6 := hw6 ▸ (Below.refl _ wc).drew
                have M0 := hid (J0h.out.more h6)
                have M1 := hid (J1h.out.more h6)
                have SM := hid (SSh.out.trans (Sole.made h6))
                have DM := hid (below2 DD.out h6 DD.out.size)
                have hbb6 : Hid (bt < w6.heap.size ∧ w.heap.size < w6.heap.size) := hid (by have h1 := M0.out.lt; have h2 := M1.out.lt; exact ⟨h2, h1⟩)
                replace hw6 := hid hw6
                go_wp2_with fail
                rw [hw6.out]
                clear h6 q0 q1 qk0 qk1 qg0 qg1 J0h J1h SSh DD hw6
                go_loopw [19, 20] (fun s19 s20 wr => ∃ j kk : Nat, kk = i + j ∧ kk ≤ L.length ∧ j ≤ 64 ∧ s19 = .int .i64 (kk : Int) ∧ s20 = .int .i64 (z - po - 1 - wrN ((L.drop i).take j)) ∧ 0 ≤ z - po - 1 - (wrN ((L.drop i).take j) : Int) ∧ fitN (L.drop i) (z - po - 1) = j + fitN ((L.drop i).drop j) (z - po - 1 - wrN ((L.drop i).take j)) ∧ wr = w6) (fun s19 _ _ => L.length - (intOf s19).toNat)
                case atStart => exact ⟨0, i, rfl, by omega, by omega, rfl, by rw [hwz.out]; simp, by rw [hwz.out]; omega, hf0.out, rfl⟩
                case round =>
                  obtain ⟨j, kk, hkk, hkl, hj64, rfl, rfl, hge, hF, rfl⟩ := hrel
                  have hFh := hid hF
                  have hkki : IntKind.i64.wrap ((kk : Int) - (i : Int)) = (j : Int) := by rw [show (kk : Int) - (i : Int) = (j : Int) by omega]; exact IntWalk.i64_in _ ⟨by omega, by omega⟩
                  have hLm : L.length ≤ 200 := hL2
                  have hlj := hdl.out
                  obtain ⟨lft, hlft⟩ : ∃ lft, z - po - 1 - (wrN ((L.drop i).take j) : Int) = lft := ⟨_, rfl⟩
                  rw [hlft] at hge ⊢
                  have hcont : Hid (∀ e, e = enAt L kk → (kk < L.length → (e.k = 1 ∨ e.k = 2))) := hid (fun e he h => by rw [he]; exact hkind.out kk h)
                  obtain ⟨cont, hc⟩ : ∃ cont : Bool, cont = (decide (kk < L.length) && (decide (j < 64) && (decide ((enAt L kk).k = 2) || decide (0 < lft)))) := ⟨_, rfl⟩
                  have hch := hid hc
                  have hlfth := hid hlft
                  have hkkh := hid hkk
                  clear hF hlft hkk hlj
                  go_upto_region 24 with (fail)
                  go_cut [168] (fun s wx => s = .bool cont ∧ wx = wr)
                  case first =>
                    by_cases a1 : kk < L.length
                    · have a1' : (kk : Int) < (L.length : Int) := by omega
                      have a0' : (0 : Int) ≤ (kk : Int) := by omega
                      by_cases a2 : j < 64
                      · have a2' : (j : Int) < 64 := by omega
                        obtain ⟨lb, lo, rfl, R0⟩ := (en_rowp RLL.out).row (by omega)
                        have R := R0.more DM.out
                        have z0 := R.at0 a1 (v := .int .i64 (enAt L kk).k) rfl
                        have hk12 := hkind.out kk a1
                        generalize enAt L kk = ek at *
                        clear R R0
                        rw [decide_eq_true a1, decide_eq_true a2] at hc
                        rcases hk12 with h1 | h2
                        · rw [h1] at z0 hc
                          by_cases a3 : 0 < lft
                          · rw [decide_eq_true a3] at hc
                            have hct : cont = true := by rw [hc]; rfl
                            clear hc h1 hch
                            go_wp2_with fail
                            go_meet
                            case rel => exact ⟨by rw [hct], rfl⟩
                          · have a3' : decide (0 < lft) = false := decide_eq_false a3
                            rw [a3'] at hc
                            have hct : cont = false := by rw [hc]; rfl
                            clear hc h1 hch a3
                            go_wp2_with fail
                            go_meet
                            case rel => exact ⟨by rw [hct], rfl⟩
                        · rw [h2] at z0 hc
                          have hct : cont = true := by rw [hc]; rfl
                          clear hc h2 hch
                          go_wp2_with fail
                          go_meet
                          case rel => exact ⟨by rw [hct], rfl⟩
                      · have a2' : decide ((j : Int) < 64) = false := decide_eq_false (by omega)
                        have a2n : decide (j < 64) = false := decide_eq_false a2
                        rw [decide_eq_true a1, a2n] at hc
                        have hct : cont = false := by rw [hc]; rfl
                        clear hc hch
                        go_wp2_with fail
                        go_meet
                        case rel => exact ⟨by rw [hct], rfl⟩
                    · have a1' : decide ((kk : Int) < (L.length : Int)) = false := decide_eq_false (by omega)
                      have a1n : decide (kk < L.length) = false := decide_eq_false a1
                      rw [a1n] at hc
                      have hct : cont = false := by rw [hc]; rfl
                      clear hc hch
                      go_wp2_with fail
                      go_meet
                      case rel => exact ⟨by rw [hct], rfl⟩
                  case rest =>
                    obtain ⟨rfl, rfl⟩ := hcut
                    clear hc
                    cases cont
                    · have hN : Hid (fit (L.drop i) (z - po - 1) = j) := hid (by
                        have h := hch.out
                        have hF := hFh.out
                        rw [hlfth.out] at hF
                        rw [hfdef.out]
                        by_cases a1 : kk < L.length
                        · by_cases a2 : j < 64
                          · rw [decide_eq_true a1, decide_eq_true a2] at h
                            simp only [Bool.true_and] at h
                            have h' := h.symm
                            rw [Bool.or_eq_false_iff] at h'
                            have h2 := of_decide_eq_false h'.1
                            have h3 := of_decide_eq_false h'.2
                            have h1 : (enAt L kk).k = 1 := (hkind.out kk a1).resolve_right h2
                            have hs := hfst.out j (by rw [hdl.out]; have := hkkh.out; omega)
                            have hw := hwt.out j (by rw [hdl.out]; have := hkkh.out; omega)
                            rw [hat.out, ← hkkh.out, if_pos h1] at hw
                            rw [hlfth.out, if_pos (by have := hlfth.out; omega)] at hs
                            rw [hs] at hF
                            omega
                          · omega
                        · have := hfend.out j (by rw [hdl.out]; have := hkkh.out; omega)
                          rw [hlfth.out] at this
                          rw [this] at hF
                          omega)
                      have hN0 := hN.out
                      have hlen2 := hdl.out
                      rw [hN0] at hfitl hfit1 hfitw hstep hpart hbeh
                      have hWR := hlfth.out
                      have hBeh : Hid (behindP z ⟨ps, po, px⟩ (L.drop i) = ⟨ps, z - lft, px⟩) := hid (by rw [hbeh.out]; congr 1; omega)
                      rw [hBeh.out] at hGB hstep
                      have hk2 := hkkh.out
                      have hzl : IntKind.i64.wrap (z - lft) = z - lft := IntWalk.i64_in _ ⟨by omega, by omega⟩
                      have hkd := hdrops.out j
                      rw [← hk2] at hkd
                      rw [hkd] at hstep
                      have hj1 : 1 ≤ j := hfit1
                      obtain ⟨K', hK'⟩ := hK.out
                      have hst2 := hid (hstep.out K' hK')
                      have hK'h := hid hK'
                      obtain ⟨m0, mk0, mf0⟩ := M0.out
                      obtain ⟨m1, mk1, mf1⟩ := M1.out
                      have BN : Hid (Blk (wc.setCell ⟨bt, 1, none⟩ (.int .i64 (z - lft))) bt #[.int .i64 ps, .int .i64 (z - lft), .int .i64 px]) := hid (M1.out.set 1 _ (by simp))
                      have SN : Hid (Sole (fun j => j = bt) W5 (wc.setCell ⟨bt, 1, none⟩ (.int .i64 (z - lft)))) := hid (SM.out.trans (Sole.setCell (S := fun j => j = bt) (b := bt) (o := 1) wc _ rfl))
                      clear hK' hkd hN0 hlen2 hWR hk2 hkki hLm hcont hch hfdef hfst hwt hat hdl hf0 hfend hwz hdrops hw2 hw3 hfitl hfit1 hfitw hfit64
                      have hpn := hid (show planK z K' ⟨ps, z - lft, px⟩ fr' (L.drop kk) = none by
                        have h := HPh.out.2.1
                        rw [hst2.out] at h
                        cases hq : planK z K' ⟨ps, z - lft, px⟩ fr' (L.drop kk) with
                        | none => rfl
                        | some r => rw [hq] at h; simp at h)
                      have hnn := HPh.out.2.2
                      subst hnn
                      go_wp2_with fail
                      go_roundw
                      case rel => exact ⟨K', 0, kk, ⟨ps, z - lft, px⟩, fr', fq', fc', hkl, rfl, rfl, rfl, hGB.out, HF'h.out, ⟨by have h1 := HPh.out.1; have h2 := hK'h.out; have h3 := hkkh.out; omega, hpn.out, rfl⟩, BN.out, SN.out⟩
                      case measure => have := hkkh.out; simp [intOf]; omega
                    · have a1 : kk < L.length ∧ j < 64 ∧ ((enAt L kk).k = 2 ∨ 0 < lft) := by
                        have h := hch.out.symm
                        simp only [Bool.and_eq_true, Bool.or_eq_true, decide_eq_true_eq] at h
                        exact h
                      obtain ⟨b1, b2, b3⟩ := a1
                      obtain ⟨lb, lo, rfl, R0⟩ := (en_rowp RLL.out).row (by omega)
                      have R := R0.more DM.out
                      have z0 := R.at0 b1 (v := .int .i64 (enAt L kk).k) rfl
                      have hk12 := hkind.out kk b1
                      have hs := hfst.out j (by rw [hdl.out]; have := hkkh.out; omega)
                      have hw := hwt.out j (by rw [hdl.out]; have := hkkh.out; omega)
                      rw [hat.out, ← hkkh.out] at hw
                      have b1' : (kk : Int) < (L.length : Int) := by omega
                      have b0' : (0 : Int) ≤ (kk : Int) := by omega
                      have hkw : IntKind.i64.wrap ((kk : Int) + 1) = (kk : Int) + 1 := IntWalk.i64_in _ ⟨by omega, by omega⟩
                      generalize enAt L kk = ek at *
                      clear R R0 hch hkki hLm hcont
                      by_cases h1 : ek.k = 1
                      · rw [if_pos h1] at hw
                        rw [h1] at z0
                        have hl0 : 0 < lft := b3.resolve_left (by omega)
                        have hlw : IntKind.i64.wrap (lft - 1) = lft - 1 := IntWalk.i64_in _ ⟨by omega, by have := hlfth.out; omega⟩
                        have hnew : Hid (z - po - 1 - (wrN ((L.drop i).take (j + 1)) : Int) = lft - 1) := hid (by rw [hw]; have := hlfth.out; omega)
                        have hFn : Hid (fitN (L.drop i) (z - po - 1) = j + 1 + fitN ((L.drop i).drop (j + 1)) (z - po - 1 - wrN ((L.drop i).take (j + 1)))) := hid (by
                          rw [hFh.out, hs, if_neg (by have := hnew.out; omega)]; omega)
                        replace b2 := hid b2
                        replace hge := hid hge
                        clear hs hw h1 b3 hk12
                        go_wp2_with fail
                        go_roundw
                        case rel => exact ⟨j + 1, kk + 1, by have := hkkh.out; omega, by omega, by have := b2.out; omega, by go_num, by rw [hnew.out], by have := hge.out; rw [hnew.out]; omega, hFn.out, by simp⟩
                        case measure => simp [intOf]; omega
                      · rw [if_neg h1] at hw
                        have h1' : (ek.k == 1) = false := by simpa using h1
                        have hnew : Hid (z - po - 1 - (wrN ((L.drop i).take (j + 1)) : Int) = lft) := hid (by rw [hw]; have := hlfth.out; omega)
                        have hFn : Hid (fitN (L.drop i) (z - po - 1) = j + 1 + fitN ((L.drop i).drop (j + 1)) (z - po - 1 - wrN ((L.drop i).take (j + 1)))) := hid (by
                          rw [hFh.out, hs, if_neg (by have := hnew.out; omega)]; omega)
                        replace b2 := hid b2
                        replace hge := hid hge
                        clear hs hw h1 b3 hk12
                        go_wp2_with fail
                        go_roundw
                        case rel => exact ⟨j + 1, kk + 1, by have := hkkh.out; omega, by omega, by have := b2.out; omega, by go_num, by rw [hnew.out], by have := hge.out; rw [hnew.out]; omega, hFn.out, by simp⟩
                        case measure => simp [intOf]; omega
            · obtain rfl : i = L.length := by omega
              have h := HPh.out.2.1
              rw [List.drop_length, planK_nil] at h
              cases h
        · exact absurd hway.out (by rw [hpl]; simp)
end Go.Proofs.Ytibjccfillhfpaa
