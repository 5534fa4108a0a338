/-
  The library's stable sort, at points: a block by insertion.
-/
import Derived.Test.YtfijkbgbhaoilaaStRow
import Derived.Test.YtfijkbgbhaoilaaRegion
namespace Go.Proofs.Ytfijkbgbhaoilaa
open Go.RowKit
set_option linter.unusedVariables false
set_option linter.unusedSimpArgs false

set_option maxRecDepth 100000 in
set_option maxHeartbeats 8000000 in
theorem insert_any (base b n cap a z f : Nat) (cb : Array Value) (I : World → Prop) (cf : Pt → Pt → Int) (Q : Pt → Prop) (KF : CmpF f cb I b cf Q) (F : Nat → Pt) (hQ0 : ∀ i, Q (F i)) (g : Nat → Nat) (haz : a ≤ z) (hz : z ≤ n) (hsm : n ≤ 144115188075855872)
    (hg : ∀ x y, a ≤ x → x < y → y < z → g x < g y) (w : World) (hI : I w) (H : StR w base b n cap F g) :
    Calls Try.prog 36 #[.slice (some ⟨b, 0, none⟩) n cap, .int .i64 (a : Int), .int .i64 (z : Int), .func (.func f) #[] cb] w fun x w' => x = .returned (.tuple #[]) ∧ ∃ h, Srt (ltC cf) F h a z ∧ Mv g h a z ∧ StR w' base b n cap F h ∧ Sole (fun k => k = b) w w' := by
  have eg := KF.enters
  have KC := hid KF.calls
  have hQ := hid hQ0
  have KI := hid KF.keeps
  have KW := hid KF.weak
  have HH := hid H
  have II := hid hI
  have Hg := hid hg
  have hb := hid (show a ≤ z ∧ z ≤ n ∧ n ≤ 144115188075855872 from ⟨haz, hz, hsm⟩)
  have hz57 : (z : Int) ≤ 144115188075855872 := by omega
  have hzn : (z : Int) ≤ (n : Int) := by omega
  have ha57 : (a : Int) ≤ 144115188075855872 := by omega
  clear H hI hg haz hz hsm KF hQ0
  go_enter Try.func36, Try.ntmps36
  go_wp2_with fail
  go_loopw [8] (fun v wr => ∃ (i : Nat) (h : Nat → Nat), v = .int .i64 (i : Int) ∧ a < i ∧ (i ≤ z ∨ i = a + 1) ∧ Srt (ltC cf) F h a i ∧ Mv g h a i ∧ StR wr base b n cap F h ∧ Sole (fun k => k = b) w wr) (fun v _ => z - (intOf v).toNat)
  case atStart => exact ⟨a + 1, g, by go_num, by omega, .inr rfl, fun x y h1 h2 h3 => by omega, Mv.refl _ _ _, HH.out, Sole.refl _ _⟩
  case round =>
    obtain ⟨i, h, rfl, hai, hiz, hS, hM, H, S⟩ := hrel
    clear HH
    by_cases hlt : i < z
    · have hlt1 : (i : Int) < (z : Int) := by omega
      have hst : Hid (Sink (ltC cf) F h a i i) := hid (Sink.start hS fun x h1 h2 => by
        obtain ⟨k, k1, k2, e⟩ := hM.img x h1 h2
        rw [e, hM.out i (.inr (Nat.le_refl _))]
        exact Hg.out k i k1 k2 hlt)
      obtain ⟨WY, rfl⟩ : ∃ WY, WY = wr := ⟨_, rfl⟩
      have hMh := hid hM
      have Hh := hid H
      have Sh := hid S
      have hi57 : (i : Int) ≤ 144115188075855872 := by omega
      have hii := hid (show a < i ∧ i < z from ⟨hai, hlt⟩)
      clear hS hM H S hlt hiz hai
      go_wp2_with fail
      go_loopw [9] (fun v wx => ∃ (j : Nat) (k : Nat → Nat), v = .int .i64 (j : Int) ∧ a ≤ j ∧ j ≤ i ∧ Sink (ltC cf) F k a j i ∧ Mv g k a (i + 1) ∧ StR wx base b n cap F k ∧ Sole (fun k => k = b) w wx) (fun v _ => (intOf v).toNat)
      case atStart => exact ⟨i, h, rfl, by have := hii.out; omega, Nat.le_refl _, hst.out, hMh.out.wide (Nat.le_refl _) (Nat.le_succ _), Hh.out, Sh.out⟩
      case round =>
        obtain ⟨j, k, rfl, haj, hji, T, M, H, S⟩ := hrel
        clear Hh Sh hMh hst
        have Hh := hid H
        have Sh := hid S
        have Mh := hid M
        have Th := hid T
        have hI1 := KI.out w wr II.out S
        have q0 := hid (fun u : Later wr => KI.out wr u.val hI1 (Sole.made u.h))
        by_cases hja : a < j
        · have hja1 : (a : Int) < (j : Int) := by omega
          obtain ⟨p, rfl⟩ : ∃ p, j = p + 1 := ⟨j - 1, by omega⟩
          have hja2 : a < p + 1 := hja
          have hja3 : (a : Int) < (p : Int) + 1 := by omega
          have hbo := hb.out
          have hio := hii.out
          have hwp : IntKind.i64.wrap ((((p + 1 : Nat)) : Int) - 1) = (p : Int) := by rw [IntKind.wrap_i64]; omega
          have hwp2 : IntKind.i64.wrap ((p : Int) + 1 - 1) = (p : Int) := by rw [IntKind.wrap_i64]; omega
          have hwp3 : IntKind.i64.wrap (p : Int) = (p : Int) := by rw [IntKind.wrap_i64]; omega
          have hpn : (p : Int) < (n : Int) := by omega
          have hp0 : (0 : Int) ≤ (p : Int) := by omega
          have hqn : (p : Int) + 1 < (n : Int) := by omega
          have hq0 : (0 : Int) ≤ (p : Int) + 1 := by omega
          have htn : ((p : Int) + 1).toNat = p + 1 := by omega
          have hn63 : (n : Int) ≤ 9223372036854775807 := by omega
          obtain ⟨c1, c2, cells⟩ := H.row
          obtain ⟨z0, z1, z2, z3⟩ := cells (p + 1) (by omega)
          obtain ⟨y0, y1, y2, y3⟩ := cells p (by omega)
          have cc : ∀ (c oo : Nat) (v : Value), wr.cell? ⟨c, oo, none⟩ = some v → ∀ u : Later wr, u.val.cell? ⟨c, oo, none⟩ = some v := fun c oo v hv u => (u.cell c oo (cell_lt hv)).trans hv
          have a0 := cc _ _ _ z0
          have a1 := cc _ _ _ z1
          have a2 := cc _ _ _ z2
          have a3 := cc _ _ _ z3
          have b0 := cc _ _ _ y0
          have b1 := cc _ _ _ y1
          have b2 := cc _ _ _ y2
          have b3 := cc _ _ _ y3
          have hstep := hid (fun hlt => T.step KW.out hja hji hlt)
          have hstop := hid (fun hge => T.stop KW.out hji (.inr ⟨hja, hge⟩))
          have hpi := hid (show a ≤ p ∧ p ≤ i ∧ p + 1 ≤ i ∧ a < p + 1 ∧ p + 1 < n from ⟨by omega, by omega, hji, hja, by omega⟩)
          simp only [Nat.add_sub_cancel] at hstep hstop
          have hsw := hid (fun (wz : World) (Hz : StR wz base b n cap F k) => Hz.swap (p + 1) p (by omega) (by omega))
          replace c1 := hid c1
          replace c2 := hid c2
          clear cc cells z0 z1 z2 z3 y0 y1 y2 y3 hbo hio hja hji haj T M H S hI1
          have hrow := hid (fun (wz : World) (Hz : StR wz base b n cap F k) => Hz.row.2.2)
          obtain ⟨X, hX⟩ : ∃ X, X = F (k (p + 1)) := ⟨_, rfl⟩
          obtain ⟨Y, hY⟩ : ∃ Y, Y = F (k p) := ⟨_, rfl⟩
          rw [← hX] at a0 a1 a2 a3
          rw [← hY] at b0 b1 b2 b3
          have hXY := hid (show X = F (k (p + 1)) ∧ Y = F (k p) from ⟨hX, hY⟩)
          clear hX hY
          have KC2 := hid (fun u : Later wr => KC.out X Y (by rw [hXY.out.1]; exact hQ.out _) (by rw [hXY.out.2]; exact hQ.out _) u.val (q0.out u))
          generalize hc : cf X Y = c at *
          replace hc := hid hc
          by_cases hneg : c < 0
          · go_wp2_with fail
            refine wp_region_late 16 (by kernel_rfl) (by kernel_rfl) ?_
            simp only [List.take_succ_cons, List.take_zero, List.drop_succ_cons, List.drop_zero]
            iterate 16 (go_big_quiet_step ((with_reducible exact late_call (KC2.out _))))
            refine wpQuiet_nil ?_
            intro w3 h3'
            have h3 := late_out h3'
            have H3 := Hh.out.made h3
            have S3 := Sh.out.trans (Sole.made h3)
            have hst2 := hid (hstep.out (by rw [← hXY.out.1, ← hXY.out.2, hc.out]; exact decide_eq_true hneg))
            have z := hrow.out w3 H3
            obtain ⟨z0, z1, z2, z3⟩ := z (p + 1) hpi.out.2.2.2.2
            obtain ⟨y0, y1, y2, y3⟩ := z p (Nat.lt_of_succ_lt hpi.out.2.2.2.2)
            have fz := H3.frz (Nat.lt_of_le_of_lt (Nat.zero_le _) hpi.out.2.2.2.2)
            have hO := (hsw.out w3 H3).drew
            have hS := hid (S3.trans (sole_swap w3 b (p + 1) p (F (k p)) (F (k (p + 1))))).drew
            rw [← hXY.out.1] at z0 z1 z2 z3
            rw [← hXY.out.2] at y0 y1 y2 y3
            rw [← hXY.out.1, ← hXY.out.2] at hO
            rw [← hXY.out.1, ← hXY.out.2] at hS
            replace hO := hid hO
            have a1n : (p + 1) * 4 ≠ p * 4 := by omega
            have hMv := hid (Mh.out.trans (Mv.swp k (i := p + 1) (k := p) (Nat.le_of_lt hpi.out.2.2.2.1) (Nat.lt_succ_of_le hpi.out.2.2.1) hpi.out.1 (Nat.lt_succ_of_le hpi.out.2.1)))
            clear h3' h3 H3 S3 z a0 a1 a2 a3 b0 b1 b2 b3 KC2 q0 hstep hstop hsw hrow Hh Sh Mh Th
            replace hneg := hid hneg
            go_wp2_with fail
            go_region
            go_wp2_with fail
            go_roundw
            case rel => exact ⟨p, swp2 k (p + 1) p, by go_num, hpi.out.1, hpi.out.2.1, hst2.out, hMv.out, hO.out, hS.out⟩
            case measure => simp [intOf]
          · have hcf : (decide (c < 0)) = false := decide_eq_false hneg
            replace hneg := hid hneg
            go_wp2_with fail
            refine wp_region_late 16 (by kernel_rfl) (by kernel_rfl) ?_
            simp only [List.take_succ_cons, List.take_zero, List.drop_succ_cons, List.drop_zero]
            iterate 16 (go_big_quiet_step ((with_reducible exact late_call (KC2.out _))))
            refine wpQuiet_nil ?_
            intro w3 h3'
            have h3 := late_out h3'
            have H3 := hid (Hh.out.made h3)
            have S3 := hid (Sh.out.trans (Sole.made h3))
            have hst2 := hid (hstop.out (by rw [← hXY.out.1, ← hXY.out.2, hc.out]; exact decide_eq_false (Int.not_lt.2 hneg.out)))
            clear h3' h3 a0 a1 a2 a3 b0 b1 b2 b3 KC2 q0 hstep hstop hsw hrow Hh Sh Th
            go_wp2_with fail
            go_roundw
            case rel => exact ⟨i + 1, k, by go_num, by have := hii.out; omega, .inl hii.out.2, hst2.out, Mh.out, H3.out, S3.out⟩
            case measure => have := hii.out; simp [intOf]; omega
        · have hja1 : ¬ (a : Int) < (j : Int) := by omega
          have hja2 : ¬ a < j := hja
          have hst2 := hid (T.stop KW.out hji (.inl (by omega)))
          clear T M H S hI1
          go_wp2_with fail
          refine wp_region_late 16 (by kernel_rfl) (by kernel_rfl) ?_
          simp only [List.take_succ_cons, List.take_zero, List.drop_succ_cons, List.drop_zero]
          iterate 16 (go_big_quiet_step (fail))
          refine wpQuiet_nil ?_
          intro w3 h3'
          have h3 := late_out h3'
          have H3 := hid (Hh.out.made h3)
          have S3 := hid (Sh.out.trans (Sole.made h3))
          clear h3' h3 q0 Hh Sh Th
          go_wp2_with fail
          go_roundw
          case rel => exact ⟨i + 1, k, by go_num, by have := hii.out; omega, .inl hii.out.2, hst2.out, Mh.out, H3.out, S3.out⟩
          case measure => have := hii.out; simp [intOf]; omega
    · have hlt1 : ¬ (i : Int) < (z : Int) := by omega
      have hfin : Srt (ltC cf) F h a z ∧ Mv g h a z := by
        have hbo := hb.out
        by_cases hiz2 : i = z
        · rw [← hiz2]; exact ⟨hS, hM⟩
        · have e : i = a + 1 := hiz.resolve_left (by omega)
          have e2 : a = z := by omega
          subst e2
          refine ⟨fun x y h1 h2 h3 => by omega, fun x h1 h2 => by omega, fun x hx => ?_⟩
          by_cases hxa : x = a
          · obtain ⟨q, q1, q2, e⟩ := hM.img x (by omega) (by omega)
            rw [e]; congr 1; omega
          · exact hM.out x (by omega)
      have hf := hid hfin
      have Hh := hid H
      have Sh := hid S
      clear hfin H S hS hM hiz
      go_wp2
      go_end0
      exact ⟨rfl, h, hf.out.1, hf.out.2, Hh.out, Sh.out⟩
end Go.Proofs.Ytfijkbgbhaoilaa
