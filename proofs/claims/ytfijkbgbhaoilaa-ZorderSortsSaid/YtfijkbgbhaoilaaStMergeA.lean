/-
  The library's stable sort, at points: a merge of one point with those behind it.
-/
import Derived.Test.YtfijkbgbhaoilaaStRow
import Derived.Test.YtfijkbgbhaoilaaRegion
namespace Go.Proofs.Ytfijkbgbhaoilaa
open Go.RowKit
set_option linter.unusedVariables false
set_option linter.unusedSimpArgs false

/-- What a merge comes to. -/
def Mrg (cf : Pt → Pt → Int) (F : Nat → Pt) (g : Nat → Nat) (base b n cap a z : Nat) (w : World) : Ending → World → Prop := fun x w' =>
  x = .returned (.tuple #[]) ∧ ∃ h, Srt (ltC cf) F h a z ∧ Mv g h a z ∧ StR w' base b n cap F h ∧ Sole (fun k => k = b) w w'

set_option maxRecDepth 100000 in
set_option maxHeartbeats 8000000 in
theorem merge_up (base b n cap a m z f : Nat) (cb : Array Value) (I : World → Prop) (cf : Pt → Pt → Int) (Q : Pt → Prop) (KF : CmpF f cb I b cf Q) (F : Nat → Pt) (hQ0 : ∀ i, Q (F i)) (g : Nat → Nat) (ham : m = a + 1) (hmz : m < z) (hz : z ≤ n) (hsm : n ≤ 144115188075855872)
    (hs2 : Srt (ltC cf) F g m z) (hf : Fst g a m z) (w : World) (hI : I w) (H : StR w base b n cap F g) :
    Calls Try.prog 37 #[.slice (some ⟨b, 0, none⟩) n cap, .int .i64 (a : Int), .int .i64 (m : Int), .int .i64 (z : Int), .func (.func f) #[] cb] w (Mrg cf F g base b n cap a z w) := by
  have eg := KF.enters
  have KC := hid KF.calls
  have hQ := hid hQ0
  have KI := hid KF.keeps
  have KW := hid KF.weak
  have HH := hid H
  have II := hid hI
  have hs2h := hid hs2
  have hfh := hid hf
  have hb := hid (show m = a + 1 ∧ m < z ∧ z ≤ n ∧ n ≤ 144115188075855872 from ⟨ham, hmz, hz, hsm⟩)
  have hw1 : IntKind.i64.wrap ((m : Int) - (a : Int)) = 1 := by rw [ham]; rw [IntKind.wrap_i64]; omega
  have ha57 : (a : Int) ≤ 144115188075855872 := by omega
  clear H hI hs2 hf KF hQ0 ham hmz hz hsm
  go_enter Try.func37, Try.ntmps37
  go_wp2_with fail
  go_loopw [10, 11] (fun u v wr => ∃ (i j : Nat), u = .int .i64 (i : Int) ∧ v = .int .i64 (j : Int) ∧ m ≤ i ∧ i ≤ j ∧ j ≤ z ∧ (i = m ∨ ltC cf (F (g (i - 1))) (F (g a)) = true) ∧ (j = z ∨ ltC cf (F (g j)) (F (g a)) = false) ∧ StR wr base b n cap F g ∧ Sole (fun k => k = b) w wr) (fun u v _ => (intOf v).toNat - (intOf u).toNat)
  case atStart => exact ⟨m, z, rfl, rfl, Nat.le_refl _, by have := hb.out; omega, Nat.le_refl _, .inl rfl, .inl rfl, HH.out, Sole.refl _ _⟩
  case round =>
    obtain ⟨i, j, rfl, rfl, h1, h2, h3, h4, h5, H, S⟩ := hrel
    clear HH
    have Hh := hid H
    have Sh := hid S
    by_cases hlt : i < j
    · have hlt1 : (i : Int) < (j : Int) := by omega
      have hbo := hb.out
      obtain ⟨c, hc⟩ : ∃ c, c = (i + j) / 2 := ⟨_, rfl⟩
      have hwc : ((i : Int) + (j : Int)) / 2 = (c : Int) := by omega
      have hij : (i : Int) + (j : Int) ≤ 288230376151711744 := by omega
      have hc0 : (0 : Int) ≤ (c : Int) := by omega
      have hcn : (c : Int) < (n : Int) := by omega
      have hc57 : (c : Int) ≤ 144115188075855872 := by omega
      have han : (a : Int) < (n : Int) := by omega
      have ha0 : (0 : Int) ≤ (a : Int) := by omega
      have hn63 : (n : Int) ≤ 9223372036854775807 := by omega
      obtain ⟨c1, c2, cells⟩ := H.row
      obtain ⟨z0, z1, z2, z3⟩ := cells c (by omega)
      obtain ⟨y0, y1, y2, y3⟩ := cells a (by omega)
      have cc : ∀ (c oo : Nat) (v : Value), wr.cell? ⟨c, oo, none⟩ = some v → ∀ u : Later wr, u.val.cell? ⟨c, oo, none⟩ = some v := fun c oo v hv u => (u.cell c oo (cell_lt hv)).trans hv
      have a0 := cc _ _ _ z0
      have a1 := cc _ _ _ z1
      have a2 := cc _ _ _ z2
      have a3 := cc _ _ _ z3
      have b0 := cc _ _ _ y0
      have b1 := cc _ _ _ y1
      have b2 := cc _ _ _ y2
      have b3 := cc _ _ _ y3
      have hI1 := KI.out w wr II.out S
      have q0 := hid (fun u : Later wr => KI.out wr u.val hI1 (Sole.made u.h))
      have hA := hid (show m ≤ i ∧ i ≤ c ∧ c < j ∧ j ≤ z ∧ i < j from ⟨h1, by omega, by omega, h3, hlt⟩)
      have h4h := hid h4
      have h5h := hid h5
      clear cc cells z0 z1 z2 z3 y0 y1 y2 y3 c1 c2 hbo hc h1 h2 h3 h4 h5 H S hI1
      obtain ⟨X, hX⟩ : ∃ X, X = F (g c) := ⟨_, rfl⟩
      obtain ⟨Y, hY⟩ : ∃ Y, Y = F (g a) := ⟨_, rfl⟩
      rw [← hX] at a0 a1 a2 a3
      rw [← hY] at b0 b1 b2 b3
      have hXY := hid (show X = F (g c) ∧ Y = F (g a) from ⟨hX, hY⟩)
      clear hX hY
      have KC2 := hid (fun u : Later wr => KC.out X Y (by rw [hXY.out.1]; exact hQ.out _) (by rw [hXY.out.2]; exact hQ.out _) u.val (q0.out u))
      generalize hcc : cf X Y = r at *
      replace hcc := hid hcc
      by_cases hneg : r < 0
      · replace hlt := hid hlt
        go_wp2_with fail
        refine wp_region_late 10 (by kernel_rfl) (by kernel_rfl) ?_
        simp only [List.take_succ_cons, List.take_zero, List.drop_succ_cons, List.drop_zero]
        iterate 10 (go_big_quiet_step ((with_reducible exact late_call (KC2.out _))))
        refine wpQuiet_nil ?_
        intro w3 h3'
        have h3 := late_out h3'
        have H3 := hid (Hh.out.made h3)
        have S3 := hid (Sh.out.trans (Sole.made h3))
        have hst2 := hid (show ltC cf (F (g c)) (F (g a)) = true by rw [← hXY.out.1, ← hXY.out.2]; show decide (cf X Y < 0) = true; rw [hcc.out]; exact decide_eq_true hneg)
        clear h3' h3 a0 a1 a2 a3 b0 b1 b2 b3 KC2 q0 Hh Sh
        go_wp2_with fail
        go_roundw
        case rel => exact ⟨c + 1, j, by go_num, rfl, by have := hA.out; omega, by have := hA.out; omega, hA.out.2.2.2.1, .inr (by rw [Nat.add_sub_cancel]; exact hst2.out), h5h.out, H3.out, S3.out⟩
        case measure => have := hA.out; simp [intOf]; omega
      · have hcf : (decide (r < 0)) = false := decide_eq_false hneg
        have hneg' := hid hneg
        clear hneg
        replace hlt := hid hlt
        go_wp2_with fail
        refine wp_region_late 10 (by kernel_rfl) (by kernel_rfl) ?_
        simp only [List.take_succ_cons, List.take_zero, List.drop_succ_cons, List.drop_zero]
        iterate 10 (go_big_quiet_step ((with_reducible exact late_call (KC2.out _))))
        refine wpQuiet_nil ?_
        intro w3 h3'
        have h3 := late_out h3'
        have H3 := hid (Hh.out.made h3)
        have S3 := hid (Sh.out.trans (Sole.made h3))
        have hst2 := hid (show ltC cf (F (g c)) (F (g a)) = false by rw [← hXY.out.1, ← hXY.out.2]; show decide (cf X Y < 0) = false; rw [hcc.out]; exact decide_eq_false (Int.not_lt.2 hneg'.out))
        clear h3' h3 a0 a1 a2 a3 b0 b1 b2 b3 KC2 q0 Hh Sh
        go_wp2_with fail
        go_roundw
        case rel => exact ⟨i, c, rfl, rfl, hA.out.1, hA.out.2.1, by have := hA.out; omega, h4h.out, .inr hst2.out, H3.out, S3.out⟩
        case measure => have := hA.out; simp [intOf]; omega
    · have hlt1 : ¬ (i : Int) < (j : Int) := by omega
      obtain rfl : i = j := by omega
      have hA := hid (show m ≤ i ∧ i ≤ z from ⟨h1, h3⟩)
      have h4h := hid h4
      have h5h := hid h5
      obtain ⟨WY, rfl⟩ : ∃ WY, WY = wr := ⟨_, rfl⟩
      have hbo := hb.out
      obtain ⟨e, he⟩ : ∃ e, e = i - 1 := ⟨_, rfl⟩
      have hwe : IntKind.i64.wrap ((i : Int) - 1) = (e : Int) := by rw [IntKind.wrap_i64]; omega
      have heh := hid he
      clear h1 h2 h3 h4 h5 H S hbo he hlt
      go_wp2_with fail
      go_loopw [13] (fun v wx => ∃ (k : Nat) (h : Nat → Nat), v = .int .i64 (k : Int) ∧ a ≤ k ∧ k ≤ e ∧ Rot g h a (a + 1) (k + 1) ∧ StR wx base b n cap F h ∧ Sole (fun k => k = b) w wx) (fun v _ => e - (intOf v).toNat)
      case atStart => exact ⟨a, g, rfl, Nat.le_refl _, by have := hA.out; have := hb.out; have := heh.out; omega, Rot.none g (Nat.le_succ _) (Nat.le_refl _) (.inr rfl), Hh.out, Sh.out⟩
      case round =>
        obtain ⟨k, h, rfl, hak, hke, R, H, S⟩ := hrel
        clear Hh Sh
        by_cases hlt : k < e
        · have hlt1 : (k : Int) < (e : Int) := by omega
          have hbo := hb.out
          have hao := hA.out
          have heo := heh.out
          have hwp : IntKind.i64.wrap ((k : Int) + 1) = (k : Int) + 1 := by rw [IntKind.wrap_i64]; omega
          have hk0 : (0 : Int) ≤ (k : Int) := by omega
          have hkn : (k : Int) < (n : Int) := by omega
          have hp0 : (0 : Int) ≤ (k : Int) + 1 := by omega
          have hpn : (k : Int) + 1 < (n : Int) := by omega
          have htn : ((k : Int) + 1).toNat = k + 1 := by omega
          have hn63 : (n : Int) ≤ 9223372036854775807 := by omega
          have a1n : k * 4 ≠ (k + 1) * 4 := by omega
          obtain ⟨c1, c2, cells⟩ := H.row
          obtain ⟨z0, z1, z2, z3⟩ := cells k (by omega)
          obtain ⟨y0, y1, y2, y3⟩ := cells (k + 1) (by omega)
          have fz := H.frz (by omega)
          have hO := hid (H.swap k (k + 1) (by omega) (by omega)).drew
          have hS := hid (S.trans (sole_swap wr b k (k + 1) (F (h (k + 1))) (F (h k)))).drew
          have hR := hid (R.up hak)
          have hkk := hid (show a ≤ k + 1 ∧ k + 1 ≤ e ∧ k < e from ⟨by omega, hlt, hlt⟩)
          clear c1 c2 cells H S R hbo hao heo hak hke hlt
          generalize F (h k) = X at *
          generalize F (h (k + 1)) = Y at *
          go_wp2_with fail
          go_region
          go_wp2_with fail
          go_roundw
          case rel => exact ⟨k + 1, swp2 h k (k + 1), by go_num, hkk.out.1, hkk.out.2.1, hR.out, hO.out, hS.out⟩
          case measure => have := hkk.out; simp [intOf]; omega
        · have hlt1 : ¬ (k : Int) < (e : Int) := by omega
          obtain rfl : k = e := by omega
          have Hh := hid H
          have Sh := hid S
          have hfin := hid (show Srt (ltC cf) F h a z ∧ Mv g h a z by
            have hbo := hb.out
            have hao := hA.out
            have heo := heh.out
            rw [show k + 1 = i by omega] at R
            rw [← hbo.1] at R
            exact one_up KW.out hbo.1 (Nat.le_of_lt hbo.2.1) hs2h.out hfh.out hao.1 hao.2 h4h.out h5h.out R)
          clear H S R
          go_wp2
          refine bodyPost_ret (results_none rfl _ _ _) rfl ⟨rfl, h, hfin.out.1, hfin.out.2, Hh.out, Sh.out⟩
end Go.Proofs.Ytfijkbgbhaoilaa
