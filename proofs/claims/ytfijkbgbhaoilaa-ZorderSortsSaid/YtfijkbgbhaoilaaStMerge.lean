/-
  The library's stable sort, at points: a merge in place.
-/
import Derived.Test.YtfijkbgbhaoilaaStMergeT
import Derived.Deep.DeepCutAuto
import Derived.Outline
namespace Go.Proofs.Ytfijkbgbhaoilaa
open Go.RowKit
set_option linter.unusedVariables false
set_option linter.unusedSimpArgs false

set_option maxRecDepth 100000 in
set_option maxHeartbeats 16000000 in
theorem merge_gen (base b n cap a m z f : Nat) (cb : Array Value) (I : World → Prop) (cf : Pt → Pt → Int) (Q : Pt → Prop) (KF : CmpF f cb I b cf Q) (F : Nat → Pt) (hQ0 : ∀ i, Q (F i)) (g : Nat → Nat) (ham : a + 1 < m) (hmz : m + 1 < z) (hz : z ≤ n) (hsm : n ≤ 144115188075855872)
    (KM : ∀ (a' m' z' : Nat) (g' : Nat → Nat) (w' : World), a' < m' → m' < z' → z' ≤ n → z' - a' < z - a → Srt (ltC cf) F g' a' m' → Srt (ltC cf) F g' m' z' → Fst g' a' m' z' → I w' → StR w' base b n cap F g' →
      Calls Try.prog 37 #[.slice (some ⟨b, 0, none⟩) n cap, .int .i64 (a' : Int), .int .i64 (m' : Int), .int .i64 (z' : Int), .func (.func f) #[] cb] w' (Mrg cf F g' base b n cap a' z' w'))
    (hs1 : Srt (ltC cf) F g a m) (hs2 : Srt (ltC cf) F g m z) (hf : Fst g a m z) (w : World) (hI : I w) (H : StR w base b n cap F g) :
    Calls Try.prog 37 #[.slice (some ⟨b, 0, none⟩) n cap, .int .i64 (a : Int), .int .i64 (m : Int), .int .i64 (z : Int), .func (.func f) #[] cb] w (Mrg cf F g base b n cap a z w) := by
  have KMh := hid KM
  have KR := hid (fun (s e : Nat) g' h1 h2 h3 w' H => rotate_any base b n cap s m e F g' h1 h2 h3 hsm (.func (.func f) #[] cb) w' H)
  have eg := KF.enters
  have KC := hid KF.calls
  have hQ := hid hQ0
  have KI := hid KF.keeps
  have KW := hid KF.weak
  have HH := hid H
  have II := hid hI
  have hs1h := hid hs1
  have hs2h := hid hs2
  have hfh := hid hf
  have hb := hid (show a + 1 < m ∧ m + 1 < z ∧ z ≤ n ∧ n ≤ 144115188075855872 from ⟨ham, hmz, hz, hsm⟩)
  obtain ⟨d, hd⟩ : ∃ d, d = m - a := ⟨_, rfl⟩
  have hw0 : IntKind.i64.wrap ((m : Int) - (a : Int)) = (d : Int) := by rw [IntKind.wrap_i64]; omega
  have hd1 : ((d : Int) == 1) = false := by rw [beq_eq_false_iff_ne]; omega
  have hd2 : d ≠ 1 := by omega
  obtain ⟨d', hd'⟩ : ∃ d', d' = z - m := ⟨_, rfl⟩
  have hw1 : IntKind.i64.wrap ((z : Int) - (m : Int)) = (d' : Int) := by rw [IntKind.wrap_i64]; omega
  have hd1' : ((d' : Int) == 1) = false := by rw [beq_eq_false_iff_ne]; omega
  have hd2' : d' ≠ 1 := by omega
  obtain ⟨mid, hmid⟩ : ∃ mid, mid = (a + z) / 2 := ⟨_, rfl⟩
  have hw2 : ((a : Int) + (z : Int)) / 2 = (mid : Int) := by omega
  have hsum : (a : Int) + (z : Int) ≤ 288230376151711744 := by omega
  obtain ⟨s2, hs2e⟩ : ∃ s2, s2 = mid + m := ⟨_, rfl⟩
  have hw3 : IntKind.i64.wrap ((mid : Int) + (m : Int)) = (s2 : Int) := by rw [IntKind.wrap_i64]; omega
  obtain ⟨p, hp⟩ : ∃ p, p = mid + m - 1 := ⟨_, rfl⟩
  have hw4 : IntKind.i64.wrap ((s2 : Int) - 1) = (p : Int) := by rw [IntKind.wrap_i64]; omega
  have hmd := hid (show mid = (a + z) / 2 ∧ s2 = mid + m ∧ p = mid + m - 1 from ⟨hmid, hs2e, hp⟩)
  have hlh : ∃ lo hi, (mid < m ∧ lo = mid + m - z ∧ hi = mid ∨ m ≤ mid ∧ lo = a ∧ hi = m) := by
    by_cases h : mid < m
    · exact ⟨_, _, .inl ⟨h, rfl, rfl⟩⟩
    · exact ⟨_, _, .inr ⟨by omega, rfl, rfl⟩⟩
  obtain ⟨lo, hi, hlh⟩ := hlh
  have hlhh := hid hlh
  have hw5 : mid < m → IntKind.i64.wrap ((s2 : Int) - (z : Int)) = (lo : Int) := fun h => by
    have : lo = mid + m - z := by omega
    rw [IntKind.wrap_i64]; omega
  replace hw5 := hid hw5
  clear H hI hs1 hs2 hf KF hQ0 KM ham hmz hz hsm hd hd' hmid hs2e hp hlh
  go_enter Try.func37, Try.ntmps37
  go_upto_if 140 with (fail)
  go_cut [20, 21] (fun s t wx => s = .int .i64 (lo : Int) ∧ t = .int .i64 (hi : Int) ∧ wx = w)
  case first =>
    by_cases hmm : mid < m
    · have hmm1 : (mid : Int) < (m : Int) := by omega
      have hwl := hw5.out hmm
      have hh : hi = mid := by have := hlhh.out; omega
      subst hh
      replace hmm := hid hmm
      go_wp2_with fail
      go_meet
      exact ⟨rfl, rfl, rfl⟩
    · have hmm1 : ¬ (mid : Int) < (m : Int) := by omega
      have hh : hi = m ∧ lo = a := by have := hlhh.out; omega
      obtain ⟨hh1, hh2⟩ := hh
      subst hh1
      subst hh2
      replace hmm := hid hmm
      go_wp2_with fail
      go_meet
      exact ⟨rfl, rfl, rfl⟩
  case rest =>
    obtain ⟨rfl, rfl, hwc0⟩ := hcut
    subst hwc0
    obtain ⟨W0, rfl⟩ : ∃ W0, W0 = wc := ⟨_, rfl⟩
    go_wp2_with fail
    rename_i K aK
    replace aK := hid aK
    go_loopw [20, 21] (fun u v wr => ∃ (i j : Nat), u = .int .i64 (i : Int) ∧ v = .int .i64 (j : Int) ∧ lo ≤ i ∧ i ≤ j ∧ j ≤ hi ∧ (i = lo ∨ ltC cf (F (g (p - (i - 1)))) (F (g (i - 1))) = false) ∧ (j = hi ∨ ltC cf (F (g (p - j))) (F (g j)) = true) ∧ StR wr base b n cap F g ∧ Sole (fun k => k = b) W0 wr) (fun u v _ => (intOf v).toNat - (intOf u).toNat)
    case atStart => exact ⟨lo, hi, rfl, rfl, Nat.le_refl _, by have := hlhh.out; have := hb.out; have := hmd.out; omega, Nat.le_refl _, .inl rfl, .inl rfl, HH.out, Sole.refl _ _⟩
    case round =>
      obtain ⟨i, j, rfl, rfl, h1, h2, h3, h4, h5, H, S⟩ := hrel
      clear HH
      have Hh := hid H
      have Sh := hid S
      by_cases hlt : i < j
      · have hlt1 : (i : Int) < (j : Int) := by omega
        have hbo := hb.out
        have hmo := hmd.out
        have hlo := hlhh.out
        obtain ⟨c, hc⟩ : ∃ c, c = (i + j) / 2 := ⟨_, rfl⟩
        have hwc : ((i : Int) + (j : Int)) / 2 = (c : Int) := by omega
        have hij : (i : Int) + (j : Int) ≤ 288230376151711744 := by omega
        obtain ⟨q, hq⟩ : ∃ q, q = p - c := ⟨_, rfl⟩
        have hwq : IntKind.i64.wrap ((p : Int) - (c : Int)) = (q : Int) := by rw [IntKind.wrap_i64]; omega
        have hc0 : (0 : Int) ≤ (c : Int) := by omega
        have hcn : (c : Int) < (n : Int) := by omega
        have hc57 : (c : Int) ≤ 144115188075855872 := by omega
        have hqn : (q : Int) < (n : Int) := by omega
        have hq0 : (0 : Int) ≤ (q : Int) := by omega
        have hn63 : (n : Int) ≤ 9223372036854775807 := by omega
        obtain ⟨c1, c2, cells⟩ := H.row
        obtain ⟨z0, z1, z2, z3⟩ := cells q (by omega)
        obtain ⟨y0, y1, y2, y3⟩ := cells c (by omega)
        have cc : ∀ (c oo : Nat) (v : Value), wr.cell? ⟨c, oo, none⟩ = some v → ∀ u : Later wr, u.val.cell? ⟨c, oo, none⟩ = some v := fun c oo v hv u => (u.cell c oo (cell_lt hv)).trans hv
        have a0 := cc _ _ _ z0
        have a1 := cc _ _ _ z1
        have a2 := cc _ _ _ z2
        have a3 := cc _ _ _ z3
        have b0 := cc _ _ _ y0
        have b1 := cc _ _ _ y1
        have b2 := cc _ _ _ y2
        have b3 := cc _ _ _ y3
        have hI1 := KI.out W0 wr II.out S
        have q0 := hid (fun u : Later wr => KI.out wr u.val hI1 (Sole.made u.h))
        have hA := hid (show lo ≤ i ∧ i ≤ c ∧ c < j ∧ j ≤ hi ∧ i < j from ⟨h1, by omega, by omega, h3, hlt⟩)
        have h4h := hid h4
        have h5h := hid h5
        have hqh := hid hq
        clear cc cells z0 z1 z2 z3 y0 y1 y2 y3 c1 c2 hbo hmo hlo hc hq h1 h2 h3 h4 h5 H S hI1
        obtain ⟨X, hX⟩ : ∃ X, X = F (g q) := ⟨_, rfl⟩
        obtain ⟨Y, hY⟩ : ∃ Y, Y = F (g c) := ⟨_, rfl⟩
        rw [← hX] at a0 a1 a2 a3
        rw [← hY] at b0 b1 b2 b3
        have hXY := hid (show X = F (g q) ∧ Y = F (g c) from ⟨hX, hY⟩)
        clear hX hY
        have KC2 := hid (fun u : Later wr => KC.out X Y (by rw [hXY.out.1]; exact hQ.out _) (by rw [hXY.out.2]; exact hQ.out _) u.val (q0.out u))
        generalize hcc : cf X Y = r at *
        replace hcc := hid hcc
        by_cases hneg : r < 0
        · replace hlt := hid hlt
          go_wp2_with fail
          refine wp_region_late 13 (by kernel_rfl) (by kernel_rfl) ?_
          simp only [List.take_succ_cons, List.take_zero, List.drop_succ_cons, List.drop_zero]
          iterate 13 (go_big_quiet_step ((with_reducible exact late_call (KC2.out _))))
          refine wpQuiet_nil ?_
          intro w3 h3'
          have h3 := late_out h3'
          have H3 := hid (Hh.out.made h3)
          have S3 := hid (Sh.out.trans (Sole.made h3))
          have hst2 := hid (show ltC cf (F (g (p - c))) (F (g c)) = true by rw [← hqh.out, ← hXY.out.1, ← hXY.out.2]; show decide (cf X Y < 0) = true; rw [hcc.out]; exact decide_eq_true hneg)
          clear h3' h3 a0 a1 a2 a3 b0 b1 b2 b3 KC2 q0 Hh Sh
          go_wp2_with fail
          go_roundw
          case rel => exact ⟨i, c, rfl, rfl, hA.out.1, hA.out.2.1, by have := hA.out; omega, h4h.out, .inr hst2.out, H3.out, S3.out⟩
          case measure => have := hA.out; simp [intOf]; omega
        · have hcf : (decide (r < 0)) = false := decide_eq_false hneg
          have hneg' := hid hneg
          clear hneg
          replace hlt := hid hlt
          go_wp2_with fail
          refine wp_region_late 13 (by kernel_rfl) (by kernel_rfl) ?_
          simp only [List.take_succ_cons, List.take_zero, List.drop_succ_cons, List.drop_zero]
          iterate 13 (go_big_quiet_step ((with_reducible exact late_call (KC2.out _))))
          refine wpQuiet_nil ?_
          intro w3 h3'
          have h3 := late_out h3'
          have H3 := hid (Hh.out.made h3)
          have S3 := hid (Sh.out.trans (Sole.made h3))
          have hst2 := hid (show ltC cf (F (g (p - c))) (F (g c)) = false by rw [← hqh.out, ← hXY.out.1, ← hXY.out.2]; show decide (cf X Y < 0) = false; rw [hcc.out]; exact decide_eq_false (Int.not_lt.2 hneg'.out))
          clear h3' h3 a0 a1 a2 a3 b0 b1 b2 b3 KC2 q0 Hh Sh
          go_wp2_with fail
          go_roundw
          case rel => exact ⟨c + 1, j, by go_num, rfl, by have := hA.out; omega, by have := hA.out; omega, hA.out.2.2.2.1, .inr (by rw [Nat.add_sub_cancel]; exact hst2.out), h5h.out, H3.out, S3.out⟩
          case measure => have := hA.out; simp [intOf]; omega
      · have hlt1 : ¬ (i : Int) < (j : Int) := by omega
        obtain rfl : i = j := by omega
        have hbo := hb.out
        have hmo := hmd.out
        have hlo := hlhh.out
        have hcAt := hid (cut_at (F := F) (lt := ltC cf) KW.out (show a < m by omega) (show m < z by omega) hmo.1 hs1h.out hs2h.out hfh.out hlo h1 h3 (by rw [← hmo.2.2]; exact h4) (by rw [← hmo.2.2]; exact h5))
        obtain ⟨e, he⟩ : ∃ e, e = mid + m - i := ⟨_, rfl⟩
        rw [← he] at hcAt
        have hwe : IntKind.i64.wrap ((s2 : Int) - (i : Int)) = (e : Int) := by rw [IntKind.wrap_i64]; omega
        have hco := hcAt.out
        clear hco hbo hmo hlo he h1 h2 h3 h4 h5 hlt hw0 hw1 hw2 hw3 hw4
        go_wp2_with fail
        refine aK.out _ _ ?_
        exact merge_tail base b n cap a m z f i e mid s2 cb I cf KI.out KW.out F g hb.out KMh.out KR.out hs1h.out hs2h.out hfh.out ⟨hmd.out.1, hmd.out.2.1⟩ hcAt.out W0 wr II.out Hh.out Sh.out
end Go.Proofs.Ytfijkbgbhaoilaa
