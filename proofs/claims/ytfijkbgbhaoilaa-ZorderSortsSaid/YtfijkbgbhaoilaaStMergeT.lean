/-
  The library's stable sort, at points: a merge in place, behind its search. (Written by wip/tools/genstmerge.py.)
-/
import Derived.Test.YtfijkbgbhaoilaaStMergeB
import Derived.Test.YtfijkbgbhaoilaaStRot
import Derived.Deep.DeepCutAuto
import Derived.Outline
namespace Go.Proofs.Ytfijkbgbhaoilaa
open Go.RowKit
set_option linter.unusedVariables false
set_option linter.unusedSimpArgs false

/-- The code from a region on. -/
def codeOn (n : Nat) : Code → Option Code
  | .seq (.region m o d) b => if m = n then some (.seq (.region m o d) b) else codeOn n b
  | .seq _ b => codeOn n b
  | _ => none
noncomputable def mergeC : Code := ((Try.f37.body.bind (codeOn 38)).getD .skip)

set_option maxRecDepth 100000 in
set_option maxHeartbeats 16000000 in
theorem merge_tail (base b n cap a m z f i e mid s2 : Nat) (cb : Array Value) (I : World → Prop) (cf : Pt → Pt → Int) (KI0 : ∀ w w', I w → Sole (fun j => j = b) w w' → I w') (KW0 : Weak (ltC cf)) (F : Nat → Pt) (g : Nat → Nat) (hb0 : a + 1 < m ∧ m + 1 < z ∧ z ≤ n ∧ n ≤ 144115188075855872)
    (KM : ∀ (a' m' z' : Nat) (g' : Nat → Nat) (w' : World), a' < m' → m' < z' → z' ≤ n → z' - a' < z - a → Srt (ltC cf) F g' a' m' → Srt (ltC cf) F g' m' z' → Fst g' a' m' z' → I w' → StR w' base b n cap F g' →
      Calls Try.prog 37 #[.slice (some ⟨b, 0, none⟩) n cap, .int .i64 (a' : Int), .int .i64 (m' : Int), .int .i64 (z' : Int), .func (.func f) #[] cb] w' (Mrg cf F g' base b n cap a' z' w'))
    (KR0 : ∀ (s e : Nat) (g' : Nat → Nat), s < m → m < e → e ≤ n → ∀ w', StR w' base b n cap F g' → Calls Try.prog 38 #[.slice (some ⟨b, 0, none⟩) n cap, .int .i64 (s : Int), .int .i64 (m : Int), .int .i64 (e : Int), .func (.func f) #[] cb] w' fun x w'' => x = .returned (.tuple #[]) ∧ ∃ h, Rot g' h s m e ∧ StR w'' base b n cap F h ∧ Sole (fun k => k = b) w' w'')
    (hs1 : Srt (ltC cf) F g a m) (hs2 : Srt (ltC cf) F g m z) (hf : Fst g a m z) (hmd0 : mid = (a + z) / 2 ∧ s2 = mid + m) (hcA : CutAt (ltC cf) F g a m z mid i e) (W0 WY : World) (hI0 : I W0) (H : StR WY base b n cap F g) (S : Sole (fun k => k = b) W0 WY)
    {u5 u6 u7 u8 u9 u10 u11 u12 u13 u14 u15 u16 u17 u21 u22 u23 u24 u25 u26 u27 u28 u29 u30 u31 u32 u33 u34 u35 u36 u37 u38 u39 u40 u41 u42 u43 u44 u45 u46 u47 u48 u49 u50 u51 u52 u53 u54 u55 u56 u57 u58 u59 u60 u61 u62 u63 u64 u65 u66 u67 u68 u69 u70 u71 u72 u73 u74 u75 u76 u77 u78 u79 u80 u81 u82 u83 u84 u85 u86 u87 u88 u89 u90 u91 u92 u93 u94 u95 u96 u97 u98 u99 u100 u101 u102 u103 u104 u105 u106 u107 u108 u109 u110 u111 u112 u113 u114 u115 u116 u117 u118 u119 u120 u121 u122 u123 u124 u125 u126 u127 u128 u129 u130 u131 u132 u133 u134 u135 u136 u137 u138 u139 u140 u141 u142 u143 u144 u145 u146 u147 u148 u149 u150 u151 u152 u153 u154 u155 u156 u157 u158 u159 u160 u161 u162 u163 u164 u165 u166 u167 u168 u169 u170 u171 u172 u173 u174 u175 u176 u177 u178 u179 u180 u181 u182 u183 u184 u185 u186 u187 u188 u189 u190 u191 u192 u193 u194 u195 u196 u197 u198 u199 u200 u201 u202 u203 u204 u205 u206 u207 u208 u209 u210 u211 u212 u213 u214 u215 u216 u217 u218 u219 : Value} :
    Code.wp Try.prog mergeC (bodyPost Try.prog Try.f37 (Mrg cf F g base b n cap a z W0)) ⟨#[.slice (some ⟨b, 0, none⟩) n cap, .int .i64 (a : Int), .int .i64 (m : Int), .int .i64 (z : Int), .func (.func f) #[] cb, u5, u6, u7, u8, u9, u10, u11, u12, u13, u14, u15, u16, u17, .int .i64 (mid : Int), .int .i64 (s2 : Int), .int .i64 (i : Int), u21, u22, u23, u24, u25, u26, u27, u28, u29, u30, u31, u32, u33, u34, u35, u36, u37, u38, u39, u40, u41, u42, u43, u44, u45, u46, u47, u48, u49, u50, u51, u52, u53, u54, u55, u56, u57, u58, u59, u60, u61, u62, u63, u64, u65, u66, u67, u68, u69, u70, u71, u72, u73, u74, u75, u76, u77, u78, u79, u80, u81, u82, u83, u84, u85, u86, u87, u88, u89, u90, u91, u92, u93, u94, u95, u96, u97, u98, u99, u100, u101, u102, u103, u104, u105, u106, u107, u108, u109, u110, u111, u112, u113, u114, u115, u116, u117, u118, u119, u120, u121, u122, u123, u124, u125, u126, u127, u128, u129, u130, u131, u132, u133, u134, u135, u136, u137, u138, u139, u140, u141, u142, u143, u144, u145, u146, u147, u148, u149, u150, u151, u152, u153, u154, u155, u156, u157, u158, u159, u160, u161, u162, u163, u164, u165, u166, u167, u168, u169, u170, u171, u172, u173, u174, u175, u176, u177, u178, u179, u180, u181, u182, u183, u184, u185, u186, u187, u188, u189, u190, u191, u192, u193, u194, u195, u196, u197, u198, u199, u200, u201, u202, u203, u204, u205, u206, u207, u208, u209, u210, u211, u212, u213, u214, u215, u216, u217, u218, u219], []⟩ WY := by
  have hwe : IntKind.i64.wrap ((s2 : Int) - (i : Int)) = (e : Int) := by
    have := hcA.sum
    rw [IntKind.wrap_i64]; omega
  have KMh := hid KM
  have KR := hid KR0
  have KI := hid KI0
  have KW := hid KW0
  have hs1h := hid hs1
  have hs2h := hid hs2
  have hfh := hid hf
  have hb := hid hb0
  have hmd := hid hmd0
  have hcAt := hid hcA
  have hB := hid (show a ≤ i ∧ i ≤ m ∧ m ≤ e ∧ e ≤ z ∧ i ≤ mid ∧ mid ≤ e from ⟨hcA.a_le, hcA.s_m, hcA.m_e, hcA.e_b, hcA.s_mid, hcA.mid_e⟩)
  have II := hid hI0
  have Hh := hid H
  have Sh := hid S
  have hI1 := hid (KI.out W0 WY II.out Sh.out)
  clear KM KR0 KI0 KW0 hs1 hs2 hf hb0 hmd0 hcA hI0 H S
  conv => arg 2; whnf
  go_upto_region 39 with (fail)
  go_cut [185] (fun v wx => v = .bool (decide (i < m) && decide (m < e)) ∧ wx = WY)
  case first =>
    by_cases g1 : i < m
    · have g1' : (i : Int) < (m : Int) := by omega
      have g1b := hid (decide_eq_true g1)
      by_cases g2 : m < e
      · have g2' : (m : Int) < (e : Int) := by omega
        have g2b := hid (decide_eq_true g2)
        go_wp2_with fail
        go_meet
        exact ⟨by rw [g1b.out, g2b.out]; rfl, rfl⟩
      · have g2' : ¬ (m : Int) < (e : Int) := by omega
        have g2b := hid (decide_eq_false g2)
        go_wp2_with fail
        go_meet
        exact ⟨by rw [g1b.out, g2b.out]; rfl, rfl⟩
    · have g1' : ¬ (i : Int) < (m : Int) := by omega
      have g1b := hid (decide_eq_false g1)
      go_wp2_with fail
      go_meet
      exact ⟨by rw [g1b.out]; rfl, rfl⟩
  case rest =>
    obtain ⟨rfl, hw⟩ := hcut
    rw [hw]
    clear hw wc
    go_upto_if 185 with (fail)
    go_cut [191] (fun v wx => ∃ h, Rot g h i m e ∧ StR wx base b n cap F h ∧ Sole (fun k => k = b) W0 wx)
    case first =>
      by_cases g1 : i < m ∧ m < e
      · have gb : (decide (i < m) && decide (m < e)) = true := by simp [g1.1, g1.2]
        rw [gb]
        replace g1 := hid g1
        go_wp2_with fail
        refine (KR.out i e g g1.out.1 g1.out.2 (by have := hB.out; have := hb.out; omega) _ Hh.out).mono ?_
        rintro x w1 ⟨rfl, h, R, H1, S1⟩
        have HR := hid (show ∃ h, Rot g h i m e ∧ StR w1 base b n cap F h ∧ Sole (fun k => k = b) W0 w1 from ⟨h, R, H1, Sh.out.trans S1⟩)
        clear R H1 S1
        go_wp2_with fail
        go_meet
        exact HR.out
      · have gb : (decide (i < m) && decide (m < e)) = false := by
          by_cases g2 : i < m
          · have g3 : ¬ m < e := fun h => g1 ⟨g2, h⟩
            simp [g3]
          · simp [g2]
        rw [gb]
        have HR := hid (show ∃ h, Rot g h i m e ∧ StR WY base b n cap F h ∧ Sole (fun k => k = b) W0 WY from ⟨g, Rot.none g hB.out.2.1 hB.out.2.2.1 (by have := hB.out; omega), Hh.out, Sh.out⟩)
        clear g1
        go_wp2_with fail
        go_meet
        exact HR.out
    case rest =>
      obtain ⟨h, R, H, S⟩ := hcut
      clear Hh Sh hI1
      have hbo := hb.out
      have hmo := hmd.out
      have hP := hid (rot_parts KW.out hs1h.out hs2h.out hfh.out hcAt.out R)
      have hRm := hid (show Mv g h a z from (R.mv hB.out.2.1 hB.out.2.2.1).wide hB.out.1 hB.out.2.2.2.1)
      have Hh := hid H
      have Sh := hid S
      have hI1 := hid (KI.out W0 wc II.out S)
      clear R H S hbo hmo
      obtain ⟨W1, rfl⟩ : ∃ W1, W1 = wc := ⟨_, rfl⟩
      go_upto_region 41 with (fail)
      go_cut [199] (fun v wx => v = .bool (decide (a < i) && decide (i < mid)) ∧ wx = W1)
      case first =>
        by_cases g1 : a < i
        · have g1' : (a : Int) < (i : Int) := by omega
          have g1b := hid (decide_eq_true g1)
          by_cases g2 : i < mid
          · have g2' : (i : Int) < (mid : Int) := by omega
            have g2b := hid (decide_eq_true g2)
            go_wp2_with fail
            go_meet
            exact ⟨by rw [g1b.out, g2b.out]; rfl, rfl⟩
          · have g2' : ¬ (i : Int) < (mid : Int) := by omega
            have g2b := hid (decide_eq_false g2)
            go_wp2_with fail
            go_meet
            exact ⟨by rw [g1b.out, g2b.out]; rfl, rfl⟩
        · have g1' : ¬ (a : Int) < (i : Int) := by omega
          have g1b := hid (decide_eq_false g1)
          go_wp2_with fail
          go_meet
          exact ⟨by rw [g1b.out]; rfl, rfl⟩
      case rest =>
        obtain ⟨rfl, hw⟩ := hcut
        rw [hw]
        clear hw wc
        go_upto_if 199 with (fail)
        go_cut [205] (fun v wx => ∃ h2, Srt (ltC cf) F h2 a mid ∧ Mv h h2 a mid ∧ StR wx base b n cap F h2 ∧ Sole (fun k => k = b) W0 wx)
        case first =>
          by_cases g1 : a < i ∧ i < mid
          · have gb : (decide (a < i) && decide (i < mid)) = true := by simp [g1.1, g1.2]
            rw [gb]
            replace g1 := hid g1
            go_wp2_with fail
            refine (KMh.out a i mid h _ g1.out.1 g1.out.2 (by have := hb.out; have := hmd.out; omega) (by have := hb.out; have := hmd.out; omega) hP.out.1.1 hP.out.1.2.1 hP.out.1.2.2 hI1.out Hh.out).mono ?_
            rintro x w1 ⟨rfl, h2, R, M2, H1, S1⟩
            have HR := hid (show ∃ h2, Srt (ltC cf) F h2 a mid ∧ Mv h h2 a mid ∧ StR w1 base b n cap F h2 ∧ Sole (fun k => k = b) W0 w1 from ⟨h2, R, M2, H1, Sh.out.trans S1⟩)
            clear R M2 H1 S1
            go_wp2_with fail
            go_meet
            exact HR.out
          · have gb : (decide (a < i) && decide (i < mid)) = false := by
              by_cases g2 : a < i
              · have g3 : ¬ i < mid := fun h => g1 ⟨g2, h⟩
                simp [g3]
              · simp [g2]
            rw [gb]
            have HR := hid (show ∃ h2, Srt (ltC cf) F h2 a mid ∧ Mv h h2 a mid ∧ StR W1 base b n cap F h2 ∧ Sole (fun k => k = b) W0 W1 from ⟨h, by
              have hBo := hB.out
              by_cases g2 : a = i
              · rw [g2]; exact hP.out.1.2.1
              · have e : mid = i := by omega
                rw [e]; exact hP.out.1.1, Mv.refl _ _ _, Hh.out, Sh.out⟩)
            clear g1
            go_wp2_with fail
            go_meet
            exact HR.out
        case rest =>
          obtain ⟨h2, hS2, hM2, H, S⟩ := hcut
          clear Hh Sh hI1
          have Hh := hid H
          have Sh := hid S
          have hI1 := hid (KI.out W0 wc II.out S)
          have hQ := hid (show Srt (ltC cf) F h2 mid e ∧ Srt (ltC cf) F h2 e z ∧ Fst h2 mid e z from ⟨hP.out.2.1.1.mv hM2 (.inr (Nat.le_refl _)), hP.out.2.1.2.1.mv hM2 (.inr hB.out.2.2.2.2.2), hP.out.2.1.2.2.mv hM2 (.inl (Nat.le_refl _))⟩)
          have hfin := hid (fun h3 (s3 : Srt (ltC cf) F h3 mid z) (m3 : Mv h2 h3 mid z) => merge_done (g := h) (show a ≤ mid by have := hb.out; have := hmd.out; omega) (show mid ≤ z by have := hb.out; have := hmd.out; omega) hP.out.2.2 hM2 hS2 m3 s3)
          have hR := hRm
          clear hS2 hM2 H S
          by_cases g1 : mid < e
          · have g1' : (mid : Int) < (e : Int) := by omega
            by_cases g2 : e < z
            · have g2' : (e : Int) < (z : Int) := by omega
              have g12 := hid (show mid < e ∧ e < z from ⟨g1, g2⟩)
              clear g1 g2
              go_wp2_with fail
              refine (KMh.out mid e z h2 _ g12.out.1 g12.out.2 (by have := hb.out; omega) (by have := hb.out; have := hmd.out; omega) hQ.out.1 hQ.out.2.1 hQ.out.2.2 hI1.out Hh.out).mono ?_
              rintro x w1 ⟨rfl, h3, R, M2, H1, S1⟩
              have HR := hid (show Srt (ltC cf) F h3 a z ∧ Mv g h3 a z from ⟨(hfin.out h3 R M2).1, hR.out.trans (hfin.out h3 R M2).2⟩)
              have H1h := hid H1
              have S1h := hid (Sh.out.trans S1)
              clear R M2 H1 S1
              go_wp2
              go_end0
              exact ⟨rfl, h3, HR.out.1, HR.out.2, H1h.out, S1h.out⟩
            · have g2' : ¬ (e : Int) < (z : Int) := by omega
              have hQ2 := hid (show Srt (ltC cf) F h2 mid z by
                have e2 : z = e := by have := hB.out; omega
                rw [e2]; exact hQ.out.1)
              have HR := hid (show Srt (ltC cf) F h2 a z ∧ Mv g h2 a z from ⟨(hfin.out h2 hQ2.out (Mv.refl _ _ _)).1, hR.out.trans (hfin.out h2 hQ2.out (Mv.refl _ _ _)).2⟩)
              go_wp2
              go_end0
              exact ⟨rfl, h2, HR.out.1, HR.out.2, Hh.out, Sh.out⟩
          · have g1' : ¬ (mid : Int) < (e : Int) := by omega
            have hQ2 := hid (show Srt (ltC cf) F h2 mid z by
              have e2 : mid = e := by have := hB.out; omega
              rw [e2]; exact hQ.out.2.1)
            have HR := hid (show Srt (ltC cf) F h2 a z ∧ Mv g h2 a z from ⟨(hfin.out h2 hQ2.out (Mv.refl _ _ _)).1, hR.out.trans (hfin.out h2 hQ2.out (Mv.refl _ _ _)).2⟩)
            go_wp2
            go_end0
            exact ⟨rfl, h2, HR.out.1, HR.out.2, Hh.out, Sh.out⟩
end Go.Proofs.Ytfijkbgbhaoilaa
