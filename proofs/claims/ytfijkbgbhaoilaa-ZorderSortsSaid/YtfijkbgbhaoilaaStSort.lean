/-
  slices.SortStableFunc of points, at whatever length.
-/
import Derived.Test.YtfijkbgbhaoilaaStMerge
import Derived.Test.YtfijkbgbhaoilaaStIns
namespace Go.Proofs.Ytfijkbgbhaoilaa
open Go.RowKit
set_option linter.unusedVariables false
set_option linter.unusedSimpArgs false

theorem merge_any (base b n cap f : Nat) (cb : Array Value) (I : World → Prop) (cf : Pt → Pt → Int) (Q : Pt → Prop) (KF : CmpF f cb I b cf Q) (F : Nat → Pt) (hQ0 : ∀ i, Q (F i)) (hsm : n ≤ 144115188075855872) : ∀ (N a m z : Nat) (g : Nat → Nat) (w : World), z - a ≤ N → a < m → m < z → z ≤ n →
    Srt (ltC cf) F g a m → Srt (ltC cf) F g m z → Fst g a m z → I w → StR w base b n cap F g →
    Calls Try.prog 37 #[.slice (some ⟨b, 0, none⟩) n cap, .int .i64 (a : Int), .int .i64 (m : Int), .int .i64 (z : Int), .func (.func f) #[] cb] w (Mrg cf F g base b n cap a z w)
  | 0, a, m, z, g, w, hN, h1, h2, h3, s1, s2, hf, hI, H => by omega
  | N + 1, a, m, z, g, w, hN, h1, h2, h3, s1, s2, hf, hI, H => by
    by_cases e1 : m = a + 1
    · exact merge_up base b n cap a m z f cb I cf Q KF F hQ0 g e1 h2 h3 hsm s2 hf w hI H
    · by_cases e2 : z = m + 1
      · exact merge_down base b n cap a m z f cb I cf Q KF F hQ0 g h1 e1 e2 h3 hsm s1 hf w hI H
      · exact merge_gen base b n cap a m z f cb I cf Q KF F hQ0 g (by omega) (by omega) h3 hsm (fun a' m' z' g' w' k1 k2 k3 k4 => merge_any base b n cap f cb I cf Q KF F hQ0 hsm N a' m' z' g' w' (by omega) k1 k2 k3) s1 s2 hf w hI H

set_option maxRecDepth 100000 in
set_option maxHeartbeats 8000000 in
theorem stable_any (base b n cap f : Nat) (cb : Array Value) (I : World → Prop) (cf : Pt → Pt → Int) (Q : Pt → Prop) (KF : CmpF f cb I b cf Q) (F : Nat → Pt) (hQ0 : ∀ i, Q (F i)) (hsm : n ≤ 144115188075855872) (w : World) (hI : I w) (H : StR w base b n cap F (fun i => i)) :
    Calls Try.prog 30 #[.slice (some ⟨b, 0, none⟩) n cap, .int .i64 (n : Int), .func (.func f) #[] cb] w fun x w' => x = .returned (.tuple #[]) ∧ ∃ h, Srt (ltC cf) F h 0 n ∧ (∀ i, i < n → h i < n) ∧ StR w' base b n cap F h ∧ Sole (fun k => k = b) w w' := by
  have KI := hid KF.keeps
  have KN := hid (fun a z g h1 h2 hg w hI H => insert_any base b n cap a z f cb I cf Q KF F hQ0 g h1 h2 hsm hg w hI H)
  have KM := hid (fun a m z g w => merge_any base b n cap f cb I cf Q KF F hQ0 hsm (z - a) a m z g w (Nat.le_refl _))
  have HH := hid H
  have II := hid hI
  have hb := hid hsm
  have hn57 : (n : Int) ≤ 144115188075855872 := by omega
  clear H hI KF hsm
  go_enter Try.func30, Try.ntmps30
  go_wp2_with fail
  go_loopw [7, 8] (fun u v wr => ∃ (k a : Nat) (g : Nat → Nat), u = .int .i64 (a : Int) ∧ v = .int .i64 ((a : Int) + 20) ∧ a = k * 20 ∧ a ≤ n ∧ Bks (ltC cf) F g 20 n 0 a ∧ (∀ x, a ≤ x → g x = x) ∧ StR wr base b n cap F g ∧ Sole (fun k => k = b) w wr) (fun u _ _ => n - (intOf u).toNat)
  case atStart => exact ⟨0, 0, fun i => i, rfl, by go_num, rfl, Nat.zero_le _, bks_none _ _ _ _, fun _ _ => rfl, HH.out, Sole.refl _ _⟩
  case round =>
    obtain ⟨k, a, g, rfl, rfl, hka, han, hB, hid', H, S⟩ := hrel
    clear HH
    have Hh := hid H
    have Sh := hid S
    have Bh := hid hB
    have Gh := hid hid'
    have hk := hid hka
    have hI1 := hid (KI.out w wr II.out S)
    by_cases hlt : a + 20 ≤ n
    · have hlt1 : (a : Int) + 20 ≤ (n : Int) := by omega
      have ha57 : (a : Int) ≤ 144115188075855872 := by omega
      have hl := hid hlt
      clear H S hB hid' hka han hlt
      go_wp2_with fail
      refine (KN.out a (a + 20) g (Nat.le_add_right _ _) hl.out (fun x y x1 x2 x3 => by rw [Gh.out x x1, Gh.out y (by omega)]; exact x2) _ hI1.out Hh.out).mono ?_
      rintro x w1 ⟨rfl, h, s1, m1, H1, S1⟩
      have H1h := hid H1
      have S1h := hid (Sh.out.trans S1)
      have B1 := hid (show Bks (ltC cf) F h 20 n 0 (a + 20) by
        have m := m1
        have s := s1
        have hl' := hl.out
        have hk' := hk.out
        have B := Bh.out
        subst hk'
        have e : min (k * 20 + 20) n = k * 20 + 20 := by omega
        exact bks_grow (by omega) B (by rw [e]; exact m) (by rw [e]; exact s) fun i i1 i2 => by rw [Gh.out i i1]; omega)
      have G1 := hid (show ∀ x, a + 20 ≤ x → h x = x from fun x hx => (m1.out x (.inr hx)).trans (Gh.out x (by omega)))
      clear H1 S1 s1 m1 Hh Sh Bh Gh
      go_wp2_with fail
      go_roundw
      case rel => exact ⟨k + 1, a + 20, h, by go_num, by go_num, by have := hk.out; omega, hl.out, B1.out, G1.out, H1h.out, S1h.out⟩
      case measure => have := hl.out; simp [intOf]; omega
    · have hlt1 : ¬ (a : Int) + 20 ≤ (n : Int) := by omega
      have hl := hid (show a ≤ n ∧ n < a + 20 from ⟨han, by omega⟩)
      obtain ⟨WY, rfl⟩ : ∃ WY, WY = wr := ⟨_, rfl⟩
      clear H S hB hid' hka han hlt
      go_wp2_with fail
      refine (KN.out a n g hl.out.1 (Nat.le_refl _) (fun x y x1 x2 x3 => by rw [Gh.out x x1, Gh.out y (by omega)]; exact x2) _ hI1.out Hh.out).mono ?_
      rintro x w1 ⟨rfl, h, s1, m1, H1, S1⟩
      have H1h := hid H1
      have S1h := hid (Sh.out.trans S1)
      have B1 := hid (show Bks (ltC cf) F h 20 n 0 n by
        have m := m1
        have s := s1
        have hl' := hl.out
        have hk' := hk.out
        have B := Bh.out
        subst hk'
        have e : min (k * 20 + 20) n = n := by omega
        exact (bks_grow (by omega) B (by rw [e]; exact m) (by rw [e]; exact s) fun i i1 i2 => by rw [Gh.out i i1]; omega).le (Nat.le_refl _) (by omega))
      clear H1 S1 s1 m1 Hh Sh Bh Gh hI1 hlt1
      go_wp2_with fail
      go_loopw [6] (fun u wr => ∃ (s : Nat) (g : Nat → Nat), u = .int .i64 (s : Int) ∧ 0 < s ∧ s ≤ 288230376151711744 ∧ Bks (ltC cf) F g s n 0 n ∧ StR wr base b n cap F g ∧ Sole (fun k => k = b) w wr) (fun u _ => n - (intOf u).toNat)
      case atStart => exact ⟨20, h, by go_num, by omega, by omega, B1.out, H1h.out, S1h.out⟩
      case round =>
        obtain ⟨s, g2, rfl, hs0, hs58, hB, H, S⟩ := hrel
        clear H1h S1h B1
        have Hh := hid H
        have Sh := hid S
        have Bh := hid hB
        by_cases hsn : s < n
        · have hsn1 : (s : Int) < (n : Int) := by omega
          obtain ⟨t, ht⟩ : ∃ t, t = 2 * s := ⟨_, rfl⟩
          have hwt : IntKind.i64.wrap (2 * (s : Int)) = (t : Int) := by have := hb.out; rw [IntKind.wrap_i64]; omega
          have hwt2 : IntKind.i64.wrap ((s : Int) * 2) = (t : Int) := by have := hb.out; rw [IntKind.wrap_i64]; omega
          have hs57 : (s : Int) ≤ 144115188075855872 := by have := hb.out; omega
          have ht58 : (t : Int) ≤ 288230376151711744 := by have := hb.out; omega
          have hst := hid (show t = 2 * s ∧ 0 < s ∧ s < n ∧ t ≤ 288230376151711744 from ⟨ht, hs0, hsn, by omega⟩)
          obtain ⟨WZ, rfl⟩ : ∃ WZ, WZ = wr := ⟨_, rfl⟩
          clear H S hB hs0 hs58 ht hsn
          go_wp2_with fail
          go_loopw [7, 8] (fun u v wr => ∃ (k a : Nat) (g : Nat → Nat), u = .int .i64 (a : Int) ∧ v = .int .i64 ((a : Int) + (t : Int)) ∧ Hid (a = k * (2 * s)) ∧ a ≤ n ∧ Bks (ltC cf) F g (2 * s) n 0 a ∧ Bks (ltC cf) F g s n a n ∧ StR wr base b n cap F g ∧ Sole (fun k => k = b) w wr) (fun u _ _ => n - (intOf u).toNat)
          case atStart => exact ⟨0, 0, g2, rfl, by go_num, hid (by omega), Nat.zero_le _, bks_none _ _ _ _, Bh.out, Hh.out, Sh.out⟩
          case round =>
            obtain ⟨k2, c, g3, rfl, rfl, hkc, hcn, hB2, hB3, H, S⟩ := hrel
            clear Hh Sh Bh
            have Hh := hid H
            have Sh := hid S
            have B2h := hid hB2
            have B3h := hid hB3
            have hI1 := hid (KI.out w wr II.out S)
            have hc57 : (c : Int) ≤ 144115188075855872 := by have := hb.out; omega
            obtain ⟨d, hd⟩ : ∃ d, d = c + s := ⟨_, rfl⟩
            have hwd : IntKind.i64.wrap ((c : Int) + (s : Int)) = (d : Int) := by have := hst.out; have := hb.out; rw [IntKind.wrap_i64]; omega
            have hdh := hid hd
            by_cases hlt : c + t ≤ n
            · obtain ⟨e, he⟩ : ∃ e, e = c + t := ⟨_, rfl⟩
              have hee : (c : Int) + (t : Int) = (e : Int) := by omega
              have hlt1 : (e : Int) ≤ (n : Int) := by omega
              have hwe : IntKind.i64.wrap ((e : Int) + (t : Int)) = (e : Int) + (t : Int) := by have := hst.out; have := hb.out; rw [IntKind.wrap_i64]; omega
              rw [hee]
              have heh := hid (show e = c + t ∧ e ≤ n from ⟨he, by omega⟩)
              have hT := hid (show Srt (ltC cf) F g3 c d ∧ Srt (ltC cf) F g3 d e ∧ Fst g3 c d e ∧ ∀ i, c ≤ i → i < e → c ≤ g3 i ∧ g3 i < e by
                have hs := hst.out
                have hk := hkc.out
                subst hk
                rw [hd]
                exact bks_two B3h.out hs.2.1 (by omega) (by omega))
              clear H S hB2 hB3 hcn hd hlt he hee
              go_wp2_with fail
              refine (KM.out c d e g3 _ (by have := hdh.out; have := hst.out; omega) (by have := hdh.out; have := hst.out; have := heh.out; omega) heh.out.2 hT.out.1 hT.out.2.1 hT.out.2.2.1 hI1.out Hh.out).mono ?_
              rintro x w1 ⟨rfl, h2, s1, m1, H1, S1⟩
              have H1h := hid H1
              have S1h := hid (Sh.out.trans S1)
              have Q := hid (show Bks (ltC cf) F h2 (2 * s) n 0 e ∧ Bks (ltC cf) F h2 s n e n by
                have hs := hst.out
                have hk := hkc.out
                have m := m1
                have ss := s1
                have eh := heh.out
                have T := hT.out.2.2.2
                have B2 := B2h.out
                have B3 := B3h.out
                rw [eh.1, hs.1] at m ss T ⊢
                have e1 : min (c + 2 * s) n = c + 2 * s := by omega
                subst hk
                refine ⟨bks_grow (by omega) B2 (by rw [e1]; exact m) (by rw [e1]; exact ss) fun i i1 i2 => ?_, bks_rest (B3.le (by omega) (Nat.le_refl _)) m⟩
                rw [e1] at i2 ⊢
                exact T i i1 i2)
              clear H1 S1 s1 m1 Hh Sh B2h B3h hT hI1
              go_wp2_with fail
              go_roundw
              case rel => exact ⟨k2 + 1, e, h2, rfl, by go_num, hid (by rw [heh.out.1, hst.out.1, hkc.out, Nat.add_mul, Nat.one_mul]), heh.out.2, Q.out.1, Q.out.2, H1h.out, S1h.out⟩
              case measure => have := heh.out; have := hst.out; simp [intOf]; omega
            · have hlt1 : ¬ (c : Int) + (t : Int) ≤ (n : Int) := by omega
              have hlt2 : ¬ c + t ≤ n := hlt
              have hcn' := hid (show c ≤ n ∧ n < c + t from ⟨hcn, by omega⟩)
              by_cases hdn : d < n
              · have hdn1 : (d : Int) < (n : Int) := by omega
                have hdn' := hid hdn
                have hT := hid (show Srt (ltC cf) F g3 c d ∧ Srt (ltC cf) F g3 d n ∧ Fst g3 c d n ∧ ∀ i, c ≤ i → i < n → c ≤ g3 i ∧ g3 i < n by
                  have hs := hst.out
                  have hk := hkc.out
                  subst hk
                  rw [hd]
                  exact bks_two B3h.out hs.2.1 (by omega) (by omega))
                clear H S hB2 hB3 hcn hd hlt hdn
                go_wp2_with fail
                refine (KM.out c d n g3 _ (by have := hdh.out; have := hst.out; omega) hdn'.out (Nat.le_refl _) hT.out.1 hT.out.2.1 hT.out.2.2.1 hI1.out Hh.out).mono ?_
                rintro x w1 ⟨rfl, h2, s1, m1, H1, S1⟩
                have H1h := hid H1
                have S1h := hid (Sh.out.trans S1)
                have Q := hid (show Bks (ltC cf) F h2 (2 * s) n 0 n by
                  have hs := hst.out
                  have hk := hkc.out
                  have m := m1
                  have ss := s1
                  have T := hT.out.2.2.2
                  have B2 := B2h.out
                  have cn := hcn'.out
                  have e1 : min (c + 2 * s) n = n := by omega
                  subst hk
                  refine (bks_grow (by omega) B2 (by rw [e1]; exact m) (by rw [e1]; exact ss) fun i i1 i2 => ?_).le (Nat.le_refl _) (by omega)
                  rw [e1] at i2 ⊢
                  exact T i i1 i2)
                clear H1 S1 s1 m1 Hh Sh B2h B3h hT hI1
                go_wp2_with fail
                go_roundw
                case rel => exact ⟨t, h2, rfl, by have := hst.out; omega, hst.out.2.2.2, by rw [hst.out.1]; exact Q.out, H1h.out, S1h.out⟩
                case measure => have := hst.out; simp [intOf]; omega
              · have hdn1 : ¬ (d : Int) < (n : Int) := by omega
                have Q := hid (show Bks (ltC cf) F g3 (2 * s) n 0 n by
                  have hs := hst.out
                  have hk := hkc.out
                  have B2 := B2h.out
                  have B3 := B3h.out
                  subst hk
                  exact bks_last B2 B3 hs.2.1 (by omega))
                clear H S hB2 hB3 hcn hd hlt hdn
                go_wp2_with fail
                go_roundw
                case rel => exact ⟨t, g3, rfl, by have := hst.out; omega, hst.out.2.2.2, by rw [hst.out.1]; exact Q.out, Hh.out, Sh.out⟩
                case measure => have := hst.out; simp [intOf]; omega
        · have hsn1 : ¬ (s : Int) < (n : Int) := by omega
          have Q := hid (bks_one (F := F) (lt := ltC cf) (show n ≤ s by omega) hB)
          clear H S hB
          go_wp2
          go_end0
          exact ⟨rfl, g2, Q.out.1, Q.out.2, Hh.out, Sh.out⟩

set_option maxRecDepth 100000 in
/-- slices.SortStableFunc of a row of the call's own: the stable sort of what it was. -/
theorem sortStable_any (base b n cap f : Nat) (cb : Array Value) (I : World → Prop) (cf : Pt → Pt → Int) (Q : Pt → Prop) (KF : CmpF f cb I b cf Q) (hsm : n ≤ 144115188075855872) (F : Nat → Pt) (hQ0 : ∀ i, Q (F i)) (w : World) (hI : I w) (H : RowOwn gpT w base (.slice (some ⟨b, 0, none⟩) n cap) (ptL n F)) :
    Calls Try.prog 18 #[.slice (some ⟨b, 0, none⟩) n cap, .func (.func f) #[] cb] w fun x w' => x = .returned (.tuple #[]) ∧ RowOwn gpT w' base (.slice (some ⟨b, 0, none⟩) n cap) (stS (ltC cf) (ptL n F)) ∧ Sole (fun k => k = b) w w' := by
  have K := hid (stable_any base b n cap f cb I cf Q KF F hQ0 hsm w hI H)
  have KW := hid KF.weak
  clear H hI KF hsm
  go_enter Try.func18, Try.ntmps18
  go_wp2_with fail
  refine K.out.mono ?_
  rintro x w1 ⟨rfl, h, s1, hn, H1, S1⟩
  have e := srt_eq (F := F) KW.out n h s1 hn
  have H1h := hid (show RowOwn gpT w1 base (.slice (some ⟨b, 0, none⟩) n cap) (stS (ltC cf) (ptL n F)) by
    unfold StR ptL at H1
    rw [e] at H1
    exact H1)
  have S1h := hid S1
  clear s1 hn H1 S1 e K
  go_wp2
  go_end0
  exact ⟨rfl, H1h.out, S1h.out⟩
end Go.Proofs.Ytfijkbgbhaoilaa
