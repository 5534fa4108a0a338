/-
  PointSorts answers true for any points and any number, and changes nothing that was there: sorted by Id, alike ones stay as they stand; the first of an Id is found. For every input, without a condition.
-/
import Derived.Test.YtfijkbgbhaoilaaStMerge
import Derived.Test.YtfijkbgbhaoilaaStIns
import Derived.Test.YtfijkbgbhaoilaaCmpInt
import Derived.Shelf.Abstract
import Derived.Test.YtfijkbgbhaoilaaSlices
import Derived.Test.YtfijkbgbhaoilaaAidMore
import Derived.WalkKit
import Derived.LoopTactic
import Derived.Test.YtfijkbgbhaoilaaStMath
import Derived.Test.YtfijkbgbhaoilaaRegionFlow
import Derived.Test.YtfijkbgbhaoilaaOwnRow
import Derived.Test.YtfijkbgbhaoilaaPointAlive
import Derived.Test.YtfijkbgbhaoilaaPlainPoints
import Derived.Deep.CutBlock
import Derived.Deep.DeepCutAuto
import Derived.SizedLaws
import Derived.Test.YtfijkbgbhaoilaaOctArg
import Derived.Test.YtfijkbgbhaoilaaLiftSized

/-
  slices.SortStableFunc of points, at whatever length.
-/


namespace Go.Proofs.Ytfijkbgbhaoilaa
open Go.RowKit
set_option linter.unusedVariables false
set_option linter.unusedSimpArgs false

theorem merge_any (base b n cap f : Nat) (cb : Array Value) (I : World → Prop) (cf : Pt → Pt → Int) (KF : CmpF f cb I b cf) (F : Nat → Pt) (hsm : n ≤ 144115188075855872) : ∀ (N a m z : Nat) (g : Nat → Nat) (w : World), z - a ≤ N → a < m → m < z → z ≤ n →
    Srt (ltC cf) F g a m → Srt (ltC cf) F g m z → Fst g a m z → I w → StR w base b n cap F g →
    Calls Try.prog 37 #[.slice (some ⟨b, 0, none⟩) n cap, .int .i64 (a : Int), .int .i64 (m : Int), .int .i64 (z : Int), .func (.func f) #[] cb] w (Mrg cf F g base b n cap a z w)
  | 0, a, m, z, g, w, hN, h1, h2, h3, s1, s2, hf, hI, H => by omega
  | N + 1, a, m, z, g, w, hN, h1, h2, h3, s1, s2, hf, hI, H => by
    by_cases e1 : m = a + 1
    · exact merge_up base b n cap a m z f cb I cf KF F g e1 h2 h3 hsm s2 hf w hI H
    · by_cases e2 : z = m + 1
      · exact merge_down base b n cap a m z f cb I cf KF F g h1 e1 e2 h3 hsm s1 hf w hI H
      · exact merge_gen base b n cap a m z f cb I cf KF F g (by omega) (by omega) h3 hsm (fun a' m' z' g' w' k1 k2 k3 k4 => merge_any base b n cap f cb I cf KF F hsm N a' m' z' g' w' (by omega) k1 k2 k3) s1 s2 hf w hI H

set_option maxRecDepth 100000 in
set_option maxHeartbeats 8000000 in
theorem stable_any (base b n cap f : Nat) (cb : Array Value) (I : World → Prop) (cf : Pt → Pt → Int) (KF : CmpF f cb I b cf) (F : Nat → Pt) (hsm : n ≤ 144115188075855872) (w : World) (hI : I w) (H : StR w base b n cap F (fun i => i)) :
    Calls Try.prog 30 #[.slice (some ⟨b, 0, none⟩) n cap, .int .i64 (n : Int), .func (.func f) #[] cb] w fun x w' => x = .returned (.tuple #[]) ∧ ∃ h, Srt (ltC cf) F h 0 n ∧ (∀ i, i < n → h i < n) ∧ StR w' base b n cap F h ∧ Sole (fun k => k = b) w w' := by
  have KI := hid KF.keeps
  have KN := hid (fun a z g h1 h2 hg w hI H => insert_any base b n cap a z f cb I cf KF F g h1 h2 hsm hg w hI H)
  have KM := hid (fun a m z g w => merge_any base b n cap f cb I cf KF F hsm (z - a) a m z g w (Nat.le_refl _))
  have HH := hid H
  have II := hid hI
  have hb := hid hsm
  have hn57 : (n : Int) ≤ 144115188075855872 := by omega
  clear H hI KF hsm
  go_enter Try.func30, Try.ntmps30
  go_wp2_with fail
  go_loopw [7, 8] (fun u v wr => ∃ (k a : Nat) (g : Nat → Nat), u = .int .i64 (a : Int) ∧ v = .int .i64 ((a : Int) + 20) ∧ a = k * 20 ∧ a ≤ n ∧ Bks (ltC cf) F g 20 n 0 a ∧ (∀ x, a ≤ x → g x = x) ∧ StR wr base b n cap F g ∧ Sole (fun k => k = b) w wr) (fun u _ _ => n - (intOf u).toNat)
  case atStart => exact ⟨0, 0, fun i => i, rfl, by go_num, rfl, Nat.zero_le _, bks_none _ _ _ _, fun _ _ => rfl, HH.out, Sole.refl _ _⟩
  case round =>
    obtain ⟨k, a, g, rfl, rfl, hka, han, hB, hid', H, S⟩ := hrel
    clear HH
    have Hh := hid H
    have Sh := hid S
    have Bh := hid hB
    have Gh := hid hid'
    have hk := hid hka
    have hI1 := hid (KI.out w wr II.out S)
    by_cases hlt : a + 20 ≤ n
    · have hlt1 : (a : Int) + 20 ≤ (n : Int) := by omega
      have ha57 : (a : Int) ≤ 144115188075855872 := by omega
      have hl := hid hlt
      clear H S hB hid' hka han hlt
      go_wp2_with fail
      refine (KN.out a (a + 20) g (Nat.le_add_right _ _) hl.out (fun x y x1 x2 x3 => by rw [Gh.out x x1, Gh.out y (by omega)]; exact x2) _ hI1.out Hh.out).mono ?_
      rintro x w1 ⟨rfl, h, s1, m1, H1, S1⟩
      have H1h := hid H1
      have S1h := hid (Sh.out.trans S1)
      have B1 := hid (show Bks (ltC cf) F h 20 n 0 (a + 20) by
        have m := m1
        have s := s1
        have hl' := hl.out
        have hk' := hk.out
        have B := Bh.out
        subst hk'
        have e : min (k * 20 + 20) n = k * 20 + 20 := by omega
        exact bks_grow (by omega) B (by rw [e]; exact m) (by rw [e]; exact s) fun i i1 i2 => by rw [Gh.out i i1]; omega)
      have G1 := hid (show ∀ x, a + 20 ≤ x → h x = x from fun x hx => (m1.out x (.inr hx)).trans (Gh.out x (by omega)))
      clear H1 S1 s1 m1 Hh Sh Bh Gh
      go_wp2_with fail
      go_roundw
      case rel => exact ⟨k + 1, a + 20, h, by go_num, by go_num, by have := hk.out; omega, hl.out, B1.out, G1.out, H1h.out, S1h.out⟩
      case measure => have := hl.out; simp [intOf]; omega
    · have hlt1 : ¬ (a : Int) + 20 ≤ (n : Int) := by omega
      have hl := hid (show a ≤ n ∧ n < a + 20 from ⟨han, by omega⟩)
      obtain ⟨WY, rfl⟩ : ∃ WY, WY = wr := ⟨_, rfl⟩
      clear H S hB hid' hka han hlt
      go_wp2_with fail
      refine (KN.out a n g hl.out.1 (Nat.le_refl _) (fun x y x1 x2 x3 => by rw [Gh.out x x1, Gh.out y (by omega)]; exact x2) _ hI1.out Hh.out).mono ?_
      rintro x w1 ⟨rfl, h, s1, m1, H1, S1⟩
      have H1h := hid H1
      have S1h := hid (Sh.out.trans S1)
      have B1 := hid (show Bks (ltC cf) F h 20 n 0 n by
        have m := m1
        have s := s1
        have hl' := hl.out
        have hk' := hk.out
        have B := Bh.out
        subst hk'
        have e : min (k * 20 + 20) n = n := by omega
        exact (bks_grow (by omega) B (by rw [e]; exact m) (by rw [e]; exact s) fun i i1 i2 => by rw [Gh.out i i1]; omega).le (Nat.le_refl _) (by omega))
      clear H1 S1 s1 m1 Hh Sh Bh Gh hI1 hlt1
      go_wp2_with fail
      go_loopw [6] (fun u wr => ∃ (s : Nat) (g : Nat → Nat), u = .int .i64 (s : Int) ∧ 0 < s ∧ s ≤ 288230376151711744 ∧ Bks (ltC cf) F g s n 0 n ∧ StR wr base b n cap F g ∧ Sole (fun k => k = b) w wr) (fun u _ => n - (intOf u).toNat)
      case atStart => exact ⟨20, h, by go_num, by omega, by omega, B1.out, H1h.out, S1h.out⟩
      case round =>
        obtain ⟨s, g2, rfl, hs0, hs58, hB, H, S⟩ := hrel
        clear H1h S1h B1
        have Hh := hid H
        have Sh := hid S
        have Bh := hid hB
        by_cases hsn : s < n
        · have hsn1 : (s : Int) < (n : Int) := by omega
          obtain ⟨t, ht⟩ : ∃ t, t = 2 * s := ⟨_, rfl⟩
          have hwt : IntKind.i64.wrap (2 * (s : Int)) = (t : Int) := by have := hb.out; rw [IntKind.wrap_i64]; omega
          have hwt2 : IntKind.i64.wrap ((s : Int) * 2) = (t : Int) := by have := hb.out; rw [IntKind.wrap_i64]; omega
          have hs57 : (s : Int) ≤ 144115188075855872 := by have := hb.out; omega
          have ht58 : (t : Int) ≤ 288230376151711744 := by have := hb.out; omega
          have hst := hid (show t = 2 * s ∧ 0 < s ∧ s < n ∧ t ≤ 288230376151711744 from ⟨ht, hs0, hsn, by omega⟩)
          obtain ⟨WZ, rfl⟩ : ∃ WZ, WZ = wr := ⟨_, rfl⟩
          clear H S hB hs0 hs58 ht hsn
          go_wp2_with fail
          go_loopw [7, 8] (fun u v wr => ∃ (k a : Nat) (g : Nat → Nat), u = .int .i64 (a : Int) ∧ v = .int .i64 ((a : Int) + (t : Int)) ∧ Hid (a = k * (2 * s)) ∧ a ≤ n ∧ Bks (ltC cf) F g (2 * s) n 0 a ∧ Bks (ltC cf) F g s n a n ∧ StR wr base b n cap F g ∧ Sole (fun k => k = b) w wr) (fun u _ _ => n - (intOf u).toNat)
          case atStart => exact ⟨0, 0, g2, rfl, by go_num, hid (by omega), Nat.zero_le _, bks_none _ _ _ _, Bh.out, Hh.out, Sh.out⟩
          case round =>
            obtain ⟨k2, c, g3, rfl, rfl, hkc, hcn, hB2, hB3, H, S⟩ := hrel
            clear Hh Sh Bh
            have Hh := hid H
            have Sh := hid S
            have B2h := hid hB2
            have B3h := hid hB3
            have hI1 := hid (KI.out w wr II.out S)
            have hc57 : (c : Int) ≤ 144115188075855872 := by have := hb.out; omega
            obtain ⟨d, hd⟩ : ∃ d, d = c + s := ⟨_, rfl⟩
            have hwd : IntKind.i64.wrap ((c : Int) + (s : Int)) = (d : Int) := by have := hst.out; have := hb.out; rw [IntKind.wrap_i64]; omega
            have hdh := hid hd
            by_cases hlt : c + t ≤ n
            · obtain ⟨e, he⟩ : ∃ e, e = c + t := ⟨_, rfl⟩
              have hee : (c : Int) + (t : Int) = (e : Int) := by omega
              have hlt1 : (e : Int) ≤ (n : Int) := by omega
              have hwe : IntKind.i64.wrap ((e : Int) + (t : Int)) = (e : Int) + (t : Int) := by have := hst.out; have := hb.out; rw [IntKind.wrap_i64]; omega
              rw [hee]
              have heh := hid (show e = c + t ∧ e ≤ n from ⟨he, by omega⟩)
              have hT := hid (show Srt (ltC cf) F g3 c d ∧ Srt (ltC cf) F g3 d e ∧ Fst g3 c d e ∧ ∀ i, c ≤ i → i < e → c ≤ g3 i ∧ g3 i < e by
                have hs := hst.out
                have hk := hkc.out
                subst hk
                rw [hd]
                exact bks_two B3h.out hs.2.1 (by omega) (by omega))
              clear H S hB2 hB3 hcn hd hlt he hee
              go_wp2_with fail
              refine (KM.out c d e g3 _ (by have := hdh.out; have := hst.out; omega) (by have := hdh.out; have := hst.out; have := heh.out; omega) heh.out.2 hT.out.1 hT.out.2.1 hT.out.2.2.1 hI1.out Hh.out).mono ?_
              rintro x w1 ⟨rfl, h2, s1, m1, H1, S1⟩
              have H1h := hid H1
              have S1h := hid (Sh.out.trans S1)
              have Q := hid (show Bks (ltC cf) F h2 (2 * s) n 0 e ∧ Bks (ltC cf) F h2 s n e n by
                have hs := hst.out
                have hk := hkc.out
                have m := m1
                have ss := s1
                have eh := heh.out
                have T := hT.out.2.2.2
                have B2 := B2h.out
                have B3 := B3h.out
                rw [eh.1, hs.1] at m ss T ⊢
                have e1 : min (c + 2 * s) n = c + 2 * s := by omega
                subst hk
                refine ⟨bks_grow (by omega) B2 (by rw [e1]; exact m) (by rw [e1]; exact ss) fun i i1 i2 => ?_, bks_rest (B3.le (by omega) (Nat.le_refl _)) m⟩
                rw [e1] at i2 ⊢
                exact T i i1 i2)
              clear H1 S1 s1 m1 Hh Sh B2h B3h hT hI1
              go_wp2_with fail
              go_roundw
              case rel => exact ⟨k2 + 1, e, h2, rfl, by go_num, hid (by rw [heh.out.1, hst.out.1, hkc.out, Nat.add_mul, Nat.one_mul]), heh.out.2, Q.out.1, Q.out.2, H1h.out, S1h.out⟩
              case measure => have := heh.out; have := hst.out; simp [intOf]; omega
            · have hlt1 : ¬ (c : Int) + (t : Int) ≤ (n : Int) := by omega
              have hlt2 : ¬ c + t ≤ n := hlt
              have hcn' := hid (show c ≤ n ∧ n < c + t from ⟨hcn, by omega⟩)
              by_cases hdn : d < n
              · have hdn1 : (d : Int) < (n : Int) := by omega
                have hdn' := hid hdn
                have hT := hid (show Srt (ltC cf) F g3 c d ∧ Srt (ltC cf) F g3 d n ∧ Fst g3 c d n ∧ ∀ i, c ≤ i → i < n → c ≤ g3 i ∧ g3 i < n by
                  have hs := hst.out
                  have hk := hkc.out
                  subst hk
                  rw [hd]
                  exact bks_two B3h.out hs.2.1 (by omega) (by omega))
                clear H S hB2 hB3 hcn hd hlt hdn
                go_wp2_with fail
                refine (KM.out c d n g3 _ (by have := hdh.out; have := hst.out; omega) hdn'.out (Nat.le_refl _) hT.out.1 hT.out.2.1 hT.out.2.2.1 hI1.out Hh.out).mono ?_
                rintro x w1 ⟨rfl, h2, s1, m1, H1, S1⟩
                have H1h := hid H1
                have S1h := hid (Sh.out.trans S1)
                have Q := hid (show Bks (ltC cf) F h2 (2 * s) n 0 n by
                  have hs := hst.out
                  have hk := hkc.out
                  have m := m1
                  have ss := s1
                  have T := hT.out.2.2.2
                  have B2 := B2h.out
                  have cn := hcn'.out
                  have e1 : min (c + 2 * s) n = n := by omega
                  subst hk
                  refine (bks_grow (by omega) B2 (by rw [e1]; exact m) (by rw [e1]; exact ss) fun i i1 i2 => ?_).le (Nat.le_refl _) (by omega)
                  rw [e1] at i2 ⊢
                  exact T i i1 i2)
                clear H1 S1 s1 m1 Hh Sh B2h B3h hT hI1
                go_wp2_with fail
                go_roundw
                case rel => exact ⟨t, h2, rfl, by have := hst.out; omega, hst.out.2.2.2, by rw [hst.out.1]; exact Q.out, H1h.out, S1h.out⟩
                case measure => have := hst.out; simp [intOf]; omega
              · have hdn1 : ¬ (d : Int) < (n : Int) := by omega
                have Q := hid (show Bks (ltC cf) F g3 (2 * s) n 0 n by
                  have hs := hst.out
                  have hk := hkc.out
                  have B2 := B2h.out
                  have B3 := B3h.out
                  subst hk
                  exact bks_last B2 B3 hs.2.1 (by omega))
                clear H S hB2 hB3 hcn hd hlt hdn
                go_wp2_with fail
                go_roundw
                case rel => exact ⟨t, g3, rfl, by have := hst.out; omega, hst.out.2.2.2, by rw [hst.out.1]; exact Q.out, Hh.out, Sh.out⟩
                case measure => have := hst.out; simp [intOf]; omega
        · have hsn1 : ¬ (s : Int) < (n : Int) := by omega
          have Q := hid (bks_one (F := F) (lt := ltC cf) (show n ≤ s by omega) hB)
          clear H S hB
          go_wp2
          go_end0
          exact ⟨rfl, g2, Q.out.1, Q.out.2, Hh.out, Sh.out⟩

set_option maxRecDepth 100000 in
/-- slices.SortStableFunc of a row of the call's own: the stable sort of what it was. -/
theorem sortStable_any (base b n cap f : Nat) (cb : Array Value) (I : World → Prop) (cf : Pt → Pt → Int) (KF : CmpF f cb I b cf) (hsm : n ≤ 144115188075855872) (F : Nat → Pt) (w : World) (hI : I w) (H : RowOwn gpT w base (.slice (some ⟨b, 0, none⟩) n cap) (ptL n F)) :
    Calls Try.prog 18 #[.slice (some ⟨b, 0, none⟩) n cap, .func (.func f) #[] cb] w fun x w' => x = .returned (.tuple #[]) ∧ RowOwn gpT w' base (.slice (some ⟨b, 0, none⟩) n cap) (stS (ltC cf) (ptL n F)) ∧ Sole (fun k => k = b) w w' := by
  have K := hid (stable_any base b n cap f cb I cf KF F hsm w hI H)
  have KW := hid KF.weak
  clear H hI KF hsm
  go_enter Try.func18, Try.ntmps18
  go_wp2_with fail
  refine K.out.mono ?_
  rintro x w1 ⟨rfl, h, s1, hn, H1, S1⟩
  have e := srt_eq (F := F) KW.out n h s1 hn
  have H1h := hid (show RowOwn gpT w1 base (.slice (some ⟨b, 0, none⟩) n cap) (stS (ltC cf) (ptL n F)) by
    unfold StR ptL at H1
    rw [e] at H1
    exact H1)
  have S1h := hid S1
  clear s1 hn H1 S1 e K
  go_wp2
  go_end0
  exact ⟨rfl, H1h.out, S1h.out⟩
end Go.Proofs.Ytfijkbgbhaoilaa

/-
  Package point: Sort; the library's stable sort of nothing.
-/



namespace Go.Proofs.Ytfijkbgbhaoilaa
open Go.RowKit
set_option linter.unusedVariables false
set_option linter.unusedSimpArgs false

/-- By Id. -/
def cfId (x y : Pt) : Int := cmpI x.id y.id
def ltId : Pt → Pt → Bool := fun x y => decide (x.id < y.id)
theorem ltId_eq : ltC cfId = ltId := by funext x y; exact cmpI_lt x.id y.id
theorem weak_id : Weak ltId := ⟨fun x => by simp [ltId], fun x y z h k => by simp only [ltId, decide_eq_true_eq] at *; omega, fun x y z h k => by simp only [ltId, decide_eq_false_iff_not] at *; omega⟩

theorem insert_nil (p : Option Addr) (c : Nat) (fv : Value) (w : World) : Calls Try.prog 36 #[.slice p 0 c, .int .i64 0, .int .i64 0, fv] w fun e w' => e = .returned (.tuple #[]) ∧ w' = w := by
  go_enter Try.func36, Try.ntmps36
  go_wp2_with fail
  refine wp_loop_rounds 1 ?_
  rw [rounds_succ]
  go_wp2
  go_end0
  exact ⟨rfl, rfl⟩
theorem stable_nil (p : Option Addr) (c : Nat) (fv : Value) (w : World) : Calls Try.prog 30 #[.slice p 0 c, .int .i64 0, fv] w fun e w' => e = .returned (.tuple #[]) ∧ w' = w := by
  have K := hid (insert_nil p c fv w)
  go_enter Try.func30, Try.ntmps30
  go_wp2_with fail
  refine wp_loop_rounds 1 ?_
  rw [rounds_succ]
  go_wp2_with fail
  refine K.out.mono ?_
  rintro e w1 ⟨rfl, hw⟩
  rw [hw]
  clear hw w1 K
  go_wp2_with fail
  refine wp_loop_rounds 1 ?_
  rw [rounds_succ]
  go_wp2
  go_end0
  exact ⟨rfl, rfl⟩
theorem sortStable_nil (p : Option Addr) (c : Nat) (fv : Value) (w : World) : Calls Try.prog 18 #[.slice p 0 c, fv] w fun e w' => e = .returned (.tuple #[]) ∧ w' = w := by
  have K := hid (stable_nil p c fv w)
  go_enter Try.func18, Try.ntmps18
  go_wp2_with fail
  refine K.out.mono ?_
  rintro e w1 ⟨rfl, hw⟩
  rw [hw]
  clear hw w1 K
  go_wp2
  go_end0
  exact ⟨rfl, rfl⟩

set_option maxRecDepth 100000 in
theorem byId_any (x y : Pt) (w : World) : Calls Try.prog 21 #[.agg #[.int .i64 x.id, .int .u32 x.x, .int .u32 x.y, .string x.d], .agg #[.int .i64 y.id, .int .u32 y.x, .int .u32 y.y, .string y.d]] w fun e w' => e = .returned (.int .i64 (cfId x y)) ∧ Below w.heap.size w w' := by
  have K := hid (fun w => cmpi_any x.id y.id w)
  unfold cfId
  generalize cmpI x.id y.id = c at *
  have hb := hid (show Below w.heap.size w ((w.alloc (.cells #[.int .i64 x.id, .int .u32 x.x, .int .u32 x.y, .string x.d] 27)).alloc (.cells #[.int .i64 y.id, .int .u32 y.x, .int .u32 y.y, .string y.d] 27)) from ((Below.refl _ _).alloc (Nat.le_refl _) _).alloc (by simp) _)
  go_enter Try.func21, Try.ntmps21
  go_wp2_with fail
  refine (K.out _).mono ?_
  rintro e w1 ⟨rfl, hw⟩
  rw [hw]
  clear hw w1 K
  go_wp2
  go_ret
  exact ⟨rfl, hb.out⟩
theorem cmpF_id (b : Nat) : CmpF 21 #[] (fun _ => True) b cfId :=
  ⟨enters_of Try.func21 (by kernel_rfl) rfl, fun x y w _ => by rw [Array.append_empty]; exact byId_any x y w, fun _ _ _ _ => trivial, by
    have := weak_id
    rw [← ltId_eq] at this
    exact this⟩

/-- Any clone that is sorted. -/
theorem stS_nil {α : Type} (lt : α → α → Bool) : stS lt ([] : List α) = [] := rfl
set_option maxRecDepth 100000 in
theorem psort_any (p : Option Addr) (n cap : Nat) (f : Nat → Pt) (hn : n ≤ 4398046511104) (w : World) (R : RowP w p 4 n (fun i => pcells (f i))) :
    Calls Try.prog 12 #[.slice p n cap] w fun e w' => ∃ q c, e = .returned (.slice q n c) ∧ RowOwn gpT w' w.heap.size (.slice q n c) (stS ltId (ptL n f)) ∧ Below w.heap.size w w' := by
  have KC := hid (gclone_pts p n cap f (by omega) w R)
  have hnh := hid hn
  clear R hn
  go_enter Try.func12, Try.ntmps12
  go_wp2_with fail
  refine KC.out.mono ?_
  rintro e w1 ⟨q, c, rfl, O, hb⟩
  rcases RowOwn.form O with ⟨hv, hl⟩ | ⟨g, c', hv, hg, hgs, hc1, hc2⟩
  · obtain rfl : n = 0 := by have := congrArg List.length hl; rw [ptL_len] at this; exact this
    have KN := hid (fun fv => sortStable_nil q c fv w1)
    have Oh := hid (show RowOwn gpT w1 w.heap.size (.slice q 0 c) (stS ltId (ptL 0 f)) by
      have e : ptL 0 f = [] := rfl
      rw [e, stS_nil, ← e]
      exact O)
    have hbh := hid hb
    clear O hb hv hl KC
    go_wp2_with fail
    refine (KN.out _).mono ?_
    rintro e w2 ⟨rfl, hw⟩
    rw [hw]
    clear hw w2 KN
    go_wp2
    go_ret
    exact ⟨q, c, rfl, Oh.out, hbh.out⟩
  · rw [ptL_len] at hv
    cases hv
    have KS := hid (sortStable_any w.heap.size g n c 21 #[] (fun _ => True) cfId (cmpF_id g) (by have := hnh.out; omega) f w1 trivial O)
    have hbh := hid hb
    have hgh := hid hg
    clear O hb hc1 hc2 hg hgs KC
    go_wp2_with fail
    refine KS.out.mono ?_
    rintro e w2 ⟨rfl, O2, S2⟩
    have O2h := hid (show RowOwn gpT w2 w.heap.size (.slice (some ⟨g, 0, none⟩) n c) (stS ltId (ptL n f)) by rw [← ltId_eq]; exact O2)
    have B2 := hid (hbh.out.trans (S2.below hbh.out.size fun k e => by rw [e]; exact hgh.out))
    clear O2 S2 KS
    go_wp2
    go_ret
    exact ⟨_, c, rfl, O2h.out, B2.out⟩
end Go.Proofs.Ytfijkbgbhaoilaa

/-
  Package point: Find, Less.
-/




namespace Go.Proofs.Ytfijkbgbhaoilaa
open Go.RowKit
set_option linter.unusedVariables false
set_option linter.unusedSimpArgs false

/-- The first of an Id among the first n; -1 if there is none. -/
def fstI (f : Nat → Pt) (id : Int) : Nat → Int
  | 0 => -1
  | n + 1 => if fstI f id n < 0 ∧ (f n).id = id then (n : Int) else fstI f id n
theorem fstI_bd (f : Nat → Pt) (id : Int) : ∀ n : Nat, -1 ≤ fstI f id n ∧ fstI f id n < (n : Int)
  | 0 => by simp [fstI]
  | n + 1 => by
    have := fstI_bd f id n
    unfold fstI
    split <;> omega
theorem fstI_keep (f : Nat → Pt) (id : Int) (k : Nat) (h : 0 ≤ fstI f id k) : ∀ n : Nat, fstI f id (k + n) = fstI f id k
  | 0 => rfl
  | n + 1 => by
    have := fstI_keep f id k h n
    show (if fstI f id (k + n) < 0 ∧ _ then _ else fstI f id (k + n)) = _
    rw [if_neg (fun x => by omega), this]
theorem fstI_hit (f : Nat → Pt) (id : Int) (k n : Nat) (hk : k < n) (h : fstI f id k = -1) (e : (f k).id = id) : fstI f id n = k := by
  have h1 : fstI f id (k + 1) = k := by
    show (if fstI f id k < 0 ∧ (f k).id = id then (k : Int) else _) = _
    rw [if_pos ⟨by omega, e⟩]
  have := fstI_keep f id (k + 1) (by omega) (n - (k + 1))
  rw [show k + 1 + (n - (k + 1)) = n by omega, h1] at this
  exact this
theorem fstI_miss (f : Nat → Pt) (id : Int) (k : Nat) (h : fstI f id k = -1) (e : ¬ (f k).id = id) : fstI f id (k + 1) = -1 := by
  show (if fstI f id k < 0 ∧ (f k).id = id then (k : Int) else _) = _
  rw [if_neg (fun x => e x.2), h]

set_option maxRecDepth 100000 in
theorem isId_any (B : Nat) (P : Pt) (id : Int) (w : World) (HB : Blk w B #[.int .i64 id]) :
    Calls Try.prog 24 #[.agg #[.int .i64 P.id, .int .u32 P.x, .int .u32 P.y, .string P.d], .pointer (some ⟨B, 0, none⟩)] w fun e w' => e = .returned (.bool (P.id == id)) ∧ Below w.heap.size w w' := by
  have hb := hid (show Below w.heap.size w (w.alloc (.cells #[.int .i64 P.id, .int .u32 P.x, .int .u32 P.y, .string P.d] 27)) from (Below.refl _ _).alloc (Nat.le_refl _) _)
  have hB := HB.lt
  obtain ⟨l0, k0, f0⟩ := HB.alloc (.cells #[.int .i64 P.id, .int .u32 P.x, .int .u32 P.y, .string P.d] 27)
  have hne : ¬ B = w.heap.size := by omega
  clear HB
  go_enter Try.func24, Try.ntmps24
  go_wp2
  go_ret
  exact ⟨rfl, hb.out⟩

set_option maxRecDepth 100000 in
set_option maxHeartbeats 4000000 in
theorem indexId_pts (B : Nat) (p : Option Addr) (n cap : Nat) (f : Nat → Pt) (id : Int) (h1 : n ≤ cap) (h2 : cap ≤ maxLen) (w : World) (HB : Blk w B #[.int .i64 id]) (R : RowP w p 4 n (fun i => pcells (f i))) :
    Calls Try.prog 23 #[.slice p n cap, .func (.func 24) #[] #[.pointer (some ⟨B, 0, none⟩)]] w fun e w' => e = .returned (.int .i64 (fstI f id n)) ∧ Below w.heap.size w w' := by
  have hn63 : (n : Int) ≤ 9223372036854775807 := by unfold maxLen at h2; omega
  have HBh := hid HB
  have HR := hid R
  have hmiss := hid (fun k h e => fstI_miss f id k h e)
  have hhit := hid (fun k (hk : k < n) h e => fstI_hit f id k n hk h e)
  clear HB R h1 h2
  go_enter Try.func23, Try.ntmps23
  go_wp2_with fail
  go_loopw [8] (fun i wr => ∃ k : Nat, k ≤ n ∧ i = .int .i64 (k : Int) ∧ Hid (fstI f id k = -1) ∧ Below w.heap.size w wr) (fun i _ => n - (intOf i).toNat)
  case atStart => exact ⟨0, by omega, rfl, hid rfl, Below.refl _ _⟩
  case round =>
    obtain ⟨k, hk, rfl, hF, SS⟩ := hrel
    have SSh := hid SS
    by_cases hlt : k < n
    · have hlt1 : (k : Int) < (n : Int) := by omega
      obtain ⟨b, o, rfl, R0⟩ := HR.out.row (by omega)
      have R := R0.below SS R0.lt
      have z0 := R.at0 hlt (v := .int .i64 (f k).id) rfl
      have z1 := R.at1 hlt (v := .int .u32 (f k).x) rfl
      have z2 := R.at2 hlt (v := .int .u32 (f k).y) rfl
      have z3 := R.at3 hlt (v := .string (f k).d) rfl
      have KC := hid (isId_any B (f k) id wr (HBh.out.more SS))
      have hk1 : IntKind.i64.wrap ((k : Int) + 1) = (k : Int) + 1 := IntWalk.i64_in _ ⟨by omega, by omega⟩
      have hkn := hid hlt
      clear R R0 SS
      by_cases he : (f k).id = id
      · have hb : ((f k).id == id) = true := by simp [he]
        have hres := hid (hhit.out k hlt hF.out he)
        rw [hb] at KC
        clear hb he
        go_wp2_with fail
        refine KC.out.mono ?_
        rintro e w2 ⟨rfl, S2⟩
        have S2h := hid (below2 SSh.out S2 SSh.out.size)
        clear S2 KC z0 z1 z2 z3
        go_wp2_with fail
        go_ret
        exact ⟨ret_int hres.out.symm, S2h.out⟩
      · have hb : ((f k).id == id) = false := by simp [he]
        have hF2 := hid (hmiss.out k hF.out he)
        rw [hb] at KC
        clear hb he
        go_wp2_with fail
        refine KC.out.mono ?_
        rintro e w2 ⟨rfl, S2⟩
        have S2h := hid (below2 SSh.out S2 SSh.out.size)
        clear S2 KC z0 z1 z2 z3
        go_wp2_with fail
        go_roundw
        case rel => exact ⟨k + 1, hkn.out, by go_num, hF2, S2h.out⟩
        case measure => have := hkn.out; simp [intOf]; omega
    · have hlt1 : ¬ (k : Int) < (n : Int) := by omega
      obtain rfl : k = n := by omega
      clear SS
      go_wp2
      go_ret
      exact ⟨ret_int hF.out.symm, SSh.out⟩

set_option maxRecDepth 100000 in
theorem pfind_any (p : Option Addr) (n cap : Nat) (f : Nat → Pt) (id : Int) (h1 : n ≤ cap) (h2 : cap ≤ maxLen) (w : World) (R : RowP w p 4 n (fun i => pcells (f i))) :
    Calls Try.prog 13 #[.slice p n cap, .int .i64 id] w fun e w' => e = .returned (.int .i64 (fstI f id n)) ∧ Below w.heap.size w w' := by
  have hb := hid (show Below w.heap.size w (w.alloc (.cells #[.int .i64 id] 3)) from (Below.refl _ _).alloc (Nat.le_refl _) _)
  have K := hid (indexId_pts w.heap.size p n cap f id h1 h2 _ (Blk.new w #[.int .i64 id] 3) (R.more hb.out))
  generalize fstI f id n = r at *
  clear R h1 h2
  go_enter Try.func13, Try.ntmps13
  go_wp2_with fail
  refine K.out.mono ?_
  rintro e w2 ⟨rfl, S2⟩
  have S2h := hid (below2 hb.out S2 hb.out.size)
  clear S2 K
  go_wp2
  go_ret
  exact ⟨rfl, S2h.out⟩

set_option maxRecDepth 100000 in
theorem pless_any (x y : Pt) (w : World) : Calls Try.prog 11 #[.agg #[.int .i64 x.id, .int .u32 x.x, .int .u32 x.y, .string x.d], .agg #[.int .i64 y.id, .int .u32 y.x, .int .u32 y.y, .string y.d]] w fun e w' => e = .returned (.bool (decide (x.id < y.id))) ∧ Below w.heap.size w w' := by
  have hb := hid (show Below w.heap.size w ((w.alloc (.cells #[.int .i64 x.id, .int .u32 x.x, .int .u32 x.y, .string x.d] 27)).alloc (.cells #[.int .i64 y.id, .int .u32 y.x, .int .u32 y.y, .string y.d] 27)) from ((Below.refl _ _).alloc (Nat.le_refl _) _).alloc (by simp) _)
  go_enter Try.func11, Try.ntmps11
  go_wp2
  go_ret
  exact ⟨rfl, hb.out⟩
end Go.Proofs.Ytfijkbgbhaoilaa

/-
  The stable sort, plainly: it is sorted; where one more goes.
-/

namespace Go.Proofs.Ytfijkbgbhaoilaa
set_option linter.unusedVariables false
set_option linter.unusedSimpArgs false

section
variable {α : Type} {lt : α → α → Bool}
theorem ins_sorted (K : Weak lt) (x : α) : ∀ L : List α, L.Pairwise (fun a b => lt b a = false) → (ins lt x L).Pairwise (fun a b => lt b a = false)
  | [], _ => by simp [ins]
  | y :: L, h => by
    rw [List.pairwise_cons] at h
    unfold ins
    split
    · rename_i hl
      have hyx := K.asym _ _ hl
      refine List.pairwise_cons.2 ⟨fun z hz => ?_, List.pairwise_cons.2 h⟩
      rcases List.mem_cons.1 hz with rfl | hz
      · exact hyx
      · exact K.neg _ _ _ (h.1 z hz) hyx
    · rename_i hl
      refine List.pairwise_cons.2 ⟨fun z hz => ?_, ins_sorted K x L h.2⟩
      rcases List.mem_cons.1 ((ins_perm x L).subset hz) with rfl | hz
      · simpa using hl
      · exact h.1 z hz
theorem foldl_sorted (K : Weak lt) : ∀ (L M : List α), M.Pairwise (fun a b => lt b a = false) → (L.foldl (fun l x => ins lt x l) M).Pairwise (fun a b => lt b a = false)
  | [], M, h => h
  | x :: L, M, h => foldl_sorted K L _ (ins_sorted K x M h)
theorem stS_sorted (K : Weak lt) (L : List α) : (stS lt L).Pairwise (fun a b => lt b a = false) := foldl_sorted K L [] List.Pairwise.nil
theorem foldl_perm : ∀ (L M : List α), (L.foldl (fun l x => ins lt x l) M).Perm (M ++ L)
  | [], M => by simp
  | x :: L, M => by
    refine (foldl_perm L (ins lt x M)).trans ?_
    have h := (ins_perm (lt := lt) x M).append_right L
    refine h.trans ?_
    exact (List.perm_middle (a := x) (l₁ := M) (l₂ := L)).symm
theorem stS_perm (L : List α) : (stS lt L).Perm L := by
  have h := foldl_perm (lt := lt) L []
  rw [List.nil_append] at h
  exact h
theorem stS_length (L : List α) : (stS lt L).length = L.length := (stS_perm L).length_eq
theorem stS_snoc (L : List α) (x : α) : stS lt (L ++ [x]) = ins lt x (stS lt L) := by
  unfold stS
  rw [List.foldl_append]
  rfl
/-- Where one more goes: behind the last one that it isn't ahead of. -/
theorem ins_take (K : Weak lt) (x : α) : ∀ (L : List α) (k : Nat), k ≤ L.length → L.Pairwise (fun a b => lt b a = false) → (∀ h : k < L.length, lt x L[k] = true) → (∀ h : k - 1 < L.length, 0 < k → lt x L[k - 1] = false) → ins lt x L = L.take k ++ x :: L.drop k
  | [], k, hk, _, _, _ => by
    have : k = 0 := by simpa using hk
    subst this; rfl
  | y :: L, 0, hk, _, h1, _ => by
    have := h1 (by simp)
    simp only [List.getElem_cons_zero] at this
    unfold ins
    rw [if_pos this]
    rfl
  | y :: L, k + 1, hk, hs, h1, h2 => by
    rw [List.pairwise_cons] at hs
    have hlast := h2 (by simp at hk ⊢; omega) (by omega)
    have hxy : lt x y = false := by
      cases k with
      | zero => simpa using hlast
      | succ k =>
        simp only [Nat.add_sub_cancel, List.getElem_cons_succ] at hlast
        exact K.neg _ _ _ hlast (hs.1 _ (List.getElem_mem _))
    unfold ins
    rw [if_neg (by simp [hxy])]
    have ih := ins_take K x L k (by simpa using hk) hs.2 (fun h => by have := h1 (by simpa using h); simpa using this) (fun h h0 => by
      cases k with
      | zero => omega
      | succ k => simpa using hlast)
    rw [ih]
    rfl
end
end Go.Proofs.Ytfijkbgbhaoilaa

/-
  Rows of the call's own, made out of one another in a region that draws its order.
-/


namespace Go.Proofs.Ytfijkbgbhaoilaa
open Go.RowKit
set_option linter.unusedVariables false
set_option linter.unusedSimpArgs false

section
variable {α : Type} {T : RowT α}
/-- What is known of the k-th one made. -/
abbrev RowG (T : RowT α) (base : Nat) (LL : Nat → List α) (k : Nat) (v : Value) (w : World) : Prop := RowOwn T w base v (LL k)
theorem rowG_sole (base : Nat) (LL : Nat → List α) : ∀ k v w w' (S : Nat → Prop), RowG T base LL k v w → Sole S w w' → (∀ b, v.ownBlock = some b → ¬ S b) → RowG T base LL k v w' := fun k v w w' S h hs hn => RowOwn.sole h hs hn
theorem rowG_own (base : Nat) (LL : Nat → List α) : ∀ k v w, RowG T base LL k v w → ∀ b, v.ownBlock = some b → base ≤ b ∧ b < w.heap.size := fun k v w h => RowOwn.within h

/-- A row made of nothing, of one. -/
theorem made_nil (K : T.Ok) (base : Nat) (w : World) (hb : base ≤ w.heap.size) : RowOwn T (w.alloc (.cells #[] T.ty)) base (.slice (some ⟨w.heap.size, 0, none⟩) 0 0) [] := World.ownsRow_made (size := T.sz) w #[] 0 hb (Nat.zero_le _) (by simp)
theorem made_one (K : T.Ok) (base : Nat) (w : World) (hb : base ≤ w.heap.size) (x : α) : RowOwn T (w.alloc (.cells (T.cells x).toArray T.ty)) base (.slice (some ⟨w.heap.size, 0, none⟩) 1 1) [x] := by
  unfold RowOwn
  rw [flatR_one]
  refine ⟨by simp [K.len], .inr ⟨w.heap.size, 1, (T.cells x).toArray, rfl, hb, heap_alloc_new w _, Nat.le_refl _, by unfold maxLen; omega, by simp [K.len], ?_⟩⟩
  rw [List.toList_toArray, List.take_of_length_le (by rw [K.len]; simp)]
theorem made_keeps (w : World) (o : Obj) (S : Nat → Prop) : Sole S w (w.alloc o) := Sole.alloc w o
/-- A row of its own grows. -/
theorem flow_append (K : T.Ok) (base : Nat) (ty : TypeId) (w : World) (v : Value) (l : List α) (hown : RowOwn T w base v l) (q : Option Addr) (c : Nat) (M : List α) (R : RowOf T w q M) (hn : (l.length + M.length) * T.bytes ≤ 140737488355328) (h63 : l.length + M.length ≤ maxLen) (hbase : base ≤ w.heap.size) :
    ∃ v' w', (Builtin.append_ #[T.sl, T.sl] ty #[v, .slice q M.length c]).run Try.prog w = .ok v' w' ∧ RowOwn T w' base v' (l ++ M) ∧ (∀ b, v'.ownBlock = some b → w.heap.size ≤ b ∨ v.ownBlock = some b) ∧ ∀ S : Nat → Prop, (∀ b, v.ownBlock = some b → S b) → Sole S w w' := by
  obtain ⟨v', w', hr, O, G, at'⟩ := append_row K base ty w v l hown q c M R hn h63 hbase
  refine ⟨v', w', hr, O, fun b hb => ?_, fun S hS => Sole.grown G fun k hk => hS k hk⟩
  rcases at' with h | h
  · exact .inr (by rw [← h]; exact hb)
  · rw [h] at hb
    cases hb
    exact .inl (Nat.le_refl _)
/-- s[:k], s[k:] of a row, whatever it is. -/
theorem row_upto (K : T.Ok) (q : Option Addr) (i c k : Nat) (hk : k ≤ i) (hi : i ≤ c) (hq : (q = none ∧ c = 0) ∨ ∃ b o, q = some ⟨b, o, none⟩) (w : World) : (Instr.sliceAt T.sl (.slice q i c) none (some (.int .i64 (k : Int))) none).run Try.prog w = .ok (.slice q k c) w := by
  have hu := K.under
  obtain ⟨j, hj, hz, hs, hby⟩ := info_parts K.tab
  rcases hq with ⟨rfl, rfl⟩ | ⟨b, o, rfl⟩
  · have h0 : k = 0 := by omega
    have h1 : i = 0 := by omega
    subst h0; subst h1
    simp [go_sem, hu, run_underlying hu, sizeOf, typeInfo, hj, hs]
  · have hkc : k ≤ c := by omega
    simp [go_sem, hu, hkc, run_underlying hu, sizeOf, typeInfo, hj, hs]
theorem row_behind (K : T.Ok) (q : Option Addr) (i c k : Nat) (hk : k ≤ i) (hi : i ≤ c) (hq : (q = none ∧ c = 0) ∨ ∃ b o, q = some ⟨b, o, none⟩) (L : List α) (hL : L.length = i) : ∃ q', (∀ w, (Instr.sliceAt T.sl (.slice q i c) (some (.int .i64 (k : Int))) none none).run Try.prog w = .ok (.slice q' (i - k) (c - k)) w) ∧ ∀ w, RowOf T w q L → RowOf T w q' (L.drop k) := by
  have hu := K.under
  obtain ⟨j, hj, hz, hs, hby⟩ := info_parts K.tab
  rcases hq with ⟨rfl, rfl⟩ | ⟨b, o, rfl⟩
  · have h0 : k = 0 := by omega
    have h1 : i = 0 := by omega
    subst h0; subst h1
    refine ⟨none, fun w => by simp [go_sem, hu, run_underlying hu, sizeOf, typeInfo, hj, hs], fun w R => ?_⟩
    rw [List.drop_zero]; exact R
  · by_cases hkc : c = k
    · have hik : i = k := by omega
      subst hkc
      subst hik
      refine ⟨some ⟨b, o, none⟩, fun w => ?_, fun w R => ?_⟩
      · simp [go_sem, hu, run_underlying hu, sizeOf, typeInfo, hj, hs]
      · rw [← hL, List.drop_length]; exact .inl rfl
    · refine ⟨some ⟨b, o + k * T.sz, none⟩, fun w => ?_, fun w R => RowOf.drop R k⟩
      simp [go_sem, hu, run_underlying hu, sizeOf, typeInfo, hj, hs, hk, hi, hkc]
end
end Go.Proofs.Ytfijkbgbhaoilaa

/-
  Layer 7: sorted by Id, alike ones as they stand; the first of an Id is found. The walk.
-/








namespace Go.Proofs.Ytfijkbgbhaoilaa
open Go.RowKit
set_option linter.unusedVariables false
set_option linter.unusedSimpArgs false

/-- What has been sorted of the first i. -/
def wantP (lt : Pt → Pt → Bool) (f : Nat → Pt) (i : Nat) : List Pt := stS lt (ptL i f)
theorem wantP_len (lt : Pt → Pt → Bool) (f : Nat → Pt) (i : Nat) : (wantP lt f i).length = i := by unfold wantP; rw [stS_length, ptL_len]
theorem ptL_snoc (i : Nat) (f : Nat → Pt) : ptL (i + 1) f = ptL i f ++ [f i] := by unfold ptL; rw [List.range_succ, List.map_append]; rfl
theorem wantP_step {lt : Pt → Pt → Bool} (K : Weak lt) (f : Nat → Pt) (i k : Nat) (hk : k ≤ i) (h1 : k < i → lt (f i) (atR gpT (wantP lt f i) k) = true) (h2 : 0 < k → lt (f i) (atR gpT (wantP lt f i) (k - 1)) = false) :
    wantP lt f (i + 1) = (wantP lt f i).take k ++ [f i] ++ (wantP lt f i).drop k := by
  have hl := wantP_len lt f i
  have e : wantP lt f (i + 1) = ins lt (f i) (wantP lt f i) := by unfold wantP; rw [ptL_snoc, stS_snoc]
  rw [e, ins_take K (f i) (wantP lt f i) k (by omega) (stS_sorted K _) (fun h => by have := h1 (by omega); rwa [atR_eq _ _ h] at this) (fun h h0 => by have := h2 h0; rwa [atR_eq _ _ h] at this)]
  simp

set_option maxRecDepth 100000 in
set_option maxHeartbeats 8000000 in
theorem pointSorts (p : Option Addr) (n cap : Nat) (f : Nat → Pt) (id : Int) (hn : n ≤ 4398046511104) (h1 : n ≤ cap) (h2 : cap ≤ maxLen) (w : World) (R : RowP w p 4 n (fun i => pcells (f i))) :
    Calls Try.prog 4 #[.slice p n cap, .int .i64 id] w fun e w' => e = .returned (.bool true) ∧ Below w.heap.size w w' := by
  have KA := hid (fun w => alive07 w)
  have KL := hid (fun x y w => pless_any x y w)
  have KS := hid (fun w R => psort_any p n cap f hn w R)
  have KF := hid (fun w R => pfind_any p n cap f id h1 h2 w R)
  have KP := hid (fun q c q' c' g h1 h2 h3 h4 w R R' => plainPoints_same q q' n c c' g h1 h2 h3 h4 w R R')
  have HR := hid R
  have hn42 : (n : Int) ≤ 4398046511104 := by omega
  have hwl := hid (fun i => wantP_len ltId f i)
  have hws := hid (fun i k h1 h2 h3 => wantP_step weak_id f i k h1 h2 h3)
  have hcp := hid (show n ≤ cap ∧ cap ≤ maxLen from ⟨h1, h2⟩)
  have hcap : (n : Int) ≤ (cap : Int) := by omega
  clear R hn h1 h2
  go_enter Try.func4, Try.ntmps4
  go_wp2_with fail
  refine (KA.out _).mono ?_
  rintro e w0 ⟨rfl, hb0⟩
  have B0 := hid hb0
  clear hb0 KA
  go_wp2_with fail
  go_loopw [5, 6, 7] (fun v a i wr => ∃ (k : Nat) (q : Option Addr) (c : Nat), v = .slice q k c ∧ a = .int .i64 (fstI f id k) ∧ i = .int .i64 (k : Int) ∧ k ≤ n ∧ k ≤ c ∧ c ≤ maxLen ∧ RowOwn gpT wr w0.heap.size (.slice q k c) (wantP ltId f k) ∧ Below w0.heap.size w0 wr) (fun _ _ i _ => n - (intOf i).toNat)
  case atStart => exact ⟨0, none, 0, rfl, rfl, rfl, Nat.zero_le _, Nat.le_refl _, Nat.zero_le _, RowOwn.nil _ _, Below.refl _ _⟩
  case round =>
    obtain ⟨i, q, c, rfl, rfl, rfl, hin, hic, hcm, O, hb⟩ := hrel
    have Oh := hid O
    have Bh := hid hb
    by_cases hlt : i < n
    · have hlt1 : (i : Int) < (n : Int) := by omega
      obtain ⟨b, o, rfl, R0⟩ := HR.out.row (by omega)
      have hblt := R0.lt
      have R1 := R0.below (B0.out.trans (hb.mono B0.out.size)) hblt
      have y0 := R1.at0 hlt (v := .int .i64 (f i).id) rfl
      have y1 := R1.at1 hlt (v := .int .u32 (f i).x) rfl
      have y2 := R1.at2 hlt (v := .int .u32 (f i).y) rfl
      have y3 := R1.at3 hlt (v := .string (f i).d) rfl
      have hc63 : (c : Int) ≤ 9223372036854775807 := by unfold maxLen at hcm; omega
      have hic1 : (i : Int) ≤ (c : Int) := by omega
      have RW := hid (show RowP wr q 4 i (fun k => pcells (atR gpT (wantP ltId f i) k)) by
        obtain ⟨q', c', hv, _, _, RO⟩ := RowOwn.open gpOk O
        rw [hwl.out] at hv
        cases hv
        have RO2 : RowP wr q 4 (wantP ltId f i).length (fun k => pcells (atR gpT (wantP ltId f i) k)) := RO
        rw [hwl.out] at RO2
        exact RO2)
      obtain ⟨WY, rfl⟩ : ∃ WY, WY = wr := ⟨_, rfl⟩
      have hbb : b < WY.heap.size := R1.lt
      have hii := hid (show i < n ∧ i ≤ c ∧ c ≤ maxLen from ⟨hlt, hic, hcm⟩)
      clear O hb R0 R1 hblt hlt hic hcm hin
      go_upto_block 2 with fail
      go_cut [8] (fun v wx => ∃ k : Nat, v = .int .i64 (k : Int) ∧ k ≤ i ∧ (k < i → ltId (f i) (atR gpT (wantP ltId f i) k) = true) ∧ (0 < k → ltId (f i) (atR gpT (wantP ltId f i) (k - 1)) = false) ∧ Below WY.heap.size WY wx)
      case first =>
        go_wp2_with fail
        go_loopw [8] (fun v wx => ∃ k : Nat, v = .int .i64 (k : Int) ∧ k ≤ i ∧ (k < i → ltId (f i) (atR gpT (wantP ltId f i) k) = true) ∧ Below WY.heap.size WY wx) (fun v _ => (intOf v).toNat)
        case atStart => exact ⟨i, rfl, Nat.le_refl _, fun h => by omega, Below.refl _ _⟩
        case round =>
          obtain ⟨k, rfl, hki, hk1, hb⟩ := hrel
          have hk1h := hid hk1
          have hbh := hid hb
          have hkih := hid hki
          by_cases h0 : 0 < k
          · obtain ⟨m, rfl⟩ : ∃ m, k = m + 1 := ⟨k - 1, by omega⟩
            have g0 : (0 : Int) < ((m + 1 : Nat) : Int) := by omega
            have g1 : (0 : Int) < (m : Int) + 1 := by omega
            obtain ⟨bq, oq, rfl, RQ⟩ := RW.out.row (by omega)
            have RQ2 := RQ.more hb
            have x0 := RQ2.at0 (i := m) (by omega) (v := .int .i64 (atR gpT (wantP ltId f i) m).id) rfl
            have v0 := (hb.cell (p := ⟨b, _, none⟩) hbb).trans y0
            have cc : ∀ (c oo : Nat) (v : Value), wr.cell? ⟨c, oo, none⟩ = some v → ∀ u : Later wr, u.val.cell? ⟨c, oo, none⟩ = some v := fun c oo v hv u => (u.cell c oo (cell_lt hv)).trans hv
            have a0 := cc _ _ _ x0
            have a1 := cc _ _ _ v0
            have hwp : IntKind.i64.wrap ((((m + 1 : Nat)) : Int) - 1) = (m : Int) := by rw [IntKind.wrap_i64]; omega
            have hwp2 : IntKind.i64.wrap ((m : Int) + 1 - 1) = (m : Int) := by rw [IntKind.wrap_i64]; omega
            have hwp3 : IntKind.i64.wrap (m : Int) = (m : Int) := by rw [IntKind.wrap_i64]; omega
            have hm0 : (0 : Int) ≤ (m : Int) := by omega
            have hmi : (m : Int) < (i : Int) := by omega
            have hi0 : (0 : Int) ≤ (i : Int) := by omega
            have hlt1' : (i : Int) < (n : Int) := hlt1
            have hmm := hid (show m ≤ i ∧ m + 1 ≤ i from ⟨by omega, hki⟩)
            have hL : ltId (f i) (atR gpT (wantP ltId f i) m) = decide ((f i).id < (atR gpT (wantP ltId f i) m).id) := rfl
            replace hL := hid hL
            clear cc x0 v0 RQ RQ2 hb hk1 hki h0
            generalize (f i).id = X at *
            generalize (atR gpT (wantP ltId f i) m).id = Y at *
            by_cases hXY : X < Y
            · have hL2 := hid (show ltId (f i) (atR gpT (wantP ltId f i) m) = true by rw [hL.out]; exact decide_eq_true hXY)
              go_wp2_with fail
              refine wp_region_late 15 (by kernel_rfl) (by kernel_rfl) ?_
              simp only [List.take_succ_cons, List.take_zero, List.drop_succ_cons, List.drop_zero]
              iterate 15 (go_big_quiet_step (fail))
              refine wpQuiet_nil ?_
              intro w3 h3'
              have h3 := late_out h3'
              have D := hid (hbh.out.trans (h3.mono hbh.out.size))
              clear h3' h3 a0 a1 hbh
              go_wp2_with fail
              go_roundw
              case rel => exact ⟨m, by go_num, hmm.out.1, fun _ => hL2.out, D.out⟩
              case measure => simp [intOf]
            · have hL2 := hid (show ltId (f i) (atR gpT (wantP ltId f i) m) = false by rw [hL.out]; exact decide_eq_false hXY)
              have hcf : (decide (X < Y)) = false := decide_eq_false hXY
              replace hXY := hid hXY
              go_wp2_with fail
              refine wp_region_late 15 (by kernel_rfl) (by kernel_rfl) ?_
              simp only [List.take_succ_cons, List.take_zero, List.drop_succ_cons, List.drop_zero]
              iterate 15 (go_big_quiet_step (fail))
              refine wpQuiet_nil ?_
              intro w3 h3'
              have h3 := late_out h3'
              have D := hid (hbh.out.trans (h3.mono hbh.out.size))
              clear h3' h3 a0 a1 hbh
              go_wp2_with fail
              go_meet
              exact ⟨m + 1, by go_num, hkih.out, hk1h.out, fun _ => by rw [Nat.add_sub_cancel]; exact hL2.out, D.out⟩
          · have g0 : ¬ (0 : Int) < (k : Int) := by omega
            obtain rfl : k = 0 := by omega
            clear hb hk1 hki h0
            go_wp2_with fail
            refine wp_region_late 15 (by kernel_rfl) (by kernel_rfl) ?_
            simp only [List.take_succ_cons, List.take_zero, List.drop_succ_cons, List.drop_zero]
            iterate 15 (go_big_quiet_step (fail))
            refine wpQuiet_nil ?_
            intro w3 h3'
            have h3 := late_out h3'
            have D := hid (hbh.out.trans (h3.mono hbh.out.size))
            clear h3' h3 hbh
            go_wp2_with fail
            go_meet
            exact ⟨0, rfl, Nat.zero_le _, hk1h.out, fun h => by omega, D.out⟩
      case rest =>
        obtain ⟨k, rfl, hki, hk1, hk2, hb⟩ := hcut
        have hst := hid (hws.out i k hki hk1 hk2)
        clear hk1 hk2
        have z0 := (hb.cell (p := ⟨b, _, none⟩) hbb).trans y0
        have z1 := (hb.cell (p := ⟨b, _, none⟩) hbb).trans y1
        have z2 := (hb.cell (p := ⟨b, _, none⟩) hbb).trans y2
        have z3 := (hb.cell (p := ⟨b, _, none⟩) hbb).trans y3
        have hb2 := hid hb
        have RW2 := hid (RowP.more RW.out hb)
        have hki1 : (k : Int) ≤ (i : Int) := by omega
        have hkc1 : (k : Int) ≤ (c : Int) := by omega
        have hkih := hid hki
        have hbw : b < wc.heap.size := Nat.lt_of_lt_of_le hbb hb.size
        clear hb y0 y1 y2 y3 hki
        go_upto_region 11 with fail
        go_cut [5] (fun v wx => ∃ (q' : Option Addr) (c' : Nat), v = .slice q' (i + 1) c' ∧ RowOwn gpT wx w0.heap.size (.slice q' (i + 1) c') (wantP ltId f (i + 1)) ∧ Below wc.heap.size wc wx)
        case first =>
          have hqq : (q = none ∧ c = 0) ∨ ∃ b o, q = some ⟨b, o, none⟩ := by
            rcases RowOwn.form Oh.out with ⟨hv, _⟩ | ⟨g, c', hv, _⟩
            · cases hv; exact .inl ⟨rfl, rfl⟩
            · rw [hwl.out] at hv; cases hv; exact .inr ⟨g, 0, rfl⟩
          have hl := hwl.out i
          have sl1 := hid (fun w => row_upto gpOk q i c k hkih.out hii.out.2.1 hqq w)
          obtain ⟨qb, sl2', slR'⟩ := row_behind gpOk q i c k hkih.out hii.out.2.1 hqq (wantP ltId f i) hl
          have sl2 := hid sl2'
          have slR := hid slR'
          have RL := hid (show RowOf gpT wc q (wantP ltId f i) by
            have h := RW2.out
            unfold RowOf
            rw [hl]
            exact h)
          clear sl2' slR' hqq hl
          refine wp_region_flow [1, 2, 3, 5, 6, 7, 8, 11, 12, 13] [0, 4, 9, 10, 14] 15 (fun k => if k = 4 then [0] else if k = 10 then [4, 9] else if k = 14 then [10] else []) (RowG gpT wc.heap.size fun j => if j = 4 then (wantP ltId f i).take k else if j = 9 then [f i] else if j = 10 then (wantP ltId f i).take k ++ [f i] else if j = 14 then (wantP ltId f i).take k ++ [f i] ++ (wantP ltId f i).drop k else []) ?A (by kernel_rfl) (by kernel_rfl) (by kernel_rfl) (rowG_sole _ _) (rowG_own _ _) ?hq ?hmake ?hend
          case hq =>
            intro S hN
            have cc : ∀ (c oo : Nat) (v : Value), wc.cell? ⟨c, oo, none⟩ = some v → ∀ u : LaterC wc S, u.val.cell? ⟨c, oo, none⟩ = some v := fun c oo v hv u => (u.h.cell (p := ⟨c, oo, none⟩) (cell_lt hv)).trans hv
            have a0 := cc _ _ _ z0
            have a1 := cc _ _ _ z1
            have a2 := cc _ _ _ z2
            have a3 := cc _ _ _ z3
            simp only [List.filterMap_cons, List.filterMap_nil, List.getElem?_toArray, List.getElem?_cons_succ, List.getElem?_cons_zero]
            change wpQuiet _ _ _ _ [_, _, _, _, _, _, _, _, _, _] _
            iterate 2 (go_big_quiet_step (fail))
            refine quiet_sl rfl rfl _ sl1.out ?_
            simp only [Act.put, List.setIfInBounds_toArray, List.set_cons_zero, List.set_cons_succ]
            iterate 4 (go_big_quiet_step (fail))
            iterate 2 (go_big_quiet_step (fail))
            refine quiet_sl rfl rfl _ sl2.out ?_
            simp only [Act.put, List.setIfInBounds_toArray, List.set_cons_zero, List.set_cons_succ]
            refine wpQuiet_nil ?_
            rfl
          case hmake =>
            intro k' o' hk' ho' vs wx hbx hG hd
            simp only [List.mem_cons, List.not_mem_nil, or_false] at hk'
            rcases hk' with rfl | rfl | rfl | rfl | rfl
            all_goals
              simp only [List.getElem?_cons_zero, List.getElem?_cons_succ, Option.some.injEq] at ho'
              subst ho'
            · refine MakeOf.value (.slice (some ⟨wx.heap.size, 0, none⟩) 0 0) (wx.alloc (.cells #[] 27)) (by simp [execOp, Act.eval, go_sem]) ⟨?_, ?_, ?_⟩
              · exact made_nil gpOk _ wx hbx.size
              · intro b hb; cases hb; exact .inl (Nat.le_refl _)
              · exact Sole.alloc _ _
            · have h0 : RowOwn gpT wx wc.heap.size (vs 0) [] := hG 0 (by simp)
              have hlt := hwl.out i
              have ht : ((wantP ltId f i).take k).length = k := by rw [List.length_take]; have := hkih.out; omega
              obtain ⟨v', w', hr, O', f1, f2⟩ := flow_append gpOk wc.heap.size 22 wx (vs 0) [] h0 q c ((wantP ltId f i).take k) (RowOf.take (RowP.more RL.out hbx) k (by rw [hlt]; exact hkih.out)) (by rw [ht]; show (0 + k) * 32 ≤ _; have := hkih.out; have := hii.out; omega) (by rw [ht]; unfold maxLen; have := hkih.out; have := hii.out; simp; omega) hbx.size
              rw [ht] at hr
              refine MakeOf.value v' w' (exec_append rfl (by simp [puts, Act.put, Act.eval]) (by simp [puts, Act.put, Act.eval]) hr) ⟨?_, ?_, ?_⟩
              · exact O'
              · intro b hb
                exact (f1 b hb).imp (fun h => h) fun h => ⟨0, by simp, h⟩
              · exact f2 _ fun b hb => ⟨0, by simp, hb⟩
            · refine MakeOf.value (.slice (some ⟨wx.heap.size, 0, none⟩) 1 1) (wx.alloc (.cells #[.int .i64 (f i).id, .int .u32 (f i).x, .int .u32 (f i).y, .string (f i).d] 27)) (by simp [execOp, Act.eval, puts, Act.put, go_sem]) ⟨?_, ?_, ?_⟩
              · exact made_one gpOk _ wx hbx.size (f i)
              · intro b hb; cases hb; exact .inl (Nat.le_refl _)
              · exact Sole.alloc _ _
            · have h4 : RowOwn gpT wx wc.heap.size (vs 4) ((wantP ltId f i).take k) := hG 4 (by simp)
              have h9 : RowOwn gpT wx wc.heap.size (vs 9) [f i] := hG 9 (by simp)
              have hlt := hwl.out i
              have ht : ((wantP ltId f i).take k).length = k := by rw [List.length_take]; have := hkih.out; omega
              obtain ⟨q9, c9, e9, k9, m9, R9⟩ := RowOwn.open gpOk h9
              obtain ⟨v', w', hr, O', f1, f2⟩ := flow_append gpOk wc.heap.size 22 wx (vs 4) _ h4 q9 c9 [f i] R9 (by rw [ht]; show (k + 1) * 32 ≤ _; have := hkih.out; have := hii.out; omega) (by rw [ht]; unfold maxLen; have := hkih.out; have := hii.out; simp; omega) hbx.size
              refine MakeOf.value v' w' (exec_append rfl (by simp [puts, Act.put, Act.eval]) (by simp [puts, Act.put, Act.eval]; exact e9) hr) ⟨?_, ?_, ?_⟩
              · exact O'
              · intro b hb
                exact (f1 b hb).imp (fun h => h) fun h => ⟨4, by simp, h⟩
              · exact f2 _ fun b hb => ⟨4, by simp, hb⟩
            · have h10 : RowOwn gpT wx wc.heap.size (vs 10) ((wantP ltId f i).take k ++ [f i]) := hG 10 (by simp)
              have hlt := hwl.out i
              have ht : ((wantP ltId f i).take k ++ [f i]).length = k + 1 := by rw [List.length_append, List.length_take]; have := hkih.out; simp; omega
              have hd2 : ((wantP ltId f i).drop k).length = i - k := by rw [List.length_drop, hlt]
              obtain ⟨v', w', hr, O', f1, f2⟩ := flow_append gpOk wc.heap.size 22 wx (vs 10) _ h10 qb (c - k) ((wantP ltId f i).drop k) (slR.out wx (RowP.more RL.out hbx)) (by rw [ht, hd2]; show (k + 1 + (i - k)) * 32 ≤ _; have := hkih.out; have := hii.out; omega) (by rw [ht, hd2]; unfold maxLen; have := hkih.out; have := hii.out; omega) hbx.size
              rw [hd2] at hr
              refine MakeOf.value v' w' (exec_append rfl (by simp [puts, Act.put, Act.eval]) (by simp [puts, Act.put, Act.eval]) hr) ⟨?_, ?_, ?_⟩
              · exact O'
              · intro b hb
                exact (f1 b hb).imp (fun h => h) fun h => ⟨10, by simp, h⟩
              · exact f2 _ fun b hb => ⟨10, by simp, hb⟩
          case hend =>
            intro vs w5 hb5 hG
            have h14 : RowOwn gpT w5 wc.heap.size (vs 14) ((wantP ltId f i).take k ++ [f i] ++ (wantP ltId f i).drop k) := hG 14 (by simp) (by simp)
            rw [← hst.out] at h14
            obtain ⟨q', c', e', k1, k2, _⟩ := RowOwn.open gpOk h14
            rw [hwl.out] at e'
            have hw0 : w0.heap.size ≤ wc.heap.size := Nat.le_trans Bh.out.size hb2.out.size
            have HR2 := hid (show ∃ (q' : Option Addr) (c' : Nat), vs 14 = .slice q' (i + 1) c' ∧ RowOwn gpT w5 w0.heap.size (.slice q' (i + 1) c') (wantP ltId f (i + 1)) ∧ Below wc.heap.size wc w5 from ⟨q', c', e', RowOwn.mono (by rw [← e']; exact h14) hw0, hb5⟩)
            clear h14 e' k1 k2 hb5 hG hw0
            simp only [puts, List.foldl_cons, List.foldl_nil, List.getElem?_toArray, List.getElem?_cons_succ, List.getElem?_cons_zero, Option.bind_some, Act.put, List.setIfInBounds_toArray, List.set_cons_succ, List.set_cons_zero, List.drop_succ_cons, List.drop_zero]
            generalize vs 14 = v14 at *
            go_wp2_with fail
            go_meet
            exact HR2.out
        case rest =>
          obtain ⟨q2, c2, rfl, O2, hb5⟩ := hcut
          obtain ⟨_, _, e2, k1, k2, _⟩ := RowOwn.open gpOk O2
          rw [hwl.out] at k1
          have O2h := hid O2
          have D5 := hid (below2 (below2 Bh.out hb2.out Bh.out.size) hb5 (Nat.le_trans Bh.out.size hb2.out.size))
          have t0 := (hb5.cell (p := ⟨b, _, none⟩) hbw).trans z0
          have hc2 := hid (show i + 1 ≤ c2 ∧ c2 ≤ maxLen by
            obtain ⟨q', c', hv, h1, h2, _⟩ := RowOwn.open gpOk O2
            rw [hwl.out] at hv h1
            cases hv
            exact ⟨h1, h2⟩)
          have hi0 : (0 : Int) ≤ (i : Int) := by omega
          have hi57 : (i : Int) ≤ 4398046511104 := by omega
          have hfst : ∀ c : Prop, [Decidable c] → (c ↔ (fstI f id i < 0 ∧ (f i).id = id)) → fstI f id (i + 1) = if c then (i : Int) else fstI f id i := fun c _ hc => by
            show (if fstI f id i < 0 ∧ (f i).id = id then _ else _) = _
            by_cases h : c
            · rw [if_pos h, if_pos (hc.1 h)]
            · rw [if_neg h, if_neg (fun x => h (hc.2 x))]
          have hfh := hid (fun (h : fstI f id i < 0 ∧ (f i).id = id) => (show fstI f id (i + 1) = (i : Int) by show (if fstI f id i < 0 ∧ (f i).id = id then _ else _) = _; rw [if_pos h]))
          have hfn := hid (fun (h : ¬ (fstI f id i < 0 ∧ (f i).id = id)) => (show fstI f id (i + 1) = fstI f id i by show (if fstI f id i < 0 ∧ (f i).id = id then _ else _) = _; rw [if_neg h]))
          clear hfst O2 hb5 hb2 z0 z1 z2 z3 k1 k2 e2 RW2 RW hst Oh Bh hkih
          generalize (f i).id = X at *
          by_cases hneg : fstI f id i < 0
          · have hneg1 : (decide (fstI f id i < 0)) = true := decide_eq_true hneg
            by_cases heq : X = id
            · have heq1 : (X == id) = true := by simp [heq]
              have hf2 := hid (hfh.out ⟨hneg, heq⟩)
              replace heq := hid heq
              replace hneg := hid hneg
              generalize fstI f id i = a at *
              go_wp2_with fail
              go_roundw
              case rel => exact ⟨i + 1, q2, c2, rfl, by rw [hf2.out], by go_num, hii.out.1, hc2.out.1, hc2.out.2, O2h.out, D5.out⟩
              case measure => have := hii.out; simp [intOf]; omega
            · have heq1 : (X == id) = false := by simp [heq]
              have hf2 := hid (hfn.out (fun h => heq h.2))
              replace heq := hid heq
              replace hneg := hid hneg
              generalize fstI f id i = a at *
              go_wp2_with fail
              go_roundw
              case rel => exact ⟨i + 1, q2, c2, rfl, by rw [hf2.out], by go_num, hii.out.1, hc2.out.1, hc2.out.2, O2h.out, D5.out⟩
              case measure => have := hii.out; simp [intOf]; omega
          · have hneg1 : (decide (fstI f id i < 0)) = false := decide_eq_false hneg
            have hf2 := hid (hfn.out (fun h => hneg h.1))
            replace hneg := hid hneg
            generalize fstI f id i = a at *
            go_wp2_with fail
            go_roundw
            case rel => exact ⟨i + 1, q2, c2, rfl, by rw [hf2.out], by go_num, hii.out.1, hc2.out.1, hc2.out.2, O2h.out, D5.out⟩
            case measure => have := hii.out; simp [intOf]; omega
    · have hlt1 : ¬ (i : Int) < (n : Int) := by omega
      obtain rfl : i = n := by omega
      have hcm2 := hid (show i ≤ c ∧ c ≤ maxLen from ⟨hic, hcm⟩)
      obtain ⟨WY, rfl⟩ : ∃ WY, WY = wr := ⟨_, rfl⟩
      have hBW := hid (below2 B0.out hb B0.out.size)
      clear O hb hin hic hcm hlt B0
      go_wp2_with fail
      go_loopw [9] (fun v wx => ∃ k : Nat, v = .int .i64 (k : Int) ∧ 1 ≤ k ∧ (k ≤ i ∨ k = 1) ∧ Below WY.heap.size WY wx) (fun v _ => i - (intOf v).toNat)
      case atStart => exact ⟨1, by go_num, Nat.le_refl _, .inr rfl, Below.refl _ _⟩
      case round =>
        obtain ⟨k, rfl, hk1, hk2, hb⟩ := hrel
        by_cases hlt : k < i
        · have hlt1 : (k : Int) < (i : Int) := by omega
          obtain ⟨m, rfl⟩ : ∃ m, k = m + 1 := ⟨k - 1, by omega⟩
          obtain ⟨b, o, rfl, R0⟩ := HR.out.row (by omega)
          have R1 := (R0.below hBW.out R0.lt).more hb
          have x0 := R1.at0 (i := m) (by omega) (v := .int .i64 (f m).id) rfl
          have x1 := R1.at1 (i := m) (by omega) (v := .int .u32 (f m).x) rfl
          have x2 := R1.at2 (i := m) (by omega) (v := .int .u32 (f m).y) rfl
          have x3 := R1.at3 (i := m) (by omega) (v := .string (f m).d) rfl
          have y0 := R1.at0 hlt (v := .int .i64 (f (m + 1)).id) rfl
          have y1 := R1.at1 hlt (v := .int .u32 (f (m + 1)).x) rfl
          have y2 := R1.at2 hlt (v := .int .u32 (f (m + 1)).y) rfl
          have y3 := R1.at3 hlt (v := .string (f (m + 1)).d) rfl
          have cc : ∀ (c oo : Nat) (v : Value), wr.cell? ⟨c, oo, none⟩ = some v → ∀ u : Later wr, u.val.cell? ⟨c, oo, none⟩ = some v := fun c oo v hv u => (u.cell c oo (cell_lt hv)).trans hv
          have a0 := cc _ _ _ x0
          have a1 := cc _ _ _ x1
          have a2 := cc _ _ _ x2
          have a3 := cc _ _ _ x3
          have b0 := cc _ _ _ y0
          have b1 := cc _ _ _ y1
          have b2 := cc _ _ _ y2
          have b3 := cc _ _ _ y3
          have hwp : IntKind.i64.wrap ((((m + 1 : Nat)) : Int) - 1) = (m : Int) := by rw [IntKind.wrap_i64]; omega
          have hwp2 : IntKind.i64.wrap ((m : Int) + 1 - 1) = (m : Int) := by rw [IntKind.wrap_i64]; omega
          have hwp3 : IntKind.i64.wrap (m : Int) = (m : Int) := by rw [IntKind.wrap_i64]; omega
          have hm0 : (0 : Int) ≤ (m : Int) := by omega
          have hmi : (m : Int) < (i : Int) := by omega
          have hq0 : (0 : Int) ≤ (m : Int) + 1 := by omega
          have hqi : (m : Int) + 1 < (i : Int) := by omega
          have htn : ((m : Int) + 1).toNat = m + 1 := by omega
          have hm57 : (m : Int) ≤ 4398046511104 := by omega
          have hmm := hid (show m + 1 + 1 ≤ i from hlt)
          have hbh := hid hb
          have KLL := hid (fun w => KL.out (f m) (f (m + 1)) w)
          clear cc x0 x1 x2 x3 y0 y1 y2 y3 R0 R1 hb hk1 hk2 hlt
          generalize f m = X at *
          generalize f (m + 1) = Y at *
          by_cases hXY : X.id < Y.id
          · rw [decide_eq_true hXY] at KLL
            go_wp2_with fail
            refine wp_region_late 22 (by kernel_rfl) (by kernel_rfl) ?_
            simp only [List.take_succ_cons, List.take_zero, List.drop_succ_cons, List.drop_zero]
            iterate 22 (go_big_quiet_step ((with_reducible exact late_call (KLL.out _))))
            refine wpQuiet_nil ?_
            intro w3 h3'
            have h3 := late_out h3'
            have D := hid (hbh.out.trans (h3.mono hbh.out.size))
            clear h3' h3 a0 a1 a2 a3 b0 b1 b2 b3 hbh
            go_wp2_with fail
            go_roundw
            case rel => exact ⟨m + 1 + 1, by go_num, by omega, .inl hmm.out, D.out⟩
            case measure => have := hmm.out; simp [intOf]; omega
          · rw [decide_eq_false hXY] at KLL
            have hcf : (decide (X.id < Y.id)) = false := decide_eq_false hXY
            replace hXY := hid hXY
            go_wp2_with fail
            refine wp_region_late 22 (by kernel_rfl) (by kernel_rfl) ?_
            simp only [List.take_succ_cons, List.take_zero, List.drop_succ_cons, List.drop_zero]
            iterate 22 (go_big_quiet_step ((with_reducible exact late_call (KLL.out _))))
            refine wpQuiet_nil ?_
            intro w3 h3'
            have h3 := late_out h3'
            have D := hid (hbh.out.trans (h3.mono hbh.out.size))
            clear h3' h3 a0 a1 a2 a3 b0 b1 b2 b3 hbh
            go_wp2_with fail
            go_roundw
            case rel => exact ⟨m + 1 + 1, by go_num, by omega, .inl hmm.out, D.out⟩
            case measure => have := hmm.out; simp [intOf]; omega
        · have hlt1 : ¬ (k : Int) < (i : Int) := by omega
          have D := hid (below2 hBW.out hb hBW.out.size)
          have R1 := RowP.more HR.out D.out
          have KS1 := hid (KS.out wr R1)
          have O1 := hid (Oh.out.more hb)
          clear hb R1 hlt
          go_wp2_with fail
          refine KS1.out.mono ?_
          rintro e w5 ⟨q5, c5, rfl, O5, hb5⟩
          have O2 := O1.out.more hb5
          obtain ⟨q6, c6, e6, k6, m6, R6⟩ := RowOwn.open gpOk O5
          obtain ⟨q7, c7, e7, k7, m7, R7⟩ := RowOwn.open gpOk O2
          have hl5 : (stS ltId (ptL i f)).length = i := hwl.out i
          rw [hl5] at e6 k6
          rw [hwl.out] at e7 k7
          cases e6
          cases e7
          have R6' : RowP w5 q5 4 (stS ltId (ptL i f)).length (fun k => pcells (atR gpT (wantP ltId f i) k)) := R6
          have R7' : RowP w5 q 4 (wantP ltId f i).length (fun k => pcells (atR gpT (wantP ltId f i) k)) := R7
          rw [hl5] at R6'
          rw [hwl.out] at R7'
          have KP1 := hid (KP.out q5 c5 q c _ k6 m6 k7 m7 w5 R6' R7')
          have D5 := hid (below2 D.out hb5 D.out.size)
          clear O5 O2 R6 R7 R6' R7' hb5 KS1 O1
          go_wp2_with fail
          refine KP1.out.mono ?_
          rintro e w6 ⟨rfl, hb6⟩
          have D6 := hid (below2 D5.out hb6 D5.out.size)
          have KF1 := hid (KF.out w6 (RowP.more HR.out D6.out))
          clear hb6 KP1
          go_wp2_with fail
          refine KF1.out.mono ?_
          rintro e w7 ⟨rfl, hb7⟩
          have D7 := hid (below2 D6.out hb7 D6.out.size)
          clear hb7 KF1
          generalize fstI f id i = a at *
          go_wp2
          go_ret
          exact ⟨by simp, D7.out⟩
end Go.Proofs.Ytfijkbgbhaoilaa

/-
  A slice of points that comes in: what it holds, how long it may be.
-/


namespace Go.Proofs.Ytfijkbgbhaoilaa
open Go.ChangeShapes Go.WideShapes Go.ChangeAt Go.RowKit Go.Joins Go.Deep
set_option linter.unusedVariables false

theorem ptsd_of {H : Type} {enc : TypeId × Value → H} {W : World} {b0 : Nat} {v : Value} {d : DataW H} {p : List MemPlace} (hv : Value.okWide Try.prog W .any b0 22 v) (h : DataW.Trod enc Try.prog W 0 (fun _ => true) true 22 v d p) :
    ∃ (n : Nat) (f : Nat → Pt) (q : Option Addr) (cap : Nat), v = .slice q n cap ∧ n ≤ cap ∧ cap ≤ maxLen ∧ (∀ i, i < n → (f i).ok) ∧ RowP W q 4 n (fun i => pcells (f i)) ∧ (n = 0 ∨ ∃ el sp, d = .slice el sp ∧ n ≤ el.length + sp.length) := by
  obtain ⟨n, f, hok, q, cap, rfl, h1, h2, h3⟩ := pts_of hv h
  refine ⟨n, f, q, cap, rfl, h1, h2, hok, h3, ?_⟩
  obtain ⟨fuel, hf⟩ := h
  rcases open_slice Try.underlying22 hf with ⟨h0, _⟩ | ⟨a, len, cap', m, k, D, Pl, hcs, hb, hl, hm, hmm, hx, hi⟩
  · simp [Value.cells] at h0
    exact .inl h0.2.1
  · simp [Value.cells] at hcs
    obtain ⟨_, rfl, rfl⟩ := hcs
    refine .inr ⟨_, _, congrArg Prod.fst hx, ?_⟩
    simp
theorem bytes_pt : Try.prog.bytesOf 27 = 32 := by kernel_rfl
theorem pts_reach {H : Type} {ts : List TypeId} {ds : List (DataW H)} (h : (DataW.weightsEach Try.prog ts ds).all (· ≤ reachBytes) = true) {j : Nat} {d : DataW H} {n : Nat} (ht : ts[j]? = some 22) (hd : ds[j]? = some d) (hl : n = 0 ∨ ∃ el sp, d = .slice el sp ∧ n ≤ el.length + sp.length) : n ≤ 4398046511104 := by
  rcases hl with rfl | ⟨el, sp, rfl, hl⟩
  · omega
  · have := sized_slice h ht hd Try.underlying22
    rw [bytes_pt] at this
    simp only [reachBytes] at this
    omega
end Go.Proofs.Ytfijkbgbhaoilaa

namespace Go.Proofs.Ytfijkbgbhaoilaa
open Go.ChangeShapes Go.WideShapes Go.ChangeAt Go.RowKit
set_option linter.unusedVariables false
set_option maxRecDepth 100000

theorem pointSorts_lifted (os : Os) (started : os.Started) (H : Type) (enc : TypeId × Value → H) :
    ReturnsInHanded {} Try.checked os 4 .any (Rows.pointSortsSpec.pre6 enc Try.prog Try.f4 [] false) (Rows.pointSortsSpec.post enc Try.prog Try.f4 false true false false) :=
  lift_sized (C := Try.checked) (s := Rows.pointSortsSpec) own (by kernel_rfl) Try.func4 laidOut rfl rfl Try.underlying4 (by kernel_rfl)
    (fun H ds hd => by match ds, hd with | [d1, d2], _ => rfl) os started H enc
    (ChangeSpec.witness6 (enc := enc) (C := Try.checked) false ⟨#[], #[.slice none 0 0, .int .i64 0], []⟩ 8 (by kernel_rfl) (by kernel_rfl) (by kernel_rfl) (by kernel_rfl))
    (fun W base args ds ps hval0 hA0 hsz0 => by
      have hval : ∀ (j : Nat) t v, Try.f4.params[j]? = some t → args[j]? = some v → Value.okWide Try.prog W .any base t v := hval0
      have hA : DataW.TrodAll enc Try.prog W 0 (fun _ => true) true Try.f4.params.toList args.toList ds ps := hA0
      have hsz : (DataW.weightsEach Try.prog (Try.f4.params.toList ++ Rows.pointSortsSpec.plain.varTypes Try.prog) (ds ++ [])).all (· ≤ reachBytes) = true := hsz0
      rw [Try.params4] at hA hval hsz
      obtain ⟨v0, s0, d0, e0, p0, q0, g0, rfl, h0, r0⟩ := args_consd hA
      obtain ⟨v1, s1, d1, e1, p1, q1, rfl, rfl, h1, r1⟩ := args_consd r0
      obtain ⟨rfl, rfl, _⟩ := trodAll_nil r1
      obtain rfl : args = #[v0, v1] := by cases args; simp_all
      obtain ⟨n, f, q, cap, rfl, n1, n2, nok, Rn, nd⟩ := ptsd_of (hval 0 22 v0 rfl rfl) h0
      have nr := pts_reach hsz (j := 0) rfl rfl nd
      obtain ⟨z, rfl, _, _, _⟩ := open_int Try.underlying3 (hval 1 3 v1 rfl rfl) h1
      exact pointSorts q n cap f z nr n1 n2 W Rn)

theorem pointSorts_holds : Rows.PointSortsSaid :=
  OpenClaim.holds_of_wide 4 Try.f4 rfl rfl rfl rfl rfl rfl rfl ⟨rfl, rfl, rfl, rfl, rfl⟩ rfl rfl rfl rfl rfl (by kernel_rfl) Try.func4 (by kernel_rfl)
    (of_decide_eq_true (by kernel_rfl)) (by unfold Func.isWrapper; rw [if_neg (of_decide_eq_false (by kernel_rfl))]; exact ⟨rfl, rfl⟩)
    (fun os started H enc _ => pointSorts_lifted os started H enc)
#print axioms pointSorts_holds
end Go.Proofs.Ytfijkbgbhaoilaa
