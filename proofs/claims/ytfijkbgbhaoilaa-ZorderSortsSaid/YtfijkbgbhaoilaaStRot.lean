/-
  The library's stable sort, at points: rotate.
-/
import Derived.Test.YtfijkbgbhaoilaaStSwap
namespace Go.Proofs.Ytfijkbgbhaoilaa
open Go.RowKit
set_option linter.unusedVariables false
set_option linter.unusedSimpArgs false

set_option maxRecDepth 100000 in
set_option maxHeartbeats 4000000 in
theorem rotate_any (base b n cap s m e : Nat) (F : Nat → Pt) (g : Nat → Nat) (h1 : s < m) (h2 : m < e) (h3 : e ≤ n) (hsm : n ≤ 144115188075855872) (cv : Value) (w : World) (H : StR w base b n cap F g) :
    Calls Try.prog 38 #[.slice (some ⟨b, 0, none⟩) n cap, .int .i64 (s : Int), .int .i64 (m : Int), .int .i64 (e : Int), cv] w fun x w' => x = .returned (.tuple #[]) ∧ ∃ h, Rot g h s m e ∧ StR w' base b n cap F h ∧ Sole (fun k => k = b) w w' := by
  have KS := hid (fun i j k g h1 h2 w H => swapRange_any base b n cap i j k F g h1 h2 hsm cv w H)
  have HH := hid H
  have hb := hid (show s < m ∧ m < e ∧ e ≤ n ∧ n ≤ 144115188075855872 from ⟨h1, h2, h3, hsm⟩)
  obtain ⟨i0, hi0⟩ : ∃ i0, i0 = m - s := ⟨_, rfl⟩
  obtain ⟨j0, hj0⟩ : ∃ j0, j0 = e - m := ⟨_, rfl⟩
  have hw1 : IntKind.i64.wrap ((m : Int) - (s : Int)) = (i0 : Int) := by rw [hi0]; rw [IntKind.wrap_i64]; omega
  have hw2 : IntKind.i64.wrap ((e : Int) - (m : Int)) = (j0 : Int) := by rw [hj0]; rw [IntKind.wrap_i64]; omega
  have hij := hid (show i0 = m - s ∧ j0 = e - m from ⟨hi0, hj0⟩)
  clear H h1 h2 h3 hsm hi0 hj0
  go_enter Try.func38, Try.ntmps38
  go_wp2_with fail
  go_loopw [10, 11] (fun u v wr => ∃ (i j : Nat) (h : Nat → Nat), u = .int .i64 (i : Int) ∧ v = .int .i64 (j : Int) ∧ 0 < i ∧ 0 < j ∧ i ≤ m - s ∧ j ≤ e - m ∧ Hid (∀ t, Rot h t (m - i) m (m + j) → Rot g t s m e) ∧ StR wr base b n cap F h ∧ Sole (fun k => k = b) w wr) (fun u v _ => (intOf u).toNat + (intOf v).toNat)
  case atStart =>
    obtain ⟨b1, b2, b3, b4⟩ := hb.out
    obtain ⟨c1, c2⟩ := hij.out
    refine ⟨i0, j0, g, rfl, rfl, by omega, by omega, by omega, by omega, hid fun t ht => ?_, HH.out, Sole.refl _ _⟩
    rw [show m - i0 = s by omega, show m + j0 = e by omega] at ht
    exact ht
  case round =>
    obtain ⟨i, j, h, rfl, rfl, hi, hj, hi2, hj2, T, H, S⟩ := hrel
    obtain ⟨b1, b2, b3, b4⟩ := hb.out
    have Hh := hid H
    have Sh := hid S
    clear H S HH hw1 hw2 hij
    obtain ⟨a, ha⟩ : ∃ a, a = m - i := ⟨_, rfl⟩
    have hwa : IntKind.i64.wrap ((m : Int) - (i : Int)) = (a : Int) := by rw [ha]; rw [IntKind.wrap_i64]; omega
    by_cases hne : i = j
    · subst hne
      have hnb : ((i : Int) != (i : Int)) = false := by simp
      have hA := hid ha
      have hB := hid (show i ≤ m ∧ a + i ≤ m ∧ m + i ≤ n ∧ s ≤ a from ⟨by omega, by omega, by omega, by omega⟩)
      clear ha b1 b2 b3 b4 hi hj hi2 hj2
      go_wp2_with fail
      refine (KS.out a m i h hB.out.2.1 hB.out.2.2.1 _ Hh.out).mono ?_
      rintro x w1 ⟨rfl, t, W, H1, S1⟩
      have H1h := hid H1
      have S1h := hid (Sh.out.trans S1)
      have Wh := hid W
      clear H1 S1 W
      go_wp2
      go_end0
      refine ⟨rfl, t, T.out t ?_, H1h.out, S1h.out⟩
      have W := Wh.out
      rw [hA.out] at W
      exact rot_half hB.out.1 W
    · have hnb : ((i : Int) != (j : Int)) = true := by simp; omega
      by_cases hgt : j < i
      · have hgt1 : (j : Int) < (i : Int) := by omega
        obtain ⟨d, hd⟩ : ∃ d, d = i - j := ⟨_, rfl⟩
        have hwd : IntKind.i64.wrap ((i : Int) - (j : Int)) = (d : Int) := by rw [hd]; rw [IntKind.wrap_i64]; omega
        have hA := hid (show a = m - i ∧ d = i - j from ⟨ha, hd⟩)
        have hB := hid (show a + j ≤ m ∧ m + j ≤ n ∧ i ≤ m ∧ 0 < d ∧ d ≤ m - s ∧ 0 < j ∧ j < i ∧ j ≤ e - m from ⟨by omega, by omega, by omega, by omega, by omega, hj, hgt, hj2⟩)
        clear ha hd b1 b2 b3 b4 hi hj hi2 hj2
        go_wp2_with fail
        refine (KS.out a m j h hB.out.1 hB.out.2.1 _ Hh.out).mono ?_
        rintro x w1 ⟨rfl, t, W, H1, S1⟩
        have H1h := hid H1
        have S1h := hid (Sh.out.trans S1)
        have Wh := hid W
        clear H1 S1 W
        go_wp2_with fail
        go_roundw
        case rel =>
          refine ⟨d, j, t, rfl, rfl, hB.out.2.2.2.1, hB.out.2.2.2.2.2.1, hB.out.2.2.2.2.1, hB.out.2.2.2.2.2.2.2, hid fun q hq => T.out q ?_, H1h.out, S1h.out⟩
          have W := Wh.out
          rw [hA.out.1] at W
          rw [hA.out.2] at hq
          exact rot_left hB.out.2.2.2.2.2.1 hB.out.2.2.2.2.2.2.1 hB.out.2.2.1 W hq
        case measure => have := hB.out; have := hA.out; simp [intOf]; omega
      · have hgt1 : ¬ (j : Int) < (i : Int) := by omega
        obtain ⟨d, hd⟩ : ∃ d, d = j - i := ⟨_, rfl⟩
        obtain ⟨c, hc⟩ : ∃ c, c = m + j := ⟨_, rfl⟩
        obtain ⟨f, hf⟩ : ∃ f, f = m + j - i := ⟨_, rfl⟩
        have hwd : IntKind.i64.wrap ((j : Int) - (i : Int)) = (d : Int) := by rw [hd]; rw [IntKind.wrap_i64]; omega
        have hwc : IntKind.i64.wrap ((m : Int) + (j : Int)) = (c : Int) := by rw [hc]; rw [IntKind.wrap_i64]; omega
        have hwf : IntKind.i64.wrap ((c : Int) - (i : Int)) = (f : Int) := by rw [hf, hc]; rw [IntKind.wrap_i64]; omega
        have hA := hid (show a = m - i ∧ d = j - i ∧ f = m + j - i from ⟨ha, hd, hf⟩)
        have hB := hid (show a + i ≤ f ∧ f + i ≤ n ∧ i ≤ m ∧ 0 < d ∧ d ≤ e - m ∧ 0 < i ∧ i < j ∧ i ≤ m - s from ⟨by omega, by omega, by omega, by omega, by omega, hi, by omega, hi2⟩)
        clear ha hd hc hf b1 b2 b3 b4 hi hj hi2 hj2
        go_wp2_with fail
        refine (KS.out a f i h hB.out.1 hB.out.2.1 _ Hh.out).mono ?_
        rintro x w1 ⟨rfl, t, W, H1, S1⟩
        have H1h := hid H1
        have S1h := hid (Sh.out.trans S1)
        have Wh := hid W
        clear H1 S1 W
        go_wp2_with fail
        go_roundw
        case rel =>
          refine ⟨i, d, t, rfl, rfl, hB.out.2.2.2.2.2.1, hB.out.2.2.2.1, hB.out.2.2.2.2.2.2.2, hB.out.2.2.2.2.1, hid fun q hq => T.out q ?_, H1h.out, S1h.out⟩
          have W := Wh.out
          rw [hA.out.1, hA.out.2.2] at W
          rw [hA.out.2.1] at hq
          exact rot_right hB.out.2.2.2.2.2.1 hB.out.2.2.2.2.2.2.1 hB.out.2.2.1 W hq
        case measure => have := hB.out; have := hA.out; simp [intOf]; omega
end Go.Proofs.Ytfijkbgbhaoilaa
