/-
  Layer 15: a clone has the same numbers, and goes its own way.
-/
import Derived.Test.YtahdhgaoofpefaaPoolRow
namespace Go.Proofs.Ytahdhgaoofpefaa
open Go.RowKit Go.Conc
set_option linter.unusedVariables false
set_option linter.unusedSimpArgs false

set_option maxRecDepth 100000 in
set_option maxHeartbeats 4000000 in
theorem poolApart (p : Option Addr) (cap n : Nat) (g : Nat → Int) (h1 : n ≤ cap) (h2 : cap ≤ maxLen) (x : Int) (w : World) (HA : RowP w p 1 n (fun i => [.int .i64 (g i)])) :
    Calls Try.prog 5 #[.slice p n cap, .int .i64 x] w fun e w' => e = .returned (.bool true) ∧ Below w.heap.size w w' := by
  obtain ⟨m, hm, hmn⟩ : ∃ m, (31 < n ∧ m = 31 ∨ ¬ 31 < n ∧ m = n) ∧ m ≤ n ∧ m ≤ 31 := ⟨min n 31, by omega, by omega⟩
  obtain ⟨hmn, hm31⟩ := hmn
  have hHA := hid HA
  have h12 := hid (And.intro h1 h2)
  have hl63 : (cap : Int) ≤ 9223372036854775807 := by unfold maxLen at h2; omega
  have h1' : (n : Int) ≤ (cap : Int) := by omega
  clear HA h1 h2
  replace hm := hid hm
  go_enter Try.func5, Try.ntmps5
  go_wp2_with fail
  refine (alive15 _).mono ?_
  rintro e w1 ⟨rfl, hb1⟩
  have HA1 := hid ((hHA.out.more hb1).take hmn)
  have hb1h := hid hb1
  clear hHA hb1
  go_upto_if 11 with (fail)
  go_cut [0] (fun s0 wx => s0 = .slice p m cap ∧ wx = w1)
  case first =>
    rcases hm.out with ⟨hn, rfl⟩ | ⟨hn, rfl⟩
    · have hn' : (31 : Int) < (n : Int) := by omega
      have hn2 : (31 : Int) ≤ (n : Int) := by omega
      have hn3 : (31 : Int) ≤ (cap : Int) := by omega
      have hn4 : 31 ≤ cap := by omega
      go_wp2_with fail
      go_meet
      case rel => exact ⟨rfl, rfl⟩
    · have hn' : ¬ (31 : Int) < (m : Int) := by omega
      go_wp2_with fail
      go_meet
      case rel => exact ⟨rfl, rfl⟩
  case rest =>
    obtain ⟨rfl, rfl⟩ := hcut
    have hmc : m ≤ cap := by have := h12.out.1; omega
    have hcm : cap ≤ maxLen := h12.out.2
    obtain ⟨L, hL⟩ : ∃ L, intsL g m = L := ⟨_, rfl⟩
    have hLm : L.length = m := by rw [← hL, intsL_length]
    have KN := newN_any p cap m g hmc hcm wc HA1.out
    have HB1 := hid HA1.out.ints
    rw [hL] at KN HB1
    rw [List.take_of_length_le (by omega)] at KN
    have KNh := hid KN
    have hcmh := hid (And.intro hmc hcm)
    have hLmh := hid hLm
    clear KN hL HA1 hmc hcm hLm
    go_wp2_with fail
    refine KNh.out.mono ?_
    rintro e w2 ⟨p1, c1, rfl, hp1, hc1, P1, hb2⟩
    have KC := hid (clone_any p1 c1 L w2 P1)
    have hb2h := hid hb2
    have hp1s := P1.box.lt
    have hc1s := P1.chan.lt
    clear KNh P1 hb2
    go_wp2_with fail
    refine KC.out.mono ?_
    rintro e w3 ⟨p2, c2, rfl, hp2, hc2, P2, P1, S3⟩
    have KP := hid (put_any p2 c2 L x w3 P2)
    rw [hLmh.out, if_pos (by omega : m < 32), decide_eq_true (by omega : m < 32)] at KP
    have P1h := hid P1
    have S3h := hid S3
    have hp2s := P2.box.lt
    have hc2s := P2.chan.lt
    have hs3 := S3.size
    clear KC P2 P1 S3
    go_wp2_with fail
    refine KP.out.mono ?_
    rintro e w4 ⟨rfl, P2, S4⟩
    have P1' := P1h.out.sole S4 (by omega) (by omega)
    have KA := hid (all_any p1 c1 L w4 P1')
    have P2h := hid P2
    have S4h := hid S4
    have hs4 := S4.size
    clear KP P1h P2 S4 P1'
    go_wp2_with fail
    refine KA.out.mono ?_
    rintro e w5 ⟨v5, rfl, O5, P1, S5⟩
    have S15 : Sole (fun k => wc.heap.size ≤ k) wc w5 := (Sole.of_below hb2h.out (fun k _ h => h)).trans ((S3h.out.mono (fun k _ h => by omega)).trans ((S4h.out.mono (fun k _ h => by omega)).trans (S5.mono (fun k _ h => by omega))))
    have HB5 := HB1.out.drop_sole S15 (fun k hk h => by omega)
    have KI := intsSame_any L v5 _ w5 O5 p cap (by rw [hLmh.out]; exact hcmh.out.1) hcmh.out.2 HB5
    rw [hLmh.out] at KI
    have KIh := hid KI
    have HB5h := hid HB5
    have P1h := hid P1
    have P2h := hid (P2h.out.sole S5 (by omega) (by omega))
    have S15h := hid S15
    have hs5 := S5.size
    clear KA KI HB5 O5 P1 S5 S15 S3h S4h hb2h
    go_wp2_with fail
    refine KIh.out.mono ?_
    rintro e w6 ⟨rfl, hb6⟩
    have KA := hid (all_any p2 c2 (L ++ [x]) w6 (P2h.out.more hb6))
    have P1h := hid (P1h.out.more hb6)
    have S16h := hid (S15h.out.trans (Sole.made hb6))
    have hs6 := hb6.size
    clear KIh HB5h P2h S15h hb6
    go_wp2_with fail
    refine KA.out.mono ?_
    rintro e w7 ⟨v7, rfl, O7, P2, S7⟩
    have P1h := hid (P1h.out.sole S7 (by omega) (by omega))
    have S17 := S16h.out.trans (S7.mono (fun k _ h => by omega))
    have HB7 := HB1.out.drop_sole S17 (fun k hk h => by omega)
    have hs7 := S7.size
    have hbe : Below w7.heap.size w7 (w7.alloc (.cells #[] 3)) := (Below.refl _ _).alloc (Nat.le_refl _) _
    have OE : IntsOwn (w7.alloc (.cells #[] 3)) w7.heap.size (.slice (some ⟨w7.heap.size, 0, none⟩) 0 0) [] := World.ownsRow_made w7 #[] 0 (Nat.le_refl _) (Nat.zero_le _) rfl
    obtain ⟨v9, w9, hA1, O9, G9⟩ := append_ints w7.heap.size 22 _ _ [] OE p cap L (HB7.more hbe) (by rw [hLmh.out]; simp; omega) hbe.size
    rw [hLmh.out] at hA1
    have hb9 : Below w7.heap.size w7 w9 := hbe.grown G9 hbe.size (fun k e => by simp [Value.ownBlock] at e; omega)
    rw [List.nil_append] at O9
    obtain ⟨q9, cc9, rfl, d1, d2, R9⟩ := O9.open
    have hbx : Below w9.heap.size w9 (w9.alloc (.cells #[.int .i64 x] 3)) := (Below.refl _ _).alloc (Nat.le_refl _) _
    obtain ⟨v10, w10, hA2, O10, G10⟩ := append_ints w7.heap.size 22 _ _ L (O9.more hbx) (some ⟨w9.heap.size, 0, none⟩) 1 [x] (row_ints w9 [x] 3) (by rw [hLmh.out]; simp; omega) (by have := hb9.size; have := hbx.size; omega)
    have hb10 : Below w7.heap.size w9 w10 := (hbx.mono hb9.size).grown G10 (by have := hb9.size; have := hbx.size; omega) (fun k e => ((O9.more hbx).lt k e).1)
    have hb710 := hb9.trans hb10
    have P10 := hid (P1h.out.more hb710)
    have O7' := hid (O7.more hb710)
    have O10h := hid O10
    have S10 := hid (S17.trans (Sole.made hb710))
    have hA1h := hA1
    rw [show [x].length = 1 from rfl] at hA2
    have G9h := hid G9
    clear KA P2 S7 S17 HB7 hbe OE hb9 hbx hb10 hb710 O9 O10 R9 P1h O7 S16h HB1 hA1h G10
    go_wp2_with (at_builtin; first | refine wpList_append_g _ rfl _ _ _ _ rfl _ _ rfl rfl _ _ hA1 ?_ | refine wpList_append_g _ rfl _ _ _ _ rfl _ _ rfl rfl _ _ hA2 ?_)
    refine (intsOwn_any (L ++ [x]) v7 v10 _ _ w10 O7'.out O10h.out).mono ?_
    rintro e w11 ⟨rfl, hb11⟩
    have P11 := P10.out.more hb11
    have KL := hid (len_any p1 c1 L w11 P11)
    rw [hLmh.out] at KL
    have S11 := hid (S10.out.trans (Sole.made hb11))
    clear hA1 hA2 P10 O7' O10h S10 hb11 P11
    go_wp2_with fail
    refine KL.out.mono ?_
    rintro e w12 ⟨rfl, rfl⟩
    have hfin := hid (hb1h.out.trans (S11.out.below hb1h.out.size (fun k hk => by have := hb1h.out.size; omega)))
    go_wp2_with fail
    go_ret
    exact ⟨by simp, hfin.out⟩
end Go.Proofs.Ytahdhgaoofpefaa
