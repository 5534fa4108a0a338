/-
  Layer 27: which of any two segments is better is as of exact products; the first of the best is picked. The walk of VictimTells.
-/
import Derived.Test.YtohdhbamdeenlaaVictimPick
import Derived.Test.YtohdhbamdeenlaaVictimBetter
import Derived.Test.YtohdhbamdeenlaaVictimLaw
namespace Go.Proofs.Ytohdhbamdeenlaa
open Go.RowKit
set_option linter.unusedVariables false
set_option linter.unusedSimpArgs false

set_option maxRecDepth 100000 in
set_option maxHeartbeats 32000000 in
theorem victimTells (size epoch age : Int) (pl po : Option Addr) (n capl m capo : Nat) (lv ag g : Nat → Int) (h1 : n ≤ capl) (h2 : capl ≤ maxLen) (h3 : m ≤ capo) (h4 : capo ≤ maxLen) (w : World)
    (RL : RowP w pl 2 n (fun i => [.int .i64 (lv i), .int .i64 (ag i)])) (RO : RowP w po 1 m (fun i => [.int .i64 (g i)])) :
    Calls Try.prog 14 #[.int .i64 size, .slice pl n capl, .slice po m capo, .int .i64 epoch, .int .i64 age] w fun e w' => e = .returned (.bool true) ∧ Below w.heap.size w w' := by
  have hs := near_bd size 0 1024 (by omega)
  have BT := hid (fun l a l' a' w => better_any _ size l a l' a' rfl w)
  have LB := hid (fun l a l' a' w => lawbetter_any _ size l a l' a' rfl w)
  have PK := hid (fun N (hN : N ≤ n) w RL RO => pick_any size _ rfl pl po N capl m capo lv ag g (by omega) h2 h3 h4 w RL RO)
  have AG := hid (fun w => age_any epoch age w)
  have hz : min (max size 0) 1024 = nearI size 0 1024 := rfl
  have hz1 : min (max epoch 0) 4294967296 = nearI epoch 0 4294967296 := rfl
  have hz2 : min (max age 0) 4294967296 = nearI age 0 4294967296 := rfl
  have be := near_bd epoch 0 4294967296 (by omega)
  have ba := near_bd age 0 4294967296 (by omega)
  generalize nearI size 0 1024 = s at *
  generalize nearI epoch 0 4294967296 = E at *
  generalize nearI age 0 4294967296 = G at *
  have hok : ∀ i, okSeg s lv g m i = ((decide (1 ≤ lv i) && decide (lv i < s)) && !hasI g i m) := fun i => rfl
  have BD := fun k => best_bd (okSeg s lv g m) (fun i k => betterB s (lv i) (ag i) (lv k) (ag k)) k
  have BZ : bestI (okSeg s lv g m) (fun i k => betterB s (lv i) (ag i) (lv k) (ag k)) 0 = -1 := rfl
  have BS : ∀ k, bestI (okSeg s lv g m) (fun i k => betterB s (lv i) (ag i) (lv k) (ag k)) (k + 1) = if okSeg s lv g m k = true ∧ (bestI (okSeg s lv g m) (fun i k => betterB s (lv i) (ag i) (lv k) (ag k)) k < 0 ∨ betterB s (lv k) (ag k) (lv (bestI (okSeg s lv g m) (fun i k => betterB s (lv i) (ag i) (lv k) (ag k)) k).toNat) (ag (bestI (okSeg s lv g m) (fun i k => betterB s (lv i) (ag i) (lv k) (ag k)) k).toNat) = true) then (k : Int) else bestI (okSeg s lv g m) (fun i k => betterB s (lv i) (ag i) (lv k) (ag k)) k := fun k => rfl
  generalize bestI (okSeg s lv g m) (fun i k => betterB s (lv i) (ag i) (lv k) (ag k)) = B at *
  have RN := hid (fun k (h : okSeg s lv g m k = false) => show B (k + 1) = B k by rw [BS, if_neg (by rw [h]; simp)])
  have RW := hid (fun k j (e : B k = ((j : Nat) : Int)) (h : betterB s (lv k) (ag k) (lv j) (ag j) = false) => show B (k + 1) = B k by
    rw [BS, if_neg]; rintro ⟨_, h2 | h2⟩
    · omega
    · rw [e, Int.toNat_natCast, h] at h2; cases h2)
  have RY := hid (fun k (h : okSeg s lv g m k = true) (h2 : B k < 0) => show B (k + 1) = k by rw [BS, if_pos ⟨h, .inl h2⟩])
  have RZ := hid (fun k j (h : okSeg s lv g m k = true) (e : B k = ((j : Nat) : Int)) (h2 : betterB s (lv k) (ag k) (lv j) (ag j) = true) => show B (k + 1) = k by rw [BS, if_pos ⟨h, .inr (by rw [e, Int.toNat_natCast]; exact h2)⟩])
  replace BD := hid BD
  replace BZ := hid BZ
  replace hok := hid hok
  clear BS
  unfold maxLen at h2 h4
  have uE : IntKind.i64.wrap (E - G) = E - G := IntWalk.i64_in _ (by omega)
  go_enter Try.func14, Try.ntmps14
  go_wp2_with fail
  refine (alive27 _).mono ?_
  rintro e w1 ⟨rfl, hb1⟩
  replace RL := hid (RL.more hb1)
  replace RO := hid (RO.more hb1)
  replace hb1 := hid hb1
  go_upto_if 24 with (fail)
  go_cut [1] (fun s1 wx => s1 = .slice pl (min n 40) capl ∧ wx = w1)
  case first =>
    by_cases hn : n ≤ 40
    · have d : decide (40 < (n : Int)) = false := decide_eq_false (by omega)
      have e : min n 40 = n := by omega
      replace e := hid e
      go_wp2_with fail
      go_meet
      case rel => exact ⟨by rw [e.out], rfl⟩
    · have d : 40 < (n : Int) := by omega
      have e : min n 40 = 40 := by omega
      replace e := hid e
      obtain ⟨b, o, rfl, R⟩ := RL.out.row (by omega)
      replace R := hid R
      go_wp2_with fail
      go_meet
      case rel => exact ⟨by rw [e.out], rfl⟩
  case rest =>
    obtain ⟨rfl, rfl⟩ := hcut
    have hNn : min n 40 ≤ n := by omega
    have hN40 : min n 40 ≤ 40 := by omega
    replace RL := hid (RL.out.take hNn)
    replace PK := hid (fun w RL RO => PK.out _ hNn w RL RO)
    generalize min n 40 = N at *
    go_wp2_with fail
    go_loopg [11, 13] N (fun gg s11 s13 wx => ∃ k : Nat, k + gg = N ∧ s13 = .int .i64 (k : Int) ∧ s11 = .int .i64 (B k) ∧ RowP wx pl 2 N (fun i => [.int .i64 (lv i), .int .i64 (ag i)]) ∧ RowP wx po 1 m (fun i => [.int .i64 (g i)]) ∧ Below w.heap.size w wx)
    case atStart => exact ⟨0, by omega, rfl, by rw [BZ.out], RL.out, RO.out, hb1.out⟩
    case round =>
      clear RL RO hb1
      obtain ⟨k, hk, rfl, rfl, HL, HO, H0⟩ := hrel
      replace HO := hid HO
      replace H0 := hid H0
      have bk := BD.out k
      cases gk with
      | zero =>
        obtain rfl : k = N := by omega
        replace HL := hid HL
        go_wp2_with fail
        refine (PK.out _ HL.out HO.out).mono ?_
        rintro e w5 ⟨rfl, hb5⟩
        have H5 := hid (below2 H0.out hb5 H0.out.size)
        clear hb5 H0 HL HO PK RN RW RY RZ
        generalize B k = bb at *
        by_cases hB : 0 ≤ bb
        all_goals
          first
            | (have d1 : decide (0 ≤ bb) = true := decide_eq_true hB)
            | (have d1 : decide (0 ≤ bb) = false := decide_eq_false hB)
          rw [d1]
          go_wp2_with fail
          refine (AG.out _).mono ?_
          rintro e w6 ⟨rfl, rfl⟩
          go_wp2
          go_ret
          exact ⟨by simp, H5.out⟩
      | succ gk =>
        have hkn : k < N := by omega
        obtain ⟨b, o, rfl, R⟩ := HL.row (by omega)
        have hbw := R.lt
        have z0 := R.at0 hkn (v := .int .i64 (lv k)) rfl
        have z1 := R.at1 hkn (v := .int .i64 (ag k)) rfl
        replace R := hid R
        clear HL
        have hok' := hid (hok.out k)
        have ways : ∃ sk : Bool, Hid (sk = !(decide (1 ≤ lv k) && decide (lv k < s))) ∧ ((sk = true ∧ lv k < 1) ∨ (sk = true ∧ decide (lv k < 1) = false ∧ s ≤ lv k) ∨ (sk = false ∧ decide (lv k < 1) = false ∧ decide (s ≤ lv k) = false)) := by
          by_cases c1 : lv k < 1
          · exact ⟨true, hid (by simp; omega), .inl ⟨rfl, c1⟩⟩
          · by_cases c2 : s ≤ lv k
            · exact ⟨true, hid (by simp; omega), .inr (.inl ⟨rfl, decide_eq_false c1, c2⟩)⟩
            · exact ⟨false, hid (by simp; omega), .inr (.inr ⟨rfl, decide_eq_false c1, decide_eq_false c2⟩)⟩
        obtain ⟨sk, esk, ways⟩ := ways
        replace ways := hid ways
        go_upto_region 9 with (fail)
        go_cut [14] (fun s14 wx => s14 = .bool sk ∧ wx = wr)
        case first =>
          rcases ways.out with ⟨rfl, c1⟩ | ⟨rfl, c1, c2⟩ | ⟨rfl, c1, c2⟩
          all_goals
            go_wp2_with fail
            go_meet
            case rel => exact ⟨rfl, rfl⟩
        case rest =>
          obtain ⟨rfl, rfl⟩ := hcut
          clear ways z0 z1
          go_wp2_with fail
          generalize gk = gOut at *
          go_loopg [14, 15] m (fun gi s14 s15 wx => ∃ q : Nat, q + gi = m ∧ s15 = .int .i64 (q : Int) ∧ s14 = .bool (sk || hasI g k q) ∧ wx = wc)
          case atStart => exact ⟨0, by omega, rfl, by simp [hasI], rfl⟩
          case round =>
            obtain ⟨q, hq, rfl, rfl, rfl⟩ := hrel
            cases gk with
            | zero =>
              obtain rfl : q = m := by omega
              clear hq
              have z0 := R.out.at0 hkn (v := .int .i64 (lv k)) rfl
              have z1 := R.out.at1 hkn (v := .int .i64 (ag k)) rfl
              have ways : ∃ nb : Bool, ((nb = false ∧ B (k + 1) = B k) ∨ (nb = true ∧ B (k + 1) = k)) ∧
                  (((sk || hasI g k q) = true ∧ nb = false) ∨ ((sk || hasI g k q) = false ∧ nb = true ∧ B k < 0) ∨
                   (∃ j : Nat, (sk || hasI g k q) = false ∧ nb = true ∧ B k = (j : Int) ∧ j < k ∧ betterB s (lv k) (ag k) (lv j) (ag j) = true) ∨
                   (∃ j : Nat, (sk || hasI g k q) = false ∧ nb = false ∧ B k = (j : Int) ∧ j < k ∧ betterB s (lv k) (ag k) (lv j) (ag j) = false)) := by
                have ho : okSeg s lv g q k = !(sk || hasI g k q) := by rw [hok'.out, esk.out]; cases (decide (1 ≤ lv k) && decide (lv k < s)) <;> cases hasI g k q <;> rfl
                cases hsl : (sk || hasI g k q)
                · rw [hsl] at ho
                  by_cases c3 : B k < 0
                  · exact ⟨true, .inr ⟨rfl, RY.out k ho c3⟩, .inr (.inl ⟨rfl, rfl, c3⟩)⟩
                  · obtain ⟨j, hj⟩ := Int.eq_ofNat_of_zero_le (show 0 ≤ B k by omega)
                    cases hbt : betterB s (lv k) (ag k) (lv j) (ag j)
                    · exact ⟨false, .inl ⟨rfl, RW.out k j hj hbt⟩, .inr (.inr (.inr ⟨j, rfl, rfl, hj, by omega, hbt⟩))⟩
                    · exact ⟨true, .inr ⟨rfl, RZ.out k j ho hj hbt⟩, .inr (.inr (.inl ⟨j, rfl, rfl, hj, by omega, hbt⟩))⟩
                · rw [hsl] at ho
                  exact ⟨false, .inl ⟨rfl, RN.out k ho⟩, .inl ⟨rfl, rfl⟩⟩
              obtain ⟨nb, wnb, ways⟩ := ways
              replace wnb := hid wnb
              generalize (sk || hasI g k q) = sl at *
              replace ways := hid ways
              go_upto_region 14 with (fail)
              go_cut [11, 83] (fun s11 s83 wx => s11 = .int .i64 (B k) ∧ s83 = .bool nb ∧ Below wr.heap.size wr wx)
              case first =>
                have q0 := fun u : Later wr => (Later.cell b (o + k * 2) hbw u).trans z0
                have q1 := fun u : Later wr => (Later.cell b (o + k * 2 + 1) hbw u).trans z1
                rcases ways.out with ⟨rfl, rfl⟩ | ⟨rfl, rfl, c3⟩ | ⟨j, rfl, rfl, hj, hjk, hbt⟩ | ⟨j, rfl, rfl, hj, hjk, hbt⟩
                · refine wp_region_late 17 (by kernel_rfl) (by kernel_rfl) ?_
                  simp only [List.take_succ_cons, List.take_zero, List.drop_succ_cons, List.drop_zero]
                  repeat (go_big_quiet_step (fail))
                  refine wpQuiet_nil ?_
                  intro w5 h5
                  replace h5 := late_out h5
                  go_wp2_with fail
                  go_meet
                  case rel => exact ⟨by first | rfl | rw [hjj.out], rfl, h5⟩
                · refine wp_region_late 17 (by kernel_rfl) (by kernel_rfl) ?_
                  simp only [List.take_succ_cons, List.take_zero, List.drop_succ_cons, List.drop_zero]
                  repeat (go_big_quiet_step (fail))
                  refine wpQuiet_nil ?_
                  intro w5 h5
                  replace h5 := late_out h5
                  go_wp2_with fail
                  go_meet
                  case rel => exact ⟨by first | rfl | rw [hjj.out], rfl, h5⟩
                · have hjn : j < N := by omega
                  have y0 := R.out.at0 hjn (v := .int .i64 (lv j)) rfl
                  have y1 := R.out.at1 hjn (v := .int .i64 (ag j)) rfl
                  have q2 := fun u : Later wr => (Later.cell b (o + j * 2) hbw u).trans y0
                  have q3 := fun u : Later wr => (Later.cell b (o + j * 2 + 1) hbw u).trans y1
                  have K := fun w => LB.out (lv k) (ag k) (lv j) (ag j) w
                  rw [hbt] at K
                  replace K := hid K
                  replace hbt := hid hbt
                  have d3 : decide ((j : Int) < 0) = false := decide_eq_false (by omega)
                  have hjj := hid hj
                  rw [hj]
                  clear hj y0 y1
                  refine wp_region_late 17 (by kernel_rfl) (by kernel_rfl) ?_
                  simp only [List.take_succ_cons, List.take_zero, List.drop_succ_cons, List.drop_zero]
                  repeat (go_big_quiet_step ((go_at_call 56; (with_reducible exact late_call (K.out _)))))
                  refine wpQuiet_nil ?_
                  intro w5 h5
                  replace h5 := late_out h5
                  go_wp2_with fail
                  go_meet
                  case rel => exact ⟨by first | rfl | rw [hjj.out], rfl, h5⟩
                · have hjn : j < N := by omega
                  have y0 := R.out.at0 hjn (v := .int .i64 (lv j)) rfl
                  have y1 := R.out.at1 hjn (v := .int .i64 (ag j)) rfl
                  have q2 := fun u : Later wr => (Later.cell b (o + j * 2) hbw u).trans y0
                  have q3 := fun u : Later wr => (Later.cell b (o + j * 2 + 1) hbw u).trans y1
                  have K := fun w => LB.out (lv k) (ag k) (lv j) (ag j) w
                  rw [hbt] at K
                  replace K := hid K
                  replace hbt := hid hbt
                  have d3 : decide ((j : Int) < 0) = false := decide_eq_false (by omega)
                  have hjj := hid hj
                  rw [hj]
                  clear hj y0 y1
                  refine wp_region_late 17 (by kernel_rfl) (by kernel_rfl) ?_
                  simp only [List.take_succ_cons, List.take_zero, List.drop_succ_cons, List.drop_zero]
                  repeat (go_big_quiet_step ((go_at_call 56; (with_reducible exact late_call (K.out _)))))
                  refine wpQuiet_nil ?_
                  intro w5 h5
                  replace h5 := late_out h5
                  go_wp2_with fail
                  go_meet
                  case rel => exact ⟨by first | rfl | rw [hjj.out], rfl, h5⟩
              case rest =>
                obtain ⟨rfl, rfl, h5⟩ := hcut
                clear ways
                have R5 := hid (R.out.more h5)
                have HO5 := hid (HO.out.more h5)
                have H5 := hid (below2 H0.out h5 H0.out.size)
                have hb5 := R5.out.lt
                clear R HO H0 h5 z0 z1
                rcases wnb.out with ⟨rfl, e⟩ | ⟨rfl, e⟩
                all_goals
                  replace e := hid e
                  clear wnb
                  by_cases hk0 : k = 0
                  · have d1 : decide (0 < k) = false := decide_eq_false (by omega)
                    clear hk0
                    go_wp2_with fail
                    refine wp_region_late 26 (by kernel_rfl) (by kernel_rfl) ?_
                    simp only [List.take_succ_cons, List.take_zero, List.drop_succ_cons, List.drop_zero]
                    repeat (go_big_quiet_step (fail))
                    refine wpQuiet_nil ?_
                    intro w6 h6
                    replace h6 := late_out h6
                    have R6 := hid (R5.out.more h6)
                    have HO6 := hid (HO5.out.more h6)
                    have H6 := hid (below2 H5.out h6 H5.out.size)
                    clear R5 HO5 H5 h6
                    go_wp2_with fail
                    go_roundg gOut
                    case measure => omega
                    case rel => exact ⟨k + 1, by omega, by go_num, by rw [e.out], .inr ⟨b, o, rfl, R6.out⟩, HO6.out, H6.out⟩
                  · have d1 : 0 < k := by omega
                    have hk1 : k - 1 < N := by omega
                    have ek : ((k : Int) - 1).toNat = k - 1 := by omega
                    have ek2 : (k : Int) - 1 = ((k - 1 : Nat) : Int) := by omega
                    have z0 := R5.out.at0 hkn (v := .int .i64 (lv k)) rfl
                    have z1 := R5.out.at1 hkn (v := .int .i64 (ag k)) rfl
                    have y0 := R5.out.at0 hk1 (v := .int .i64 (lv (k - 1))) rfl
                    have y1 := R5.out.at1 hk1 (v := .int .i64 (ag (k - 1))) rfl
                    have q0 := fun u : Later wc => (Later.cell b (o + k * 2) hb5 u).trans z0
                    have q1 := fun u : Later wc => (Later.cell b (o + k * 2 + 1) hb5 u).trans z1
                    have q2 := fun u : Later wc => (Later.cell b (o + (k - 1) * 2) hb5 u).trans y0
                    have q3 := fun u : Later wc => (Later.cell b (o + (k - 1) * 2 + 1) hb5 u).trans y1
                    have K1 := fun w => BT.out (lv k) (ag k) (lv (k - 1)) (ag (k - 1)) w
                    have K2 := fun w => LB.out (lv k) (ag k) (lv (k - 1)) (ag (k - 1)) w
                    generalize betterB s (lv k) (ag k) (lv (k - 1)) (ag (k - 1)) = X at *
                    replace K1 := hid K1
                    replace K2 := hid K2
                    clear z0 z1 y0 y1 ek2 ek
                    cases X
                    all_goals
                      go_wp2_with fail
                      refine wp_region_late 26 (by kernel_rfl) (by kernel_rfl) ?_
                      simp only [List.take_succ_cons, List.take_zero, List.drop_succ_cons, List.drop_zero]
                      repeat (go_big_quiet_step ((first
                        | (go_at_call 57; (with_reducible exact late_call (K1.out _)))
                        | (go_at_call 56; (with_reducible exact late_call (K2.out _))))))
                      refine wpQuiet_nil ?_
                      intro w6 h6
                      replace h6 := late_out h6
                      have R6 := hid (R5.out.more h6)
                      have HO6 := hid (HO5.out.more h6)
                      have H6 := hid (below2 H5.out h6 H5.out.size)
                      clear R5 HO5 H5 h6
                      go_wp2_with fail
                      go_roundg gOut
                      case measure => omega
                      case rel => exact ⟨k + 1, by omega, by go_num, by rw [e.out], .inr ⟨b, o, rfl, R6.out⟩, HO6.out, H6.out⟩
            | succ gk =>
              have hqm : q < m := by omega
              obtain ⟨bo, oo, rfl, RQ⟩ := HO.out.row (by omega)
              have y0 := RQ.at0 hqm (v := .int .i64 (g q)) rfl
              rw [Nat.mul_one] at y0
              clear RQ
              have eq1 : hasI g k (q + 1) = (hasI g k q || (g q == (k : Int))) := rfl
              generalize hasI g k q = hq0 at *
              replace eq1 := hid eq1
              cases hsk : (sk || hq0)
              all_goals
                have hsk' := hid hsk
                clear hsk
                go_wp2_with fail
                go_roundg gk
                case measure => omega
                case rel => exact ⟨q + 1, by omega, by go_num, by rw [eq1.out, ← Bool.or_assoc, hsk'.out]; rfl, rfl⟩
end Go.Proofs.Ytohdhbamdeenlaa
