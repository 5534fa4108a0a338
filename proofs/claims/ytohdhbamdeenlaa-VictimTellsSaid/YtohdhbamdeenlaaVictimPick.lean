/-
  Layer 27: the first of the best segments.
-/
import Derived.Test.YtohdhbamdeenlaaVictim
import Derived.Test.YtohdhbamdeenlaaSlices
import Derived.LoopTactic
import Derived.Deep.LoopGhost
import Derived.Deep.DeepCutAuto
namespace Go.Proofs.Ytohdhbamdeenlaa
open Go.RowKit
set_option linter.unusedVariables false
set_option linter.unusedSimpArgs false

/-- Is a one of the first m? -/
def hasI (g : Nat → Int) (a : Int) : Nat → Bool
  | 0 => false
  | m + 1 => hasI g a m || (g m == a)
def okSeg (s : Int) (lv g : Nat → Int) (m i : Nat) : Bool := (decide (1 ≤ lv i) && decide (lv i < s)) && !hasI g i m
def bestI (ok : Nat → Bool) (bt : Nat → Nat → Bool) : Nat → Int
  | 0 => -1
  | k + 1 => if ok k = true ∧ (bestI ok bt k < 0 ∨ bt k (bestI ok bt k).toNat = true) then k else bestI ok bt k

theorem best_bd (ok : Nat → Bool) (bt : Nat → Nat → Bool) : ∀ k : Nat, -1 ≤ bestI ok bt k ∧ bestI ok bt k < k
  | 0 => by unfold bestI; omega
  | k + 1 => by
    have := best_bd ok bt k
    unfold bestI
    split <;> omega

theorem hasI_of {g : Nat → Int} {a : Int} {j : Nat} (h : g j = a) : ∀ m, j < m → hasI g a m = true
  | 0, hm => absurd hm (Nat.not_lt_zero _)
  | m + 1, hm => by
    unfold hasI
    by_cases e : j = m
    · subst e; simp [h]
    · rw [hasI_of h m (by omega)]; rfl

theorem age_any (e a : Int) (w : World) : Calls Try.prog 59 #[.int .i64 e, .int .i64 a] w fun r w' => r = .returned (.int .i64 (max (nearI e 0 4294967296 - nearI a 0 4294967296) 1)) ∧ w' = w := by
  have b1 := near_bd e 0 4294967296 (by omega)
  have b2 := near_bd a 0 4294967296 (by omega)
  have K1 := hid (fun w => near_any e 0 4294967296 w)
  have K2 := hid (fun w => near_any a 0 4294967296 w)
  generalize nearI e 0 4294967296 = x at *
  generalize nearI a 0 4294967296 = y at *
  have u1 : IntKind.i64.wrap (x - y) = x - y := IntWalk.i64_in _ (by omega)
  go_enter Try.func59, Try.ntmps59
  go_wp2_with fail
  refine (K1.out _).mono ?_
  rintro e w1 ⟨rfl, rfl⟩
  go_wp2_with fail
  refine (K2.out _).mono ?_
  rintro e w2 ⟨rfl, rfl⟩
  go_wp2
  go_ret
  exact ⟨rfl, rfl⟩

set_option maxRecDepth 100000 in
set_option maxHeartbeats 16000000 in
theorem pick_any (size s : Int) (hz : nearI size 0 1024 = s) (pl po : Option Addr) (n capl m capo : Nat) (lv ag g : Nat → Int) (h1 : n ≤ capl) (h2 : capl ≤ maxLen) (h3 : m ≤ capo) (h4 : capo ≤ maxLen) (w : World)
    (RL : RowP w pl 2 n (fun i => [.int .i64 (lv i), .int .i64 (ag i)])) (RO : RowP w po 1 m (fun i => [.int .i64 (g i)])) :
    Calls Try.prog 58 #[.int .i64 size, .slice pl n capl, .slice po m capo] w fun e w' =>
      e = .returned (.tuple #[.int .i64 (max (bestI (okSeg s lv g m) (fun i k => betterB s (lv i) (ag i) (lv k) (ag k)) n) 0), .bool (decide (0 ≤ bestI (okSeg s lv g m) (fun i k => betterB s (lv i) (ag i) (lv k) (ag k)) n))]) ∧ Below w.heap.size w w' := by
  have hs := near_bd size 0 1024 (by omega)
  have N := hid (fun w => near_any size 0 1024 w)
  rw [hz] at hs N
  have BT := hid (fun l a l' a' w => better_any s s l a l' a' (by unfold nearI; omega) w)
  have hok : ∀ i, okSeg s lv g m i = ((decide (1 ≤ lv i) && decide (lv i < s)) && !hasI g i m) := fun i => rfl
  have BD := fun k => best_bd (okSeg s lv g m) (fun i k => betterB s (lv i) (ag i) (lv k) (ag k)) k
  have BZ : bestI (okSeg s lv g m) (fun i k => betterB s (lv i) (ag i) (lv k) (ag k)) 0 = -1 := rfl
  have BS : ∀ k, bestI (okSeg s lv g m) (fun i k => betterB s (lv i) (ag i) (lv k) (ag k)) (k + 1) = if okSeg s lv g m k = true ∧ (bestI (okSeg s lv g m) (fun i k => betterB s (lv i) (ag i) (lv k) (ag k)) k < 0 ∨ betterB s (lv k) (ag k) (lv (bestI (okSeg s lv g m) (fun i k => betterB s (lv i) (ag i) (lv k) (ag k)) k).toNat) (ag (bestI (okSeg s lv g m) (fun i k => betterB s (lv i) (ag i) (lv k) (ag k)) k).toNat) = true) then (k : Int) else bestI (okSeg s lv g m) (fun i k => betterB s (lv i) (ag i) (lv k) (ag k)) k := fun k => rfl
  generalize bestI (okSeg s lv g m) (fun i k => betterB s (lv i) (ag i) (lv k) (ag k)) = B at *
  -- what a round comes to
  have RN := hid (fun k (h : okSeg s lv g m k = false) => show B (k + 1) = B k by rw [BS, if_neg (by rw [h]; simp)])
  have RW := hid (fun k j (e : B k = ((j : Nat) : Int)) (h : betterB s (lv k) (ag k) (lv j) (ag j) = false) => show B (k + 1) = B k by
    rw [BS, if_neg]; rintro ⟨_, h2 | h2⟩
    · omega
    · rw [e, Int.toNat_natCast, h] at h2; cases h2)
  have RY := hid (fun k (h : okSeg s lv g m k = true) (h2 : B k < 0) => show B (k + 1) = k by rw [BS, if_pos ⟨h, .inl h2⟩])
  have RZ := hid (fun k j (h : okSeg s lv g m k = true) (e : B k = ((j : Nat) : Int)) (h2 : betterB s (lv k) (ag k) (lv j) (ag j) = true) => show B (k + 1) = k by rw [BS, if_pos ⟨h, .inr (by rw [e, Int.toNat_natCast]; exact h2)⟩])
  replace BD := hid BD
  replace BZ := hid BZ
  replace hok := hid hok
  clear BS
  unfold maxLen at h2 h4
  clear hz
  go_enter Try.func58, Try.ntmps58
  go_wp2_with fail
  go_step3
  go_wp2_with fail
  refine (N.out _).mono ?_
  rintro e w1 ⟨rfl, rfl⟩
  go_wp2_with fail
  go_step3
  go_wp2_with fail
  go_loopg [8, 17] n (fun gg s8 s17 wx => ∃ k : Nat, k + gg = n ∧ s17 = .int .i64 (k : Int) ∧ s8 = .int .i64 (B k) ∧ RowP wx pl 2 n (fun i => [.int .i64 (lv i), .int .i64 (ag i)]) ∧ RowP wx po 1 m (fun i => [.int .i64 (g i)]) ∧ Below w1.heap.size w1 wx)
  case atStart => exact ⟨0, by omega, rfl, by rw [BZ.out], RL, RO, Below.refl _ _⟩
  case round =>
    clear RL RO
    obtain ⟨k, hk, rfl, rfl, HL, HO, H0⟩ := hrel
    replace HO := hid HO
    replace H0 := hid H0
    have bk := BD.out k
    cases gk with
    | zero =>
      obtain rfl : k = n := by omega
      go_wp2_with fail
      try rw [Exit.noGoto_ret]
      go_ret2
      exact ⟨rfl, H0.out⟩
    | succ gk =>
      have hkn : k < n := by omega
      obtain ⟨b, o, rfl, R⟩ := HL.row (by omega)
      have hbw := R.lt
      have ways : ∃ sk : Bool, ((sk = true ∧ B (k + 1) = B k) ∨ (sk = false ∧ 1 ≤ lv k ∧ lv k < s ∧ (okSeg s lv g m k = true → B (k + 1) = k))) ∧
          ((sk = true ∧ lv k < 1) ∨ (sk = true ∧ ¬ lv k < 1 ∧ s ≤ lv k) ∨ (sk = false ∧ ¬ lv k < 1 ∧ ¬ s ≤ lv k ∧ B k < 0) ∨
           (∃ j : Nat, sk = true ∧ ¬ lv k < 1 ∧ ¬ s ≤ lv k ∧ B k = (j : Int) ∧ j < n ∧ betterB s (lv k) (ag k) (lv j) (ag j) = false) ∨
           (∃ j : Nat, sk = false ∧ ¬ lv k < 1 ∧ ¬ s ≤ lv k ∧ B k = (j : Int) ∧ j < n ∧ betterB s (lv k) (ag k) (lv j) (ag j) = true)) := by
        have hok' := hok.out k
        by_cases c1 : lv k < 1
        · exact ⟨true, .inl ⟨rfl, RN.out k (by rw [hok']; simp; omega)⟩, .inl ⟨rfl, c1⟩⟩
        · by_cases c2 : s ≤ lv k
          · exact ⟨true, .inl ⟨rfl, RN.out k (by rw [hok']; simp; omega)⟩, .inr (.inl ⟨rfl, c1, c2⟩)⟩
          · by_cases c3 : B k < 0
            · exact ⟨false, .inr ⟨rfl, by omega, by omega, fun h => RY.out k h c3⟩, .inr (.inr (.inl ⟨rfl, c1, c2, c3⟩))⟩
            · obtain ⟨j, hj⟩ := Int.eq_ofNat_of_zero_le (show 0 ≤ B k by omega)
              cases hbt : betterB s (lv k) (ag k) (lv j) (ag j)
              · exact ⟨true, .inl ⟨rfl, RW.out k j hj hbt⟩, .inr (.inr (.inr (.inl ⟨j, rfl, c1, c2, hj, by omega, hbt⟩)))⟩
              · exact ⟨false, .inr ⟨rfl, by omega, by omega, fun h => RZ.out k j h hj hbt⟩, .inr (.inr (.inr (.inr ⟨j, rfl, c1, c2, hj, by omega, hbt⟩)))⟩
      obtain ⟨sk, wsk, ways⟩ := ways
      replace wsk := hid wsk
      replace ways := hid ways
      have z0 := R.at0 hkn (v := .int .i64 (lv k)) rfl
      have z1 := R.at1 hkn (v := .int .i64 (ag k)) rfl
      replace R := hid R
      clear HL
      go_wp2_with fail
      go_upto_region 6 with (fail)
      generalize hV : wr.alloc _ = V
      have hbV : Hid (Below wr.heap.size wr V) := hid (hV ▸ Below.alloc (Below.refl _ _) (Nat.le_refl _) _)
      have SB := hid (hV ▸ Blk.new wr _ _ : Blk V wr.heap.size #[.int .i64 (lv k), .int .i64 (ag k)])
      have RV := hid (R.out.more hbV.out)
      clear hV z0 z1
      go_cut [8, 44] (fun s8 s44 wx => s8 = .int .i64 (B k) ∧ s44 = .bool sk ∧ Below V.heap.size V wx)
      case first =>
        have q1 := fun u : Later V => u.blk SB.out
        rcases ways.out with ⟨rfl, c1⟩ | ⟨rfl, c1, c2⟩ | ⟨rfl, c1, c2, c3⟩ | ⟨j, rfl, c1, c2, hj, hjn, hbt⟩ | ⟨j, rfl, c1, c2, hj, hjn, hbt⟩
        · refine wp_region_late 22 (by kernel_rfl) (by kernel_rfl) ?_
          simp only [List.take_succ_cons, List.take_zero, List.drop_succ_cons, List.drop_zero]
          repeat (go_big_quiet_step (fail))
          refine wpQuiet_nil ?_
          intro w5 h5
          replace h5 := late_out h5
          go_wp2_with fail
          go_meet
          case rel => exact ⟨by first | rfl | rw [hjj.out], rfl, h5⟩
        · have d1 : decide (lv k < 1) = false := decide_eq_false (by omega)
          clear c1
          refine wp_region_late 22 (by kernel_rfl) (by kernel_rfl) ?_
          simp only [List.take_succ_cons, List.take_zero, List.drop_succ_cons, List.drop_zero]
          repeat (go_big_quiet_step (fail))
          refine wpQuiet_nil ?_
          intro w5 h5
          replace h5 := late_out h5
          go_wp2_with fail
          go_meet
          case rel => exact ⟨by first | rfl | rw [hjj.out], rfl, h5⟩
        · have d1 : decide (lv k < 1) = false := decide_eq_false (by omega)
          have d2 : decide (s ≤ lv k) = false := decide_eq_false (by omega)
          have d3 : decide (0 ≤ B k) = false := decide_eq_false (by omega)
          clear c1 c2
          refine wp_region_late 22 (by kernel_rfl) (by kernel_rfl) ?_
          simp only [List.take_succ_cons, List.take_zero, List.drop_succ_cons, List.drop_zero]
          repeat (go_big_quiet_step (fail))
          refine wpQuiet_nil ?_
          intro w5 h5
          replace h5 := late_out h5
          go_wp2_with fail
          go_meet
          case rel => exact ⟨by first | rfl | rw [hjj.out], rfl, h5⟩
        · have hlt := RV.out.lt
          have y0 := RV.out.at0 hjn (v := .int .i64 (lv j)) rfl
          have y1 := RV.out.at1 hjn (v := .int .i64 (ag j)) rfl
          have q2 := fun u : Later V => (Later.cell b (o + j * 2) hlt u).trans y0
          have q3 := fun u : Later V => (Later.cell b (o + j * 2 + 1) hlt u).trans y1
          have K := fun w => BT.out (lv k) (ag k) (lv j) (ag j) w
          rw [hbt] at K
          replace K := hid K
          replace hbt := hid hbt
          have d1 : decide (lv k < 1) = false := decide_eq_false (by omega)
          have d2 : decide (s ≤ lv k) = false := decide_eq_false (by omega)
          have hjj := hid hj
          rw [hj]
          clear hj y0 y1 c1 c2
          refine wp_region_late 22 (by kernel_rfl) (by kernel_rfl) ?_
          simp only [List.take_succ_cons, List.take_zero, List.drop_succ_cons, List.drop_zero]
          repeat (go_big_quiet_step ((go_at_call 57; (with_reducible exact late_call (K.out _)))))
          refine wpQuiet_nil ?_
          intro w5 h5
          replace h5 := late_out h5
          go_wp2_with fail
          go_meet
          case rel => exact ⟨by first | rfl | rw [hjj.out], rfl, h5⟩
        · have hlt := RV.out.lt
          have y0 := RV.out.at0 hjn (v := .int .i64 (lv j)) rfl
          have y1 := RV.out.at1 hjn (v := .int .i64 (ag j)) rfl
          have q2 := fun u : Later V => (Later.cell b (o + j * 2) hlt u).trans y0
          have q3 := fun u : Later V => (Later.cell b (o + j * 2 + 1) hlt u).trans y1
          have K := fun w => BT.out (lv k) (ag k) (lv j) (ag j) w
          rw [hbt] at K
          replace K := hid K
          replace hbt := hid hbt
          have d1 : decide (lv k < 1) = false := decide_eq_false (by omega)
          have d2 : decide (s ≤ lv k) = false := decide_eq_false (by omega)
          have hjj := hid hj
          rw [hj]
          clear hj y0 y1 c1 c2
          refine wp_region_late 22 (by kernel_rfl) (by kernel_rfl) ?_
          simp only [List.take_succ_cons, List.take_zero, List.drop_succ_cons, List.drop_zero]
          repeat (go_big_quiet_step ((go_at_call 57; (with_reducible exact late_call (K.out _)))))
          refine wpQuiet_nil ?_
          intro w5 h5
          replace h5 := late_out h5
          go_wp2_with fail
          go_meet
          case rel => exact ⟨by first | rfl | rw [hjj.out], rfl, h5⟩
      case rest =>
        obtain ⟨rfl, rfl, h5⟩ := hcut
        clear ways
        have HR := hid (RV.out.more h5)
        have HO5 := hid ((HO.out.more hbV.out).more h5)
        have H5 := hid (below2 (below2 H0.out hbV.out H0.out.size) h5 (by have := H0.out.size; have := hbV.out.size; omega))
        clear RV SB hbV R HO H0 h5
        rcases wsk.out with ⟨rfl, e⟩ | ⟨rfl, c1, c2, e⟩
        · replace e := hid e
          clear wsk
          go_wp2_with fail
          go_roundg gk
          case measure => omega
          case rel => exact ⟨k + 1, by omega, by go_num, by rw [e.out], .inr ⟨b, o, rfl, HR.out⟩, HO5.out, H5.out⟩
        · replace e := hid e
          clear wsk
          go_wp2_with fail
          generalize gk = gOut at *
          have hok' := hid (hok.out k)
          go_loopg [47] m (fun gi s47 wx => ∃ q : Nat, q + gi = m ∧ s47 = .int .i64 (q : Int) ∧ hasI g k q = false ∧ Row wx b o 2 n (fun i => [.int .i64 (lv i), .int .i64 (ag i)]) ∧ RowP wx po 1 m (fun i => [.int .i64 (g i)]) ∧ Below w1.heap.size w1 wx)
          case atStart => exact ⟨0, by omega, rfl, rfl, HR.out, HO5.out, H5.out⟩
          case round =>
            clear HR HO5 H5
            obtain ⟨q, hq, rfl, hh, R6, O6, G6⟩ := hrel
            replace hh := hid hh
            replace R6 := hid R6
            replace G6 := hid G6
            cases gk with
            | zero =>
              obtain rfl : q = m := by omega
              have e1 := e.out (by rw [hok'.out, hh.out]; simp; omega)
              replace e1 := hid e1
              replace O6 := hid O6
              clear e
              go_wp2_with fail
              go_roundg gOut
              case measure => omega
              case rel => exact ⟨k + 1, by omega, by go_num, by rw [e1.out], .inr ⟨b, o, rfl, R6.out⟩, O6.out, G6.out⟩
            | succ gk =>
              have hqm : q < m := by omega
              obtain ⟨bo, oo, rfl, RQ⟩ := O6.row (by omega)
              have y0 := RQ.at0 hqm (v := .int .i64 (g q)) rfl
              rw [Nat.mul_one] at y0
              replace RQ := hid RQ
              clear O6
              by_cases hk2 : g q = (k : Int)
              · have hf : hasI g k m = true := hasI_of hk2 m hqm
                have e1 := RN.out k (by rw [hok'.out, hf]; simp)
                have d1 : ((k : Int) == g q) = true := beq_iff_eq.2 hk2.symm
                replace e1 := hid e1
                replace hk2 := hid hk2
                clear e hf
                go_wp2_with fail
                go_roundg gOut
                case measure => omega
                case rel => exact ⟨k + 1, by omega, by go_num, by rw [e1.out], .inr ⟨b, o, rfl, R6.out⟩, .inr ⟨bo, oo, rfl, RQ.out⟩, G6.out⟩
              · have d1 : ((k : Int) == g q) = false := beq_eq_false_iff_ne.2 (fun h => hk2 h.symm)
                have d2 : hasI g k (q + 1) = false := by
                  show (hasI g k q || (g q == (k : Int))) = false
                  rw [hh.out, beq_eq_false_iff_ne.2 hk2]; rfl
                replace d2 := hid d2
                clear hk2 e
                go_wp2_with fail
                go_roundg gk
                case measure => omega
                case rel => exact ⟨q + 1, by omega, by go_num, d2.out, R6.out, .inr ⟨bo, oo, rfl, RQ.out⟩, G6.out⟩
end Go.Proofs.Ytohdhbamdeenlaa
