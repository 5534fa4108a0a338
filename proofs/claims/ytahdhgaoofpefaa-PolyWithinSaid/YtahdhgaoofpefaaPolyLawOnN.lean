/-
  Layer 34: the law's own 'on', of any points of small places.
-/
import Derived.Test.YtahdhgaoofpefaaPolyLawOn
import Derived.Test.YtahdhgaoofpefaaTrackStr
namespace Go.Proofs.Ytahdhgaoofpefaa
open Go.RowKit
set_option linter.unusedVariables false
set_option linter.unusedSimpArgs false

theorem lawturn3 (A B : Pt) (ip : Int) (p : P2) (dp : Value) (ha : (p2 A).low) (hb : (p2 B).low) (hp : p.low) (w : World) :
    Calls Try.prog 28 #[pt A.id A.x A.y (.string A.d), pt B.id B.x B.y (.string B.d), pt ip p.x p.y dp] w fun e w' => e = .returned (.int .i64 (tn (p2 A) (p2 B) p)) ∧ Below w.heap.size w w' :=
  lawturn2 A.id B.id ip (p2 A) (p2 B) p (.string A.d) (.string B.d) dp ha hb hp w

set_option maxRecDepth 100000 in
set_option maxHeartbeats 8000000 in
theorem lawonN_any (f : Nat → Pt) (n : Nat) (hf : ∀ i, (p2 (f i)).low) (ip : Int) (p : P2) (dp : Value) (hp : p.low) (a : Option Addr) (cap : Nat) (h1 : n ≤ cap) (h2 : cap ≤ maxLen) (w : World) (HA : RowP w a 4 n (fun i => pcells (f i))) :
    Calls Try.prog 29 #[.slice a n cap, pt ip p.x p.y dp] w fun e w' => e = .returned (.bool (onAny f n p)) ∧ Below w.heap.size w w' := by
  have h1' := hid h1
  have h2' := hid h2
  have hf' := hid hf
  have HA' := hid HA
  have hp' := hid hp
  clear h1 h2 hf HA hp
  obtain ⟨px, py⟩ := p
  simp only
  go_enter Try.func29, Try.ntmps29
  go_wp2
  generalize hW : w.alloc _ = W
  have B0 := hid (hW ▸ Blk.new w _ _ : Blk W w.heap.size _)
  have H1 : Hid (Below w.heap.size w W) := hid (hW ▸ Below.alloc (Below.refl _ _) (Nat.le_refl _) _)
  have R1 := hid (HA'.out.more H1.out)
  clear hW HA'
  go_loopw [5] (fun i wr => ∃ k : Nat, k ≤ n ∧ i = .int .i64 (k : Int) ∧ (∀ j, j < k → onB (p2 (f j)) (p2 (f ((j + 1) % n))) ⟨px, py⟩ = false) ∧ Below W.heap.size W wr) (fun i _ => n - (intOf i).toNat)
  case atStart => exact ⟨0, by omega, rfl, fun j hj => absurd hj (Nat.not_lt_zero _), Below.refl _ _⟩
  case round =>
    obtain ⟨k, hk, rfl, hno, hb⟩ := hrel
    by_cases hlt : k < n
    · obtain ⟨b, o, rfl, R0⟩ := R1.out.row (by omega)
      have R := R0.more hb
      obtain ⟨m, hm⟩ : ∃ m, (k + 1) % n = m := ⟨_, rfl⟩
      have hm1 : m < n := by rw [← hm]; exact Nat.mod_lt _ (by omega)
      have hmi : Int.tmod ((k : Int) + 1) (n : Int) = (m : Int) := by rw [← hm]; rfl
      have hm1' : (m : Int) < (n : Int) := by omega
      have hlt' : (k : Int) < (n : Int) := by omega
      have hl63 : (n : Int) ≤ 9223372036854775807 := by have := h1'.out; have := h2'.out; unfold maxLen at this; omega
      have hl0 : (0 : Int) < (n : Int) := by omega
      have hl0' : ¬ (n : Int) = 0 := by omega
      have hl0'' : ((n : Int) == 0) = false := by simp; omega
      have hmw : IntKind.i64.wrap (Int.tmod ((k : Int) + 1) (n : Int)) = (m : Int) := by rw [hmi]; exact IntWalk.i64_in _ ⟨by omega, by omega⟩
      have T1 := hid (fun w => lawturn3 (f k) (f m) ip ⟨px, py⟩ dp (hf'.out k) (hf'.out m) hp'.out w)
      have how := on_ways (p2 (f k)) (p2 (f m)) ⟨px, py⟩
      obtain ⟨r, hr, ways⟩ := how
      have hrh : Hid (onB (p2 (f k)) (p2 (f ((k + 1) % n))) ⟨px, py⟩ = r) := hid (by rw [hm]; exact hr)
      clear hr
      have k00 := R.at0 hlt (v := .int .i64 (f k).id) rfl
      have k01 := R.at1 hlt (v := .int .u32 (f k).x) rfl
      have k02 := R.at2 hlt (v := .int .u32 (f k).y) rfl
      have k03 := R.at3 hlt (v := .string (f k).d) rfl
      have k10 := R.at0 hm1 (v := .int .i64 (f m).id) rfl
      have k11 := R.at1 hm1 (v := .int .u32 (f m).x) rfl
      have k12 := R.at2 hm1 (v := .int .u32 (f m).y) rfl
      have k13 := R.at3 hm1 (v := .string (f m).d) rfl
      have hwr := R.lt
      have hno' := hid hno
      have hb' := hid hb
      have hlth := hid hlt
      have hkh := hid hk
      have hmh := hid hm
      clear R R0 hno hb hk hm hlt
      generalize hA : f k = A at *
      generalize hB : f m = B at *
      generalize tn (p2 A) (p2 B) ⟨px, py⟩ = t1 at *
      generalize tn (p2 B) (p2 A) ⟨px, py⟩ = t2 at *
      obtain ⟨ia, ax, ay, da⟩ := A
      obtain ⟨ib, bx, by', db⟩ := B
      simp only [p2] at *
      replace hA := hid hA
      replace hB := hid hB
      replace ways := hid ways
      go_upto_region 4 with (fail)
      go_cut [6, 7] (fun s6 s7 wx => ∃ p q, s6 = .pointer (some ⟨p, 0, none⟩) ∧ s7 = .pointer (some ⟨q, 0, none⟩) ∧ Blk wx p #[.int .i64 ia, .int .u32 ax, .int .u32 ay, .string da] ∧ Blk wx q #[.int .i64 ib, .int .u32 bx, .int .u32 by', .string db] ∧ Below wr.heap.size wr wx)
      case first =>
        have h1 : b < wr.heap.size + 1 := by omega
        have h2 : b < wr.heap.size + 1 + 1 := by omega
        have h3 : b < wr.heap.size + 2 := by omega
        have e1 : b ≠ wr.heap.size := by omega
        have e2 : b ≠ wr.heap.size + 1 := by omega
        have e3 : b ≠ wr.heap.size + 1 + 1 := by omega
        go_region
        all_goals
          go_wp2_with fail
          go_meet
          case rel => first
            | exact ⟨_, _, rfl, rfl, (boxed2 (Below.drew (Below.refl _ _))).1, (boxed2 (Below.drew (Below.refl _ _))).2.1, (boxed2 (Below.drew (Below.refl _ _))).2.2⟩
            | exact ⟨_, _, rfl, rfl, (boxed2 (Below.drew (Below.refl _ _))).2.1, (boxed2 (Below.drew (Below.refl _ _))).1, (boxed2 (Below.drew (Below.refl _ _))).2.2⟩
      case rest =>
        obtain ⟨p, q, rfl, rfl, P0, Q0, H2⟩ := hcut
        have hbs := hb'.out.size
        have B1 := hid ((B0.out.more hb'.out).more H2)
        have H3 := hid (hb'.out.trans (H2.mono hbs))
        clear H2 k00 k01 k02 k03 k10 k11 k12 k13
        have ways := ways.out
        rcases ways with ⟨_, g1, g1', rfl, _⟩ | ⟨g1, g1', g2, g2', rfl⟩ | ⟨g1, g1', g2, g2', g3, g3', rfl⟩ | ⟨g1, g1', g2, g2', g3, g3', g4, g4', rfl⟩ | ⟨g1, g1', g2, g2', g3, g3', g4, g4', g5, g5', rfl⟩ | ⟨g1, g1', g2, g2', g3, g3', g4, g4', g5, g5', rfl⟩
        all_goals
          try have n2 := Int.not_le.1 (of_decide_eq_false g2)
          try have n3 := Int.not_le.1 (of_decide_eq_false g3)
          try have n4 := Int.not_le.1 (of_decide_eq_false g4)
          try have n5 := Int.not_le.1 (of_decide_eq_false g5)
          have P0' := hid P0
          have Q0' := hid Q0
          obtain ⟨l0, c0, f0⟩ := B1.out
          obtain ⟨l1, c1, f1⟩ := P0
          obtain ⟨l2, c2, f2⟩ := Q0
          go_wp2_with fail
          refine (T1.out _).mono ?_
          rintro e w4 ⟨rfl, hb4⟩
          have B2 := hid (B1.out.more hb4)
          have P1 := hid (P0'.out.more hb4)
          have Q1 := hid (Q0'.out.more hb4)
          have H4 := hid (H3.out.trans (hb4.mono H3.out.size))
          clear l0 c0 f0 l1 c1 f1 l2 c2 f2 hb4 H3 B1 P0' Q0'
          obtain ⟨l0, c0, f0⟩ := B2.out
          obtain ⟨l1, c1, f1⟩ := P1.out
          obtain ⟨l2, c2, f2⟩ := Q1.out
          go_wp2_with fail
        rotate_left 5
        · go_ret
          exact ⟨by rw [show onAny f n ⟨px, py⟩ = true from by unfold onAny anyAt; rw [List.any_eq_true]; exact ⟨k, List.mem_range.2 hlth.out, by rw [hA.out]; exact hrh.out⟩]; rfl, H1.out.trans (H4.out.mono H1.out.size)⟩
        all_goals
          go_roundw
          case rel =>
            refine ⟨k + 1, hlth.out, by go_num, fun j hj => ?_, H4.out⟩
            rcases Nat.lt_or_ge j k with hj' | hj'
            · exact hno'.out j hj'
            · obtain rfl : j = k := by omega
              rw [hA.out]
              exact hrh.out
          case measure => have := hlth.out; simp [intOf]; omega
    · obtain rfl : k = n := by omega
      have hno' := hid hno
      have hb' := hid hb
      clear hno hb
      go_wp2_with fail
      go_ret
      exact ⟨by rw [show onAny f k ⟨px, py⟩ = false from by unfold onAny anyAt; rw [List.any_eq_false]; intro i hi; rw [hno'.out i (List.mem_range.1 hi)]; simp]; rfl, H1.out.trans (hb'.out.mono H1.out.size)⟩
end Go.Proofs.Ytahdhgaoofpefaa
