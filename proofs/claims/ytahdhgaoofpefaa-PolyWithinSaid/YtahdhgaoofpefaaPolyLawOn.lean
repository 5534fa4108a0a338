/-
  Layer 34: the law's own 'on', of a side there and back.
-/
import Derived.Test.YtahdhgaoofpefaaPolyOn
import Derived.Test.YtahdhgaoofpefaaSlices
import Derived.RegionTactic
import Derived.BigRegion
import Derived.Deep.DeepCutAuto
namespace Go.Proofs.Ytahdhgaoofpefaa
open Go.RowKit
set_option linter.unusedVariables false
set_option linter.unusedSimpArgs false

def P2.low (p : P2) : Prop := 0 ≤ p.x ∧ p.x ≤ 1048575 ∧ 0 ≤ p.y ∧ p.y ≤ 1048575
theorem P2.low.ok {p : P2} (h : p.low) : p.ok := by unfold P2.low at h; unfold P2.ok; omega
theorem sm_low {x : Int} (h : 0 ≤ x) (h' : x ≤ 1048575) : sm x = x := by unfold sm; omega

theorem tn_swap0 (a b p : P2) : (tn b a p == 0) = (tn a b p == 0) := by
  have h : tn b a p = -tn a b p := by
    unfold tn turnI cmpI
    have e : (a.x - b.x) * (p.y - b.y) - (a.y - b.y) * (p.x - b.x) = -((b.x - a.x) * (p.y - a.y) - (b.y - a.y) * (p.x - a.x)) := by
      simp only [Int.sub_mul, Int.mul_sub]
      have e1 := Int.mul_comm a.x b.y
      have e2 := Int.mul_comm b.x a.y
      have e3 := Int.mul_comm a.x a.y
      have e4 := Int.mul_comm b.x b.y
      omega
    split <;> split <;> (try split) <;> (try split) <;> omega
  rw [h]
  by_cases e : tn a b p = 0
  · rw [e]; rfl
  · rw [beq_eq_false_iff_ne.2 e, beq_eq_false_iff_ne.2 (by omega)]

/-- What the law's walk asks, of a side and of the same side turned. -/
theorem on_ways (a b p : P2) : ∃ r, onB a b p = r ∧ ((∃ z, (tn a b p == 0) = false ∧ (tn b a p == 0) = false ∧ r = false ∧ z = (0 : Int)) ∨
    ((tn a b p == 0) = true ∧ (tn b a p == 0) = true ∧ decide (min a.x b.x ≤ p.x) = false ∧ decide (min b.x a.x ≤ p.x) = false ∧ r = false) ∨
    ((tn a b p == 0) = true ∧ (tn b a p == 0) = true ∧ min a.x b.x ≤ p.x ∧ min b.x a.x ≤ p.x ∧ decide (p.x ≤ max a.x b.x) = false ∧ decide (p.x ≤ max b.x a.x) = false ∧ r = false) ∨
    ((tn a b p == 0) = true ∧ (tn b a p == 0) = true ∧ min a.x b.x ≤ p.x ∧ min b.x a.x ≤ p.x ∧ p.x ≤ max a.x b.x ∧ p.x ≤ max b.x a.x ∧ decide (min a.y b.y ≤ p.y) = false ∧ decide (min b.y a.y ≤ p.y) = false ∧ r = false) ∨
    ((tn a b p == 0) = true ∧ (tn b a p == 0) = true ∧ min a.x b.x ≤ p.x ∧ min b.x a.x ≤ p.x ∧ p.x ≤ max a.x b.x ∧ p.x ≤ max b.x a.x ∧ min a.y b.y ≤ p.y ∧ min b.y a.y ≤ p.y ∧ decide (p.y ≤ max a.y b.y) = false ∧ decide (p.y ≤ max b.y a.y) = false ∧ r = false) ∨
    ((tn a b p == 0) = true ∧ (tn b a p == 0) = true ∧ min a.x b.x ≤ p.x ∧ min b.x a.x ≤ p.x ∧ p.x ≤ max a.x b.x ∧ p.x ≤ max b.x a.x ∧ min a.y b.y ≤ p.y ∧ min b.y a.y ≤ p.y ∧ p.y ≤ max a.y b.y ∧ p.y ≤ max b.y a.y ∧ r = true)) := by
  refine ⟨_, rfl, ?_⟩
  rw [tn_swap0 a b p, Int.min_comm b.x, Int.max_comm b.x, Int.min_comm b.y, Int.max_comm b.y]
  unfold onB btw
  cases ht : tn a b p == 0
  · left; exact ⟨0, rfl, rfl, by simp, rfl⟩
  · right
    by_cases h1 : min a.x b.x ≤ p.x
    · right
      by_cases h2 : p.x ≤ max a.x b.x
      · right
        by_cases h3 : min a.y b.y ≤ p.y
        · right
          by_cases h4 : p.y ≤ max a.y b.y
          · right
            exact ⟨rfl, rfl, h1, h1, h2, h2, h3, h3, h4, h4, by simp; omega⟩
          · left
            exact ⟨rfl, rfl, h1, h1, h2, h2, h3, h3, by simp; omega, by simp; omega, by simp; omega⟩
        · left
          exact ⟨rfl, rfl, h1, h1, h2, h2, by simp; omega, by simp; omega, by simp; omega⟩
      · left
        exact ⟨rfl, rfl, h1, h1, by simp; omega, by simp; omega, by simp; omega⟩
    · left
      exact ⟨rfl, rfl, by simp; omega, by simp; omega, by simp; omega⟩

theorem lawturn2 (ia ib ip : Int) (a b p : P2) (da db dp : Value) (ha : a.low) (hb : b.low) (hp : p.low) (w : World) : Calls Try.prog 28 #[pt ia a.x a.y da, pt ib b.x b.y db, pt ip p.x p.y dp] w fun e w' => e = .returned (.int .i64 (tn a b p)) ∧ Below w.heap.size w w' := by
  have := lawturn_any ia ib ip a.x a.y b.x b.y p.x p.y da db dp ha.ok.1 ha.ok.2.1 ha.ok.2.2.1 ha.ok.2.2.2 hb.ok.1 hb.ok.2.1 hb.ok.2.2.1 hb.ok.2.2.2 hp.ok.1 hp.ok.2.1 hp.ok.2.2.1 hp.ok.2.2.2 w
  rw [sm_low ha.1 ha.2.1, sm_low ha.2.2.1 ha.2.2.2, sm_low hb.1 hb.2.1, sm_low hb.2.2.1 hb.2.2.2, sm_low hp.1 hp.2.1, sm_low hp.2.2.1 hp.2.2.2] at this
  exact this

set_option maxRecDepth 100000 in
set_option maxHeartbeats 8000000 in
theorem lawon_any (ia ib ip : Int) (a b p : P2) (dp : Value) (ha : a.low) (hb : b.low) (hp : p.low) (w : World) (g o cap : Nat) (R : Row w g o 4 2 (fun i => if i = 0 then [.int .i64 ia, .int .u32 a.x, .int .u32 a.y, .string ByteArray.empty] else [.int .i64 ib, .int .u32 b.x, .int .u32 b.y, .string ByteArray.empty])) :
    Calls Try.prog 29 #[.slice (some ⟨g, o, none⟩) 2 cap, pt ip p.x p.y dp] w fun e w' => e = .returned (.bool (onB a b p)) ∧ Below w.heap.size w w' := by
  have T1 := hid (fun w => lawturn2 ia ib ip a b p (.string ByteArray.empty) (.string ByteArray.empty) dp ha hb hp w)
  have T2 := hid (fun w => lawturn2 ib ia ip b a p (.string ByteArray.empty) (.string ByteArray.empty) dp hb ha hp w)
  obtain ⟨r, e, ways⟩ := on_ways a b p
  rw [e]
  clear e ha hb hp
  generalize tn a b p = t1 at *
  generalize tn b a p = t2 at *
  obtain ⟨ax, ay⟩ := a
  obtain ⟨bx, by'⟩ := b
  obtain ⟨px, py⟩ := p
  simp only at *
  have hlt := R.lt
  have k00 := R.at0 (i := 0) (by omega) (v := .int .i64 ia) rfl
  have k01 := R.at1 (i := 0) (by omega) (v := .int .u32 ax) rfl
  have k02 := R.at2 (i := 0) (by omega) (v := .int .u32 ay) rfl
  have k03 := R.at3 (i := 0) (by omega) (v := .string ByteArray.empty) rfl
  have k10 := R.at0 (i := 1) (by omega) (v := .int .i64 ib) rfl
  have k11 := R.at1 (i := 1) (by omega) (v := .int .u32 bx) rfl
  have k12 := R.at2 (i := 1) (by omega) (v := .int .u32 by') rfl
  have k13 := R.at3 (i := 1) (by omega) (v := .string ByteArray.empty) rfl
  simp only [Nat.zero_mul, Nat.one_mul, Nat.add_zero] at k00 k01 k02 k03 k10 k11 k12 k13
  have R0 := hid R
  replace ways := hid ways
  clear k00 k01 k02 k03 k10 k11 k12 k13
  go_enter Try.func29, Try.ntmps29
  go_wp2
  generalize hW : w.alloc _ = W
  have B0 := hid (hW ▸ Blk.new w _ _ : Blk W w.heap.size _)
  have H1 : Hid (Below w.heap.size w W) := hid (hW ▸ Below.alloc (Below.refl _ _) (Nat.le_refl _) _)
  have R1 := hid (R0.out.more H1.out)
  clear hW R0 R
  refine wp_loop_rounds 3 ?_
  rw [rounds_succ]
  go_upto_region 4 with (fail)
  go_cut [6, 7] (fun s6 s7 wx => ∃ p q, s6 = .pointer (some ⟨p, 0, none⟩) ∧ s7 = .pointer (some ⟨q, 0, none⟩) ∧ Blk wx p #[.int .i64 ia, .int .u32 ax, .int .u32 ay, .string ByteArray.empty] ∧ Blk wx q #[.int .i64 ib, .int .u32 bx, .int .u32 by', .string ByteArray.empty] ∧ Below W.heap.size W wx)
  case first =>
    have hlt := R1.out.lt
    have k00 := R1.out.at0 (i := 0) (by omega) (v := .int .i64 ia) rfl
    have k01 := R1.out.at1 (i := 0) (by omega) (v := .int .u32 ax) rfl
    have k02 := R1.out.at2 (i := 0) (by omega) (v := .int .u32 ay) rfl
    have k03 := R1.out.at3 (i := 0) (by omega) (v := .string ByteArray.empty) rfl
    have k10 := R1.out.at0 (i := 1) (by omega) (v := .int .i64 ib) rfl
    have k11 := R1.out.at1 (i := 1) (by omega) (v := .int .u32 bx) rfl
    have k12 := R1.out.at2 (i := 1) (by omega) (v := .int .u32 by') rfl
    have k13 := R1.out.at3 (i := 1) (by omega) (v := .string ByteArray.empty) rfl
    simp only [Nat.zero_mul, Nat.one_mul, Nat.add_zero] at k00 k01 k02 k03 k10 k11 k12 k13
    have h1 : g < W.heap.size + 1 := by omega
    have h2 : g < W.heap.size + 1 + 1 := by omega
    have h3 : g < W.heap.size + 2 := by omega
    have e1 : g ≠ W.heap.size := by omega
    have e2 : g ≠ W.heap.size + 1 := by omega
    have e3 : g ≠ W.heap.size + 1 + 1 := by omega
    go_region
    all_goals
      go_wp2_with fail
      go_meet
      case rel => first
        | exact ⟨_, _, rfl, rfl, (boxed2 (Below.drew (Below.refl _ _))).1, (boxed2 (Below.drew (Below.refl _ _))).2.1, (boxed2 (Below.drew (Below.refl _ _))).2.2⟩
        | exact ⟨_, _, rfl, rfl, (boxed2 (Below.drew (Below.refl _ _))).2.1, (boxed2 (Below.drew (Below.refl _ _))).1, (boxed2 (Below.drew (Below.refl _ _))).2.2⟩
  case rest =>
    obtain ⟨p, q, rfl, rfl, P0, Q0, H2⟩ := hcut
    have B1 := hid (B0.out.more H2)
    have R2 := hid (R1.out.more H2)
    have H3 := hid (below2 H1.out H2 (by have := H1.out.size; omega))
    clear H2 B0 R1 H1
    have ways := ways.out
    rcases ways with ⟨_, g1, g1', rfl, _⟩ | ⟨g1, g1', g2, g2', rfl⟩ | ⟨g1, g1', g2, g2', g3, g3', rfl⟩ | ⟨g1, g1', g2, g2', g3, g3', g4, g4', rfl⟩ | ⟨g1, g1', g2, g2', g3, g3', g4, g4', g5, g5', rfl⟩ | ⟨g1, g1', g2, g2', g3, g3', g4, g4', g5, g5', rfl⟩
    all_goals
      have P0' := hid P0
      have Q0' := hid Q0
      obtain ⟨l0, c0, f0⟩ := B1.out
      obtain ⟨l1, c1, f1⟩ := P0
      obtain ⟨l2, c2, f2⟩ := Q0
      go_wp2_with fail
      refine (T1.out _).mono ?_
      rintro e w4 ⟨rfl, hb4⟩
      have B2 := hid (B1.out.more hb4)
      have R3 := hid (R2.out.more hb4)
      have P1 := hid (P0'.out.more hb4)
      have Q1 := hid (Q0'.out.more hb4)
      have H4 := hid (below2 H3.out hb4 H3.out.size)
      clear l0 c0 f0 l1 c1 f1 l2 c2 f2 hb4 H3 B1 R2 P0' Q0'
      obtain ⟨l0, c0, f0⟩ := B2.out
      obtain ⟨l1, c1, f1⟩ := P1.out
      obtain ⟨l2, c2, f2⟩ := Q1.out
    rotate_left 5
    · go_wp2
      go_ret
      exact ⟨rfl, H4.out⟩
    all_goals
      go_wp2_with fail
      rw [rounds_succ]
      clear l0 c0 f0 l1 c1 f1 l2 c2 f2 P1 Q1
      go_upto_region 4 with (fail)
      go_cut [6, 7] (fun s6 s7 wx => ∃ p q, s6 = .pointer (some ⟨p, 0, none⟩) ∧ s7 = .pointer (some ⟨q, 0, none⟩) ∧ Blk wx p #[.int .i64 ib, .int .u32 bx, .int .u32 by', .string ByteArray.empty] ∧ Blk wx q #[.int .i64 ia, .int .u32 ax, .int .u32 ay, .string ByteArray.empty] ∧ Below w4.heap.size w4 wx)
      case first =>
        have hlt := R3.out.lt
        have k00 := R3.out.at0 (i := 0) (by omega) (v := .int .i64 ia) rfl
        have k01 := R3.out.at1 (i := 0) (by omega) (v := .int .u32 ax) rfl
        have k02 := R3.out.at2 (i := 0) (by omega) (v := .int .u32 ay) rfl
        have k03 := R3.out.at3 (i := 0) (by omega) (v := .string ByteArray.empty) rfl
        have k10 := R3.out.at0 (i := 1) (by omega) (v := .int .i64 ib) rfl
        have k11 := R3.out.at1 (i := 1) (by omega) (v := .int .u32 bx) rfl
        have k12 := R3.out.at2 (i := 1) (by omega) (v := .int .u32 by') rfl
        have k13 := R3.out.at3 (i := 1) (by omega) (v := .string ByteArray.empty) rfl
        simp only [Nat.zero_mul, Nat.one_mul, Nat.add_zero] at k00 k01 k02 k03 k10 k11 k12 k13
        have h1 : g < w4.heap.size + 1 := by omega
        have h2 : g < w4.heap.size + 1 + 1 := by omega
        have h3 : g < w4.heap.size + 2 := by omega
        have e1 : g ≠ w4.heap.size := by omega
        have e2 : g ≠ w4.heap.size + 1 := by omega
        have e3 : g ≠ w4.heap.size + 1 + 1 := by omega
        go_region
        all_goals
          go_wp2_with fail
          go_meet
          case rel => first
            | exact ⟨_, _, rfl, rfl, (boxed2 (Below.drew (Below.refl _ _))).1, (boxed2 (Below.drew (Below.refl _ _))).2.1, (boxed2 (Below.drew (Below.refl _ _))).2.2⟩
            | exact ⟨_, _, rfl, rfl, (boxed2 (Below.drew (Below.refl _ _))).2.1, (boxed2 (Below.drew (Below.refl _ _))).1, (boxed2 (Below.drew (Below.refl _ _))).2.2⟩
      case rest =>
        obtain ⟨p', q', rfl, rfl, P2, Q2, H5⟩ := hcut
        have B3 := hid (B2.out.more H5)
        have H6 := hid (below2 H4.out H5 H4.out.size)
        have P2' := hid P2
        have Q2' := hid Q2
        clear H5 B2 R3 H4
        obtain ⟨l0, c0, f0⟩ := B3.out
        obtain ⟨l1, c1, f1⟩ := P2
        obtain ⟨l2, c2, f2⟩ := Q2
        go_wp2_with fail
        refine (T2.out _).mono ?_
        rintro e w7 ⟨rfl, hb7⟩
        have B4 := hid (B3.out.more hb7)
        have P3 := hid (P2'.out.more hb7)
        have Q3 := hid (Q2'.out.more hb7)
        have H7 := hid (below2 H6.out hb7 H6.out.size)
        clear l0 c0 f0 l1 c1 f1 l2 c2 f2 hb7 H6 B3 P2' Q2'
        obtain ⟨l0, c0, f0⟩ := B4.out
        obtain ⟨l1, c1, f1⟩ := P3.out
        obtain ⟨l2, c2, f2⟩ := Q3.out
        go_wp2_with fail
        rw [rounds_succ]
        go_wp2
        go_ret
        exact ⟨rfl, H7.out⟩
end Go.Proofs.Ytahdhgaoofpefaa
