/-
  Layer 46: all legs, their sum, and how often it turns, are one by one as the page says. The walk of TrackLegs.
-/
import Derived.Test.YtjenhnigdgkkoaaTrackAlive
import Derived.Test.YtjenhnigdgkkoaaTrackTurns
import Derived.Test.YtjenhnigdgkkoaaWideTells
import Derived.Deep.DeepCutAuto
import Derived.Outline
namespace Go.Proofs.Ytjenhnigdgkkoaa
open Go.RowKit
set_option linter.unusedVariables false
set_option linter.unusedSimpArgs false

@[go_sem high] theorem neq_dist (a b : Int) (w : World) : (binOp .neq 34 (.agg #[.int .u64 a, .int .u64 b]) (.agg #[.int .u64 a, .int .u64 b])).run Try.prog w = .ok (.bool false) w := by
  rw [run_neq_struct]
  simp [go_sem]
@[go_sem high] theorem eql_dist (a b : Int) (w : World) : (binOp .eql 34 (.agg #[.int .u64 a, .int .u64 b]) (.agg #[.int .u64 a, .int .u64 b])).run Try.prog w = .ok (.bool true) w := by
  rw [run_eql_struct]
  simp [go_sem]

/-- The sum with its carry, as the law goes. -/
theorem add_ways (S D : D2) (hS : S.ok) (hD : D.ok) : ∃ lo hi, IntKind.u64.wrap (S.l + D.l) = lo ∧ (addD S D) = ⟨hi, lo⟩ ∧ ((lo < D.l ∧ ∃ h1, IntKind.u64.wrap (S.h + 1) = h1 ∧ IntKind.u64.wrap (h1 + D.h) = hi) ∨ (¬ lo < D.l ∧ IntKind.u64.wrap (S.h + D.h) = hi)) := by
  obtain ⟨a, b⟩ := S
  obtain ⟨c, d⟩ := D
  unfold D2.ok at hS hD
  simp only at hS hD
  have wr : ∀ n : Int, IntKind.u64.wrap n = n % 18446744073709551616 := fun n => by simp [IntKind.wrap, IntKind.bits, IntKind.signed]
  refine ⟨loS b d, hiS a b c d, ?_, rfl, ?_⟩
  · rw [wr]; rfl
  · unfold loS hiS caS
    by_cases h : (b + d) % 18446744073709551616 < d
    · refine .inl ⟨h, _, rfl, ?_⟩
      have q : (b + d) / 18446744073709551616 = 1 := by omega
      rw [wr, wr, q]
      show ((a + 1) % 18446744073709551616 + c) % 18446744073709551616 = (a + c + 1) % 18446744073709551616
      omega
    · refine .inr ⟨h, ?_⟩
      have q : (b + d) / 18446744073709551616 = 0 := by omega
      rw [wr, q]
      show (a + c) % 18446744073709551616 = (a + c + 0) % 18446744073709551616
      omega

set_option maxRecDepth 100000 in
set_option maxHeartbeats 8000000 in
theorem trackLegs (p : Option Addr) (n cap : Nat) (f : Nat → Pt) (hf : ∀ i, (f i).ok) (h1 : n ≤ cap) (h2 : cap ≤ maxLen) (w : World) (HA : RowP w p 4 n (fun i => pcells (f i))) :
    Calls Try.prog 5 #[.slice p n cap] w fun e w' => e = .returned (.bool true) ∧ Below w.heap.size w w' := by
  have HAh := hid HA
  have hfh := hid hf
  have h12 := hid (And.intro h1 h2)
  have KA := hid alive46
  have h2' : cap ≤ 9223372036854775807 := by unfold maxLen at h2; exact h2
  clear HA hf h2
  go_enter Try.func5, Try.ntmps5
  go_wp2_with fail
  refine (KA.out _).mono ?_
  rintro e w1 ⟨rfl, hb1⟩
  have D1 := hid hb1
  clear hb1 KA
  go_upto_if 18 with (fail)
  go_cut [0] (fun s wx => ∃ N, N ≤ n ∧ N ≤ 60 ∧ s = .slice p N cap ∧ Below w.heap.size w wx)
  case first =>
    by_cases g : 60 < (n : Int)
    · have gc : (60 : Int) ≤ (cap : Int) := by omega
      go_wp2_with fail
      go_meet
      case rel => exact ⟨60, by omega, by omega, rfl, D1.out⟩
    · go_wp2_with fail
      go_meet
      case rel => exact ⟨n, by omega, by omega, rfl, D1.out⟩
  case rest =>
    obtain ⟨N, hN, hN60, rfl, hb2⟩ := hcut
    have D2' := hid hb2
    have hNc : (N : Int) ≤ (cap : Int) := by omega
    have HN := hid (HAh.out.take hN)
    obtain ⟨m1, m2⟩ := h12.out
    have KL := hid (fun wx (hbx : Below w.heap.size w wx) => legs_any p N cap f hfh.out (by omega) m2 hN60 wx (HN.out.more hbx))
    have KM := hid (fun wx (hbx : Below w.heap.size w wx) => length_any p N cap f hfh.out (by omega) m2 hN60 wx (HN.out.more hbx))
    have KU := hid (fun wx (hbx : Below w.heap.size w wx) => turns_any p N cap f hfh.out hN60 wx (HN.out.more hbx))
    clear D1 hb2 HAh m1 m2 h12
    go_wp2_with fail
    refine (KL.out _ D2'.out).mono ?_
    rintro e w3 ⟨v, rfl, HD, hb3⟩
    have D3 := hid (below2 D2'.out hb3 D2'.out.size)
    obtain ⟨pv, cv, rfl, c1, c2, RD⟩ := HD.open
    have hown : ∀ b o, pv = some ⟨b, o, none⟩ → b < w3.heap.size := fun b o e => by
      subst e
      have := (HD.lt b rfl).2
      exact this
    rw [legsTo_len] at c1 RD ⊢
    obtain ⟨M, hM⟩ : ∃ M, N - 1 = M := ⟨_, rfl⟩
    rw [hM] at c1 RD ⊢
    have hmax : max ((N : Int) - 1) 0 = (M : Int) := by omega
    have hb4 : Below w3.heap.size w3 (w3.alloc (.cells #[.int .u64 0, .int .u64 0] 34)) := (Below.refl _ _).alloc (Nat.le_refl _) _
    have RD4 := hid (RD.more hb4)
    have BS4 := hid (Blk.new w3 #[.int .u64 0, .int .u64 0] 34)
    have D4 := hid (below2 D3.out hb4 D3.out.size)
    have hownh := hid hown
    have hMh := hid hM
    clear hb3 hb4 HD RD hown hM KL
    have hgb := hid (show w.heap.size ≤ w3.heap.size from D3.out.size)
    obtain ⟨g, hg⟩ : ∃ g, w3.heap.size = g := ⟨_, rfl⟩
    rw [hg] at BS4 hownh hgb
    go_wp2_with fail
    go_loopw [5, 6, 7] (fun a b i wr => ∃ k : Nat, (k + 1 ≤ N ∨ k = 0) ∧ i = .int .i64 ((k : Int) + 1) ∧ a = .int .i64 (lft f (k - 1)) ∧ b = .int .i64 (rgt f (k - 1)) ∧ Blk wr g #[.int .u64 (sumTo f k).h, .int .u64 (sumTo f k).l] ∧ RowP wr pv 2 M (fun i => dcells (diAt (legsTo f M) i)) ∧ Below w.heap.size w wr) (fun _ _ i _ => N + 2 - (intOf i).toNat)
    case atStart => exact ⟨0, .inr rfl, by simp, rfl, rfl, BS4.out, RD4.out, D4.out⟩
    case round =>
      obtain ⟨k, hk, rfl, rfl, rfl, BS, RD, hb⟩ := hrel
      by_cases hlt : k + 1 < N
      · have hq0 : (0 : Int) ≤ (k : Int) := by omega
        have hq1 : (0 : Int) ≤ (k : Int) + 1 := by omega
        have hq2 : (k : Int) < (N : Int) := by omega
        have hq3 : (k : Int) + 1 < (N : Int) := by omega
        have hw0 : IntKind.i64.wrap (k : Int) = (k : Int) := IntWalk.i64_in _ ⟨by omega, by omega⟩
        have hw1 : IntKind.i64.wrap ((k : Int) + 1) = (k : Int) + 1 := IntWalk.i64_in _ ⟨by omega, by omega⟩
        have hw2 : IntKind.i64.wrap ((k : Int) + 1 - 1) = (k : Int) := by rw [show (k : Int) + 1 - 1 = (k : Int) by omega]; exact hw0
        have hq6 : ((k : Int) + 1).toNat = k + 1 := by omega
        obtain ⟨b, o, rfl, R0⟩ := HN.out.row (by omega)
        have R0lt := hid R0.lt
        have R := R0.more hb
        have hkM : k < M := by have := hMh.out; omega
        have hkM' : (k : Int) < (M : Int) := by omega
        obtain ⟨b2, o2, e2, RL⟩ := RD.row (by omega)
        have hb2g := hownh.out b2 o2 e2
        have RDh := hid RD
        subst e2
        have hat := legsTo_at f M k hkM
        have y0 := RL.at0 (i := k) hkM (v := .int .u64 (leg f k).h) (by show (dcells (diAt (legsTo f M) k))[0]? = _; rw [hat]; rfl)
        have y1 := RL.at1 (i := k) hkM (v := .int .u64 (leg f k).l) (by show (dcells (diAt (legsTo f M) k))[1]? = _; rw [hat]; rfl)
        have x1 := R.at1 (i := k) (by omega) (v := .int .u32 (f k).x) rfl
        have x2 := R.at2 (i := k) (by omega) (v := .int .u32 (f k).y) rfl
        have z1 := R.at1 hlt (v := .int .u32 (f (k + 1)).x) rfl
        have z2 := R.at2 hlt (v := .int .u32 (f (k + 1)).y) rfl
        have ok1 := hfh.out k
        have ok2 := hfh.out (k + 1)
        unfold Pt.ok at ok1 ok2
        have KB : Hid (∀ w, Calls Try.prog 20 #[.int .u32 (f k).x, .int .u32 (f k).y, .int .u32 (f (k + 1)).x, .int .u32 (f (k + 1)).y] w fun e w' => e = .returned (.tuple #[.int .u64 (leg f k).h, .int .u64 (leg f k).l]) ∧ w = w') :=
          hid (fun w => ref_between _ _ _ _ (by omega) (by omega) (by omega) (by omega) (by omega) (by omega) (by omega) (by omega) w)
        have hkW := hid (show wr.cell? ⟨b, o + k * 4 + 1, none⟩ = some (.int .u32 (f k).x) ∧ wr.cell? ⟨b, o + k * 4 + 2, none⟩ = some (.int .u32 (f k).y) ∧ wr.cell? ⟨b, o + (k + 1) * 4 + 1, none⟩ = some (.int .u32 (f (k + 1)).x) ∧ wr.cell? ⟨b, o + (k + 1) * 4 + 2, none⟩ = some (.int .u32 (f (k + 1)).y) from ⟨x1, x2, z1, z2⟩)
        obtain ⟨lo, hi, e1, e3, ways⟩ := add_ways (sumTo f k) (leg f k) (sumTo_ok f k) (leg_ok f k)
        have hsum : sumTo f (k + 1) = ⟨hi, lo⟩ := e3
        replace hsum := hid hsum
        have RN := hid R
        have hbh := hid hb
        have y01 := hid (And.intro y0 y1)
        have BSh := hid BS
        replace ways := hid ways
        generalize sumTo f k = S at *
        generalize leg f k = D at *
        clear e3 hat RL RD R R0 hb x1 x2 z1 z2 ok1 ok2 y0 y1 BS
        have hl1 := lft_bd f (k - 1)
        have hr1 := rgt_bd f (k - 1)
        have hbg := hid (show b < g by have h1 := D4.out.size; have := hgb.out; exact Nat.lt_of_lt_of_le (R0lt.out) this)
        obtain ⟨LL, hLL⟩ : ∃ LL, lft f (k - 1) = LL := ⟨_, rfl⟩
        obtain ⟨GG, hGG⟩ : ∃ GG, rgt f (k - 1) = GG := ⟨_, rfl⟩
        rw [hLL] at hl1 ⊢
        rw [hGG] at hr1 ⊢
        have z0L := hid (show k = 0 → lft f (k + 1 - 1) = LL from fun h => by subst h; exact hLL)
        have z0G := hid (show k = 0 → rgt f (k + 1 - 1) = GG from fun h => by subst h; exact hGG)
        have nxL := hid (show 1 ≤ k → lft f (k + 1 - 1) = LL + max (tnAt f (k - 1)) 0 from fun h => by obtain ⟨j, rfl⟩ : ∃ j, k = j + 1 := ⟨k - 1, by omega⟩; rw [← hLL]; rfl)
        have nxG := hid (show 1 ≤ k → rgt f (k + 1 - 1) = GG + max (-tnAt f (k - 1)) 0 from fun h => by obtain ⟨j, rfl⟩ : ∃ j, k = j + 1 := ⟨k - 1, by omega⟩; rw [← hGG]; rfl)
        clear hLL hGG
        go_wp2_with fail
        go_region_held3 (fun w' => w'.cell? ⟨b, o + k * 4 + 1, none⟩ = some (.int .u32 (f k).x) ∧ w'.cell? ⟨b, o + k * 4 + 2, none⟩ = some (.int .u32 (f k).y) ∧ w'.cell? ⟨b, o + (k + 1) * 4 + 1, none⟩ = some (.int .u32 (f (k + 1)).x) ∧ w'.cell? ⟨b, o + (k + 1) * 4 + 2, none⟩ = some (.int .u32 (f (k + 1)).y)) (first | exact hkW.out | go_keep)
          (((with_reducible refine (KB.out _).mono ?_); rintro e w3 ⟨rfl, rfl⟩))
        have h3 : Below wr.heap.size wr wr.drew := (Below.refl _ _).drew
        obtain ⟨w4, hw4⟩ : ∃ w4, wr.drew = w4 := ⟨_, rfl⟩
        rw [hw4] at h3 ⊢
        clear hw4 KB
        have hb4 := hid (hbh.out.trans (h3.mono hbh.out.size))
        have RN4 := hid (RN.out.more h3)
        have RD4 := hid (RDh.out.more h3)
        have BS4' := hid (BSh.out.more h3)
        have y0 := (h3.cell (p := ⟨b2, o2 + k * 2, none⟩) (cell_lt y01.out.1)).trans y01.out.1
        have y1 := (h3.cell (p := ⟨b2, o2 + k * 2 + 1, none⟩) (cell_lt y01.out.2)).trans y01.out.2
        obtain ⟨lS, kS, fS⟩ := BS4'.out
        clear h3
        rcases ways.out with ⟨gw, hh, e4, e5⟩ | ⟨gw, e5⟩
        · clear ways
          go_wp2_with fail
          · have hk1 : 1 ≤ k := by omega
            have E1 := Blk.fill [.int .u64 hi, .int .u64 lo] 0 (BS4'.out.set 0 (.int .u64 hh) (by simp)) (by simp)
            have S6 := (Sole.setCell (S := fun k => k = g) (b := g) (o := 0) w4 (.int .u64 hh) rfl).trans (sole_fillD (b := g) [.int .u64 hi, .int .u64 lo] 0 _)
            simp only [fillC, setAll] at E1 S6
            obtain ⟨w5, hw5⟩ : ∃ w5, ((w4.setCell ⟨g, 0, none⟩ (.int .u64 hh)).setCell ⟨g, 0, none⟩ (.int .u64 hi)).setCell ⟨g, 1, none⟩ (.int .u64 lo) = w5 := ⟨_, rfl⟩
            rw [hw5] at E1 S6 ⊢
            have E5 := hid (show Blk w5 g #[.int .u64 hi, .int .u64 lo] by simpa using E1)
            have RD5 := hid (rowp_sole RD4.out S6 (fun b' o' e' h => by cases e'; have h' : b2 = g := h; omega))
            have R5 : RowP w5 (some ⟨b, o, none⟩) 4 N (fun i => pcells (f i)) := rowp_sole (.inr ⟨b, o, rfl, RN4.out⟩) S6 (fun b' o' e' h => by cases e'; have h' : b = g := h; have := hbg.out; omega)
            have hb5 := hid (hb4.out.trans (S6.below (B := w.heap.size) hb4.out.size fun j hj => by have h' : j = g := hj; have := hgb.out; omega))
            obtain ⟨b', o', e', R6⟩ := R5.row (by omega)
            cases e'
            clear hw5 E1 S6 R5
            obtain ⟨J, hJ⟩ : ∃ J, k - 1 = J := ⟨_, rfl⟩
            have hJ0 : (J : Int) < (N : Int) := by omega
            have hJ1 : (0 : Int) ≤ (J : Int) := by omega
            have hs2 : (k : Int) + 1 - 2 = (J : Int) := by omega
            have hs1 : (k : Int) + 1 - 1 = (k : Int) := by omega
            have hws : IntKind.i64.wrap ((k : Int) + 1 - 2) = (J : Int) := by rw [hs2]; exact IntWalk.i64_in _ ⟨by omega, by omega⟩
            have cc : ∀ (c oo : Nat) (v : Value), w5.cell? ⟨c, oo, none⟩ = some v → ∀ u : Later w5, u.val.cell? ⟨c, oo, none⟩ = some v := fun c oo v hv u => (u.cell c oo (cell_lt hv)).trans hv
            have p0 := cc _ _ _ (R6.at0 (i := J) (by omega) (v := .int .i64 (f J).id) rfl)
            have p1 := cc _ _ _ (R6.at1 (i := J) (by omega) (v := .int .u32 (f J).x) rfl)
            have p2 := cc _ _ _ (R6.at2 (i := J) (by omega) (v := .int .u32 (f J).y) rfl)
            have p3 := cc _ _ _ (R6.at3 (i := J) (by omega) (v := .string (f J).d) rfl)
            have q0 := cc _ _ _ (R6.at0 (i := k) (by omega) (v := .int .i64 (f k).id) rfl)
            have q1 := cc _ _ _ (R6.at1 (i := k) (by omega) (v := .int .u32 (f k).x) rfl)
            have q2 := cc _ _ _ (R6.at2 (i := k) (by omega) (v := .int .u32 (f k).y) rfl)
            have q3 := cc _ _ _ (R6.at3 (i := k) (by omega) (v := .string (f k).d) rfl)
            have r0 := cc _ _ _ (R6.at0 (i := k + 1) (by omega) (v := .int .i64 (f (k + 1)).id) rfl)
            have r1 := cc _ _ _ (R6.at1 (i := k + 1) (by omega) (v := .int .u32 (f (k + 1)).x) rfl)
            have r2 := cc _ _ _ (R6.at2 (i := k + 1) (by omega) (v := .int .u32 (f (k + 1)).y) rfl)
            have r3 := cc _ _ _ (R6.at3 (i := k + 1) (by omega) (v := .string (f (k + 1)).d) rfl)
            have KT : Hid (∀ w, Calls Try.prog 21 #[.agg #[.int .i64 (f J).id, .int .u32 (f J).x, .int .u32 (f J).y, .string (f J).d], .agg #[.int .i64 (f k).id, .int .u32 (f k).x, .int .u32 (f k).y, .string (f k).d], .agg #[.int .i64 (f (k + 1)).id, .int .u32 (f (k + 1)).x, .int .u32 (f (k + 1)).y, .string (f (k + 1)).d]] w fun e w' => e = .returned (.int .i64 (tnAt f J)) ∧ Below w.heap.size w w') := by
              refine hid (fun w => ?_)
              have h := turn46 (f J) (f (J + 1)) (f (J + 2)) (hfh.out _) (hfh.out _) (hfh.out _) w
              rw [show J + 1 = k by omega, show J + 2 = k + 1 by omega] at h
              have ht : tnAt f J = tn (_root_.Go.Proofs.Ytjenhnigdgkkoaa.p2 (f J)) (_root_.Go.Proofs.Ytjenhnigdgkkoaa.p2 (f k)) (_root_.Go.Proofs.Ytjenhnigdgkkoaa.p2 (f (k + 1))) := by unfold tnAt; rw [show J + 1 = k by omega, show J + 2 = k + 1 by omega]
              rw [ht]
              exact h
            have n1 := nxL.out hk1
            have n2 := nxG.out hk1
            rw [hJ] at n1 n2
            have h3 := tnAt_three f J
            generalize tnAt f J = t at *
            have n1' := hid n1
            have n2' := hid n2
            clear cc R6 n1 n2 hJ lS kS fS y0 y1
            rcases h3 with rfl | rfl | rfl
            all_goals
              refine wp_region_late 14 (by kernel_rfl) (by kernel_rfl) ?_
              simp only [List.take_succ_cons, List.take_zero, List.drop_succ_cons, List.drop_zero]
              iterate 14 (go_big_quiet_step (fail))
              refine wpQuiet_nil ?_
              intro w6 h6'
              have h6 := late_out h6'
              have E6 := hid (E5.out.more h6)
              have RD6 := hid (RD5.out.more h6)
              have hb6 := hid (hb5.out.trans (h6.mono hb5.out.size))
              clear h6 h6' p0 p1 p2 p3 q0 q1 q2 q3 r0 r1 r2 r3
              go_wp2_with fail
              refine (KT.out _).mono ?_
              rintro e w7 ⟨rfl, hb7⟩
              have E7 := hid (E6.out.more hb7)
              have RD7 := hid (RD6.out.more hb7)
              have hb8 := hid (below2 hb6.out hb7 hb6.out.size)
              clear hb7 KT
              go_wp2_with fail
              refine ⟨⟨k + 1, .inl (by omega), by go_num, by (rw [n1'.out]; try go_num), by (rw [n2'.out]; try go_num), by rw [hsum.out]; exact E7.out, RD7.out, hb8.out⟩, by simp [intOf]; omega⟩
          · have hk0 : k = 0 := by omega
            have E1 := Blk.fill [.int .u64 hi, .int .u64 lo] 0 (BS4'.out.set 0 (.int .u64 hh) (by simp)) (by simp)
            have S6 := (Sole.setCell (S := fun k => k = g) (b := g) (o := 0) w4 (.int .u64 hh) rfl).trans (sole_fillD (b := g) [.int .u64 hi, .int .u64 lo] 0 _)
            simp only [fillC, setAll] at E1 S6
            refine ⟨⟨k + 1, .inl (by omega), by go_num, by rw [z0L.out hk0], by rw [z0G.out hk0], by rw [hsum.out]; simpa using E1, rowp_sole RD4.out S6 (fun b' o' e' h => by cases e'; have h' : b2 = g := h; omega), hb4.out.trans (S6.below (B := w.heap.size) hb4.out.size fun j hj => by have h' : j = g := hj; have := hgb.out; omega)⟩, by simp [intOf]; omega⟩
        · clear ways
          go_wp2_with fail
          · have hk1 : 1 ≤ k := by omega
            have E1 := Blk.fill [.int .u64 hi, .int .u64 lo] 0 BS4'.out (by simp)
            have S6 := sole_fillD (b := g) [.int .u64 hi, .int .u64 lo] 0 w4
            simp only [fillC, setAll] at E1 S6
            obtain ⟨w5, hw5⟩ : ∃ w5, (w4.setCell ⟨g, 0, none⟩ (.int .u64 hi)).setCell ⟨g, 1, none⟩ (.int .u64 lo) = w5 := ⟨_, rfl⟩
            rw [hw5] at E1 S6 ⊢
            have E5 := hid (show Blk w5 g #[.int .u64 hi, .int .u64 lo] by simpa using E1)
            have RD5 := hid (rowp_sole RD4.out S6 (fun b' o' e' h => by cases e'; have h' : b2 = g := h; omega))
            have R5 : RowP w5 (some ⟨b, o, none⟩) 4 N (fun i => pcells (f i)) := rowp_sole (.inr ⟨b, o, rfl, RN4.out⟩) S6 (fun b' o' e' h => by cases e'; have h' : b = g := h; have := hbg.out; omega)
            have hb5 := hid (hb4.out.trans (S6.below (B := w.heap.size) hb4.out.size fun j hj => by have h' : j = g := hj; have := hgb.out; omega))
            obtain ⟨b', o', e', R6⟩ := R5.row (by omega)
            cases e'
            clear hw5 E1 S6 R5
            obtain ⟨J, hJ⟩ : ∃ J, k - 1 = J := ⟨_, rfl⟩
            have hJ0 : (J : Int) < (N : Int) := by omega
            have hJ1 : (0 : Int) ≤ (J : Int) := by omega
            have hs2 : (k : Int) + 1 - 2 = (J : Int) := by omega
            have hs1 : (k : Int) + 1 - 1 = (k : Int) := by omega
            have hws : IntKind.i64.wrap ((k : Int) + 1 - 2) = (J : Int) := by rw [hs2]; exact IntWalk.i64_in _ ⟨by omega, by omega⟩
            have cc : ∀ (c oo : Nat) (v : Value), w5.cell? ⟨c, oo, none⟩ = some v → ∀ u : Later w5, u.val.cell? ⟨c, oo, none⟩ = some v := fun c oo v hv u => (u.cell c oo (cell_lt hv)).trans hv
            have p0 := cc _ _ _ (R6.at0 (i := J) (by omega) (v := .int .i64 (f J).id) rfl)
            have p1 := cc _ _ _ (R6.at1 (i := J) (by omega) (v := .int .u32 (f J).x) rfl)
            have p2 := cc _ _ _ (R6.at2 (i := J) (by omega) (v := .int .u32 (f J).y) rfl)
            have p3 := cc _ _ _ (R6.at3 (i := J) (by omega) (v := .string (f J).d) rfl)
            have q0 := cc _ _ _ (R6.at0 (i := k) (by omega) (v := .int .i64 (f k).id) rfl)
            have q1 := cc _ _ _ (R6.at1 (i := k) (by omega) (v := .int .u32 (f k).x) rfl)
            have q2 := cc _ _ _ (R6.at2 (i := k) (by omega) (v := .int .u32 (f k).y) rfl)
            have q3 := cc _ _ _ (R6.at3 (i := k) (by omega) (v := .string (f k).d) rfl)
            have r0 := cc _ _ _ (R6.at0 (i := k + 1) (by omega) (v := .int .i64 (f (k + 1)).id) rfl)
            have r1 := cc _ _ _ (R6.at1 (i := k + 1) (by omega) (v := .int .u32 (f (k + 1)).x) rfl)
            have r2 := cc _ _ _ (R6.at2 (i := k + 1) (by omega) (v := .int .u32 (f (k + 1)).y) rfl)
            have r3 := cc _ _ _ (R6.at3 (i := k + 1) (by omega) (v := .string (f (k + 1)).d) rfl)
            have KT : Hid (∀ w, Calls Try.prog 21 #[.agg #[.int .i64 (f J).id, .int .u32 (f J).x, .int .u32 (f J).y, .string (f J).d], .agg #[.int .i64 (f k).id, .int .u32 (f k).x, .int .u32 (f k).y, .string (f k).d], .agg #[.int .i64 (f (k + 1)).id, .int .u32 (f (k + 1)).x, .int .u32 (f (k + 1)).y, .string (f (k + 1)).d]] w fun e w' => e = .returned (.int .i64 (tnAt f J)) ∧ Below w.heap.size w w') := by
              refine hid (fun w => ?_)
              have h := turn46 (f J) (f (J + 1)) (f (J + 2)) (hfh.out _) (hfh.out _) (hfh.out _) w
              rw [show J + 1 = k by omega, show J + 2 = k + 1 by omega] at h
              have ht : tnAt f J = tn (_root_.Go.Proofs.Ytjenhnigdgkkoaa.p2 (f J)) (_root_.Go.Proofs.Ytjenhnigdgkkoaa.p2 (f k)) (_root_.Go.Proofs.Ytjenhnigdgkkoaa.p2 (f (k + 1))) := by unfold tnAt; rw [show J + 1 = k by omega, show J + 2 = k + 1 by omega]
              rw [ht]
              exact h
            have n1 := nxL.out hk1
            have n2 := nxG.out hk1
            rw [hJ] at n1 n2
            have h3 := tnAt_three f J
            generalize tnAt f J = t at *
            have n1' := hid n1
            have n2' := hid n2
            clear cc R6 n1 n2 hJ lS kS fS y0 y1
            rcases h3 with rfl | rfl | rfl
            all_goals
              refine wp_region_late 14 (by kernel_rfl) (by kernel_rfl) ?_
              simp only [List.take_succ_cons, List.take_zero, List.drop_succ_cons, List.drop_zero]
              iterate 14 (go_big_quiet_step (fail))
              refine wpQuiet_nil ?_
              intro w6 h6'
              have h6 := late_out h6'
              have E6 := hid (E5.out.more h6)
              have RD6 := hid (RD5.out.more h6)
              have hb6 := hid (hb5.out.trans (h6.mono hb5.out.size))
              clear h6 h6' p0 p1 p2 p3 q0 q1 q2 q3 r0 r1 r2 r3
              go_wp2_with fail
              refine (KT.out _).mono ?_
              rintro e w7 ⟨rfl, hb7⟩
              have E7 := hid (E6.out.more hb7)
              have RD7 := hid (RD6.out.more hb7)
              have hb8 := hid (below2 hb6.out hb7 hb6.out.size)
              clear hb7 KT
              go_wp2_with fail
              refine ⟨⟨k + 1, .inl (by omega), by go_num, by (rw [n1'.out]; try go_num), by (rw [n2'.out]; try go_num), by rw [hsum.out]; exact E7.out, RD7.out, hb8.out⟩, by simp [intOf]; omega⟩
          · have hk0 : k = 0 := by omega
            have E1 := Blk.fill [.int .u64 hi, .int .u64 lo] 0 BS4'.out (by simp)
            have S6 := sole_fillD (b := g) [.int .u64 hi, .int .u64 lo] 0 w4
            simp only [fillC, setAll] at E1 S6
            refine ⟨⟨k + 1, .inl (by omega), by go_num, by rw [z0L.out hk0], by rw [z0G.out hk0], by rw [hsum.out]; simpa using E1, rowp_sole RD4.out S6 (fun b' o' e' h => by cases e'; have h' : b2 = g := h; omega), hb4.out.trans (S6.below (B := w.heap.size) hb4.out.size fun j hj => by have h' : j = g := hj; have := hgb.out; omega)⟩, by simp [intOf]; omega⟩
      · have hkM : k = M := by have := hMh.out; omega
        have hlt1 : ¬ (k : Int) + 1 < (N : Int) := by omega
        have hM2 : N - 1 = k := by rw [hMh.out, hkM]
        have hM3 : N - 2 = k - 1 := by omega
        have hbh := hid hb
        have BSh := hid BS
        rw [hM2] at KM
        rw [hM3] at KU
        have hl1 := lft_bd f (k - 1)
        have hr1 := rgt_bd f (k - 1)
        generalize lft f (k - 1) = LL at *
        generalize rgt f (k - 1) = GG at *
        generalize sumTo f k = S at *
        clear hb BS RD hkM hM2 hM3 hk hMh
        go_wp2_with fail
        refine (KU.out _ hbh.out).mono ?_
        rintro e w4 ⟨rfl, hb4⟩
        have BS5 := BSh.out.more hb4
        have D5 := hid (below2 hbh.out hb4 hbh.out.size)
        clear hb4 KU
        go_wp2_with fail
        have q0 := fun u : Later w4 => u.blk BS5
        have BU := hid (fun u : Later w4 => (D5.out.trans (u.h.mono D5.out.size) : Below w.heap.size w u.val))
        have e1 : (LL == LL) = true := by simp
        have e2 : (GG == GG) = true := by simp
        refine wp_region_late 14 (by kernel_rfl) (by kernel_rfl) ?_
        simp only [List.take_succ_cons, List.take_zero, List.drop_succ_cons, List.drop_zero]
        iterate 14 (go_big_quiet_step ((go_at_call 23; (with_reducible exact late_call (KM.out _ (BU.out _))))))
        refine wpQuiet_nil ?_
        intro w5 h5'
        have h5 := late_out h5'
        have D6 := hid (below2 D5.out h5 D5.out.size)
        clear h5' h5 q0
        go_wp2_with fail
        go_ret
        exact ⟨rfl, D6.out⟩
end Go.Proofs.Ytjenhnigdgkkoaa
