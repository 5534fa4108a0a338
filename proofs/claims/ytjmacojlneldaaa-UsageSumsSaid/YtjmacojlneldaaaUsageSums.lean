/-
  Layer 16: all segments' needed sectors together are all; a free segment has none. The walk of UsageSums.
-/
import Derived.Test.YtjmacojlneldaaaUsageLaw
import Derived.Deep.RegionHeld3
namespace Go.Proofs.Ytjmacojlneldaaa
open Go.RowKit
set_option linter.unusedVariables false
set_option linter.unusedSimpArgs false

set_option maxRecDepth 100000 in
set_option maxHeartbeats 2000000 in
theorem usageSums (n z : Int) (c : Array Value) (F : Nat → Int) (hc : Nums c .i64 256 F) (sg og nx : Int) (w : World) :
    Calls Try.prog 7 #[geo n z, .agg c, .agg #[.int .i64 sg, .int .i64 og, .int .i64 nx]] w fun e w' => e = .returned (.bool true) ∧ Below w.heap.size w w' := by
  have KL := hid (fun w => live_any n z c F hc w)
  have KA := hid alive16
  have KN := hid (fun (k : Nat) w => show Calls Try.prog 25 #[geo n z, .agg c, .int .i64 (k : Int)] w fun e w' => ∃ p m cap, e = .returned (.slice p m cap) ∧ (m : Int) = cntI n z F 255 k ∧ Below w.heap.size w w' from
    (needed_any n z c F hc k w).mono fun e w' h => by
      obtain ⟨v, rfl, HI, hb⟩ := h
      obtain ⟨p, cap, rfl, _, _, _⟩ := HI.open
      exact ⟨p, _, cap, rfl, need_cnt n z F k 255, hb⟩)
  have KF := hid (fun w => show Calls Try.prog 24 #[geo n z, .agg c, .agg #[.int .i64 sg, .int .i64 og, .int .i64 nx]] w fun e w' => ∃ p m cap, ∃ g : Nat → Nat, e = .returned (.slice p m cap) ∧ m ≤ 32 ∧ RowP w' p 1 m (fun i => [.int .i64 ((g i : Nat) : Int)]) ∧ (∀ i, i < m → g i < 32 ∧ cntI n z F 255 (g i) = 0) ∧ Below w.heap.size w w' from
    (free_any n z c F hc sg og nx w).mono fun e w' h => by
      obtain ⟨v, rfl, HI, hb⟩ := h
      have hl : (if okB n z then freeL n z F sg nx 32 else []).length ≤ 32 := by
        split
        · exact free_len n z F sg nx 32
        · exact Nat.zero_le _
      have hm : ∀ x ∈ (if okB n z then freeL n z F sg nx 32 else []), ∃ j : Nat, j < 32 ∧ x = j ∧ cntI n z F 255 j = 0 := by
        intro x hx
        split at hx
        · obtain ⟨j, hj, e, hb⟩ := free_mem n z F sg nx 32 x hx
          exact ⟨j, hj, e, free_zero hb⟩
        · cases hx
      generalize (if okB n z then freeL n z F sg nx 32 else []) = L at *
      obtain ⟨p, cap, rfl, _, _, R⟩ := HI.open
      have key : ∀ i, i < L.length → ∃ j : Nat, j < 32 ∧ L.getD i 0 = (j : Int) ∧ cntI n z F 255 j = 0 := fun i hi => hm _ (by simp [List.getD, hi])
      refine ⟨p, _, cap, fun i => (L.getD i 0).toNat, rfl, hl, ?_, ?_, hb⟩
      · rcases R with h | ⟨b, o, e, R⟩
        · exact .inl h
        · refine .inr ⟨b, o, e, R.lt, fun i hi j v hv => R.cell i hi j v ?_⟩
          obtain ⟨q, _, e, _⟩ := key i hi
          have hv' : [Value.int .i64 (((L.getD i 0).toNat : Nat) : Int)][j]? = some v := hv
          rw [e] at hv' ⊢
          exact hv'
      · intro i hi
        obtain ⟨q, h1, e, h2⟩ := key i hi
        show (L.getD i 0).toNat < 32 ∧ cntI n z F 255 (((L.getD i 0).toNat : Nat) : Int) = 0
        rw [e]
        exact ⟨by omega, h2⟩)
  have KS := hid (fun w => full_any n z c F hc w)
  obtain ⟨R, hR⟩ : ∃ R, sumI n z F 32 = R := ⟨_, rfl⟩
  rw [hR] at KS
  have hR' := hid (show ∀ k, k = 32 → sumI n z F k = R from fun k hk => by rw [hk]; exact hR)
  clear hR
  have sz := hc.size
  have one := hc.one
  obtain ⟨B0, B1, B2, H⟩ := @boxed3 w _ #[.int .i64 n, .int .i64 z] c #[.int .i64 sg, .int .i64 og, .int .i64 nx] 43 44 46 (Below.refl _ _)
  have HH := hid H
  have hB0 := hid B0
  have hB1 := hid B1
  have hB2 := hid B2
  unfold geo at *
  clear hc H B1 B2 B0
  go_enter Try.func7, Try.ntmps7
  go_wp2_with fail
  refine (KA.out _).mono ?_
  rintro e w1 ⟨rfl, hb1⟩
  have hbb := hid (below2 HH.out hb1 HH.out.size)
  have C0 := hid (hB0.out.more hb1)
  have C1 := hid (hB1.out.more hb1)
  have C2 := hid (hB2.out.more hb1)
  have hr := hid C1.out.range
  clear hb1 HH hB0 hB1 hB2 KA
  obtain ⟨l0, k0, f0⟩ := C0.out
  go_wp2_with (refine wpList_load_mid rfl 44 _ rfl (w.heap.size + 1) 0 rfl c.toList _ hr.out Try.underlying44 rfl (by rw [tab256]; simp [sz]) ?_)
  refine (KL.out _).mono ?_
  rintro e w2 ⟨d, rfl, ND, hb2⟩
  have NDh := hid ND
  have sd := ND.size
  have oned := ND.one
  have hb3 := hid (below2 hbb.out hb2 hbb.out.size)
  have D0 := hid (C0.out.more hb2)
  have D1 := hid (C1.out.more hb2)
  have D2 := hid (C2.out.more hb2)
  clear hb2 ND KL l0 k0 f0 hbb hr C0 C1 C2
  go_wp2_with (first
    | (refine Go.Great.wpList_runTo rfl (some 7) rfl _ _ (alloc32 _ _ _ _ _ _) ?_)
    | (refine wpList_store_mid rfl 47 _ _ rfl w2.heap.size 0 d rfl rfl ((Blk.new w2 (Array.replicate 32 (.int .i64 0)) 47).there (by rw [sd]; rfl)) (by rw [tab32, sd]) oned ?_))
  generalize hW : World.setCells _ _ _ _ = W3
  obtain ⟨E3, H3⟩ : Blk W3 w2.heap.size d ∧ Below w2.heap.size w2 W3 := by
    subst hW
    exact ⟨(Blk.new w2 (Array.replicate 32 (.int .i64 0)) 47).whole (by rw [sd]; rfl), below_cells ((Below.refl _ _).alloc (Nat.le_refl _) _) (Nat.le_refl _) _ _⟩
  have F0 := hid (D0.out.more H3)
  have F1 := hid (D1.out.more H3)
  have F2 := hid (D2.out.more H3)
  have F3 := hid E3
  have H4 := hid (below2 hb3.out H3 hb3.out.size)
  have hlt2 : w2.heap.size < W3.heap.size := E3.lt
  have hlt0 : w.heap.size + 1 + 1 < W3.heap.size := F2.out.lt
  clear E3 H3 D0 D1 D2 hb3 hW
  generalize w2.heap.size = bt at *
  have hu := Try.underlying44
  have hi2 : (Try.prog.info? 44).map (·.size) = some c.toList.length := by rw [tab256]; simp [sz]
  go_loopw [8, 9] (fun s i wr => ∃ k : Nat, k ≤ 32 ∧ i = .int .i64 (k : Int) ∧ s = .int .i64 (sumI n z F k) ∧ Below W3.heap.size W3 wr) (fun _ i _ => 32 - (intOf i).toNat)
  case atStart => exact ⟨0, by omega, rfl, rfl, Below.refl _ _⟩
  case round =>
    obtain ⟨k, hk, rfl, rfl, Hb⟩ := hrel
    by_cases hlt : k < 32
    · have G0 := F0.out.more Hb
      have G1 := F1.out.more Hb
      have G3 := F3.out.more Hb
      have hs : Hid (sumI n z F (k + 1) = sumI n z F k + cntI n z F 255 k) := hid rfl
      have b1 := sum_bd n z F k
      have b2 := cnt_bd n z F 255 k
      have z3 := (G3.cell k).trans (NDh.out.get k hlt)
      have KN1 := hid (KN.out k)
      have hlt1 : (k : Int) < 32 := by omega
      have hk0 : (0 : Int) ≤ (k : Int) := by omega
      generalize sumI n z F k = s0 at *
      generalize cntI n z F 255 k = x at *
      have hr := G1.range
      have y0 := G0.cell 0
      have y1 := G0.cell 1
      have Hbh := hid Hb
      have Q0 := hid G0
      have Q1 := hid G1
      have Q3 := hid G3
      obtain ⟨l0, k0, f0⟩ := G0
      clear G1 G3 Hb
      go_wp2_with fail
      go_region_held3 (fun w' => w'.cell? ⟨w.heap.size, 0, none⟩ = some (.int .i64 n) ∧ w'.cell? ⟨w.heap.size, 1, none⟩ = some (.int .i64 z) ∧ w'.rangeAt (w.heap.size + 1) 0 c.toList ∧ w'.cell? ⟨bt, k, none⟩ = some (.int .i64 x))
        (first | exact hk5.out | go_keep_ranges)
        ((go_at_call 25; (with_reducible refine (KN1.out _).mono ?_); rintro e w5 ⟨pn, mn, cn, rfl, hm, hb5⟩; have hb35 := hid (below2 ((Below.refl wr.heap.size wr).drew) hb5 (Nat.le_refl _)); have hk5 := hid (show w5.cell? ⟨w.heap.size, 0, none⟩ = some (.int .i64 n) ∧ w5.cell? ⟨w.heap.size, 1, none⟩ = some (.int .i64 z) ∧ w5.rangeAt (w.heap.size + 1) 0 c.toList ∧ w5.cell? ⟨bt, k, none⟩ = some (.int .i64 x) from ⟨(Q0.out.more hb35.out).cell 0, (Q0.out.more hb35.out).cell 1, (Q1.out.more hb35.out).range, ((Q3.out.more hb35.out).cell k).trans ((Q3.out.cell k).symm.trans z3)⟩)))
      have H5 := hid (below2 Hbh.out hb35.out Hbh.out.size)
      clear hk5 hb35 hb5 Q0 Q1 Q3 l0 k0 f0 y0 y1 z3 hr KN1 hm
      go_wp2_with fail
      go_roundw
      case rel => exact ⟨k + 1, by omega, by go_num, by rw [hs.out], H5.out⟩
      case measure => simp [intOf]; omega
    · obtain rfl : k = 32 := by omega
      rw [hR'.out _ rfl]
      have hb1 := sum_bd n z F 32
      rw [hR'.out _ rfl] at hb1
      have G0 := F0.out.more Hb
      have G1 := hid (F1.out.more Hb)
      have G2 := hid (F2.out.more Hb)
      have G3 := hid (F3.out.more Hb)
      have G0h := hid G0
      have Hbh := hid (below2 H4.out Hb H4.out.size)
      have hr := hid G1.out.range
      obtain ⟨l0, k0, f0⟩ := G0
      obtain ⟨l2, k2, f2⟩ := G2.out
      clear Hb KN
      go_wp2_with (refine wpList_load_mid rfl 44 _ rfl (w.heap.size + 1) 0 rfl c.toList _ hr.out Try.underlying44 rfl (by rw [tab256]; simp [sz]) ?_)
      refine (KF.out _).mono ?_
      rintro e w5 ⟨pf, m, cf, g, rfl, hm32, RF, hg, hb5⟩
      have L0 := hid (G0h.out.more hb5)
      have L1 := hid (G1.out.more hb5)
      have L3 := hid (G3.out.more hb5)
      have H5 := hid (below2 Hbh.out hb5 Hbh.out.size)
      have RFh := hid RF
      have hgh := hid hg
      clear hb5 l0 k0 f0 l2 k2 f2 KF G0h G1 G2 G3 Hbh hr RF hg
      go_wp2_with fail
      go_loop [11] (fun i => ∃ k : Nat, k ≤ m ∧ i = .int .i64 (k : Int)) (fun i => m - (intOf i).toNat)
      case atStart => exact ⟨0, by omega, rfl⟩
      case round =>
        obtain ⟨k, hk, rfl⟩ := hrel
        by_cases hlt : k < m
        · obtain ⟨b, o, rfl, RR⟩ := RFh.out.row (by omega)
          have x0 := RR.at0 hlt (v := .int .i64 (g k : Int)) rfl
          rw [Nat.mul_one] at x0
          obtain ⟨g1, g2⟩ := hgh.out k hlt
          have x3 := (L3.out.cell (g k)).trans (NDh.out.get (g k) g1)
          rw [show cntI n z F 255 ((g k : Nat) : Int) = 0 from g2] at x3
          generalize g k = q at *
          have hlt1 : (k : Int) < (m : Int) := by omega
          have hk0 : (0 : Int) ≤ (k : Int) := by omega
          have hq0 : (0 : Int) ≤ (q : Int) := by omega
          have hq1 : (q : Int) < 32 := by omega
          have hq2 : ¬ (q : Int) < 0 := by omega
          have hq3 : ¬ (31 : Int) < (q : Int) := by omega
          have hd2 : decide ((q : Int) < 0) = false := decide_eq_false hq2
          have hd3 : decide ((31 : Int) < (q : Int)) = false := decide_eq_false hq3
          clear RR g2
          go_wp2_with fail
          go_round
          case rel => exact ⟨k + 1, by omega, by go_num⟩
          case measure => simp [intOf]; omega
        · obtain rfl : k = m := by omega
          have hr := hid L1.out.range
          obtain ⟨l0, k0, f0⟩ := L0.out
          go_wp2_with (refine wpList_load_mid rfl 44 _ rfl (w.heap.size + 1) 0 rfl c.toList _ hr.out Try.underlying44 rfl (by rw [tab256]; simp [sz]) ?_)
          refine (KS.out _).mono ?_
          rintro e w6 ⟨rfl, hb6⟩
          have H6 := hid (below2 H5.out hb6 H5.out.size)
          clear hb6 l0 k0 f0
          go_wp2_with fail
          go_ret
          exact ⟨rfl, H6.out⟩
end Go.Proofs.Ytjmacojlneldaaa
