/-
  Layer 17: entries are applied one by one, or none is: the walk of NmapApplies.
-/
import Derived.Test.YtjmacojlneldaaaNmapApply
namespace Go.Proofs.Ytjmacojlneldaaa
open Go.RowKit Go.Maps
set_option linter.unusedVariables false
set_option linter.unusedSimpArgs false

set_option maxRecDepth 100000 in
set_option maxHeartbeats 40000000 in
theorem nmapApplies (c : Array Value) (F : Nat → Int) (hc : Nums c .i64 256 F) (p : Option Addr) (n cap : Nat) (f : Nat → En) (h1 : n ≤ cap) (h2 : cap ≤ maxLen) (q : Option Addr) (m capm : Nat) (g : Nat → Int) (m1 : m ≤ capm) (m2 : capm ≤ maxLen)
    (w : World) (HL0 : RowP w p 2 n (fun i => ecells (f i))) (HA0 : RowP w q 1 m (fun i => [.int .i64 (g i)])) :
    Calls Try.prog 10 #[.agg c, .slice p n cap, .slice q m capm] w fun e w' => e = .returned (.bool true) ∧ Below w.heap.size w w' := by
  have KL := hid alive17
  have sz := hc.size
  have one := hc.one
  have NA := hid (fun k => cellA_nums hc f g k)
  have HL := hid HL0
  have HA := hid HA0
  have hbad := hid (fun k hk h => fin_bad c f g (m := m) (k := k) (n := n) h hk)
  have hfinD := hid (show finA f m n = (okA f m n && decide (usedA f n = m)) from rfl)
  have hresD := hid (show resA c f g m n = if finA f m n = true then cellA c f g n else c from rfl)
  have hfb := hid (fun k (hk : k ≤ n) (h : okA f m k = false) => show finA f m n = false by
    unfold finA
    cases ho : okA f m n with
    | false => rfl
    | true => rw [okA_le f m k n hk ho] at h; cases h)
  have NR : ∃ G, Nums (resA c f g m n) .i64 256 G := by
    unfold resA
    split
    · exact cellA_nums hc f g n
    · exact ⟨F, hc⟩
  have KA := hid (fun w' (hb : Below w.heap.size w w') => napply_any c F hc p n cap f h1 h2 q m capm g m1 m2 w' (HL0.more hb) (HA0.more hb))
  generalize finA f m n = fin at *
  generalize resA c f g m n = res at *
  obtain ⟨GR, NR⟩ := NR
  have szr := NR.size
  have oner := NR.one
  have heq := fun w => eql_numsn Try.underlying44 NR w
  have h2n : cap ≤ 9223372036854775807 := by unfold maxLen at h2; omega
  have m2n : capm ≤ 9223372036854775807 := by unfold maxLen at m2; omega
  obtain ⟨B0, H⟩ := @boxed1 w _ c 44 (Below.refl _ _)
  have HH := hid H
  have hB0 := hid B0
  clear hc H B0 HL0 HA0 NR
  go_enter Try.func10, Try.ntmps10
  go_wp2_with fail
  refine (KL.out _).mono ?_
  rintro e w1 ⟨rfl, hb1⟩
  have hbb := hid (below2 HH.out hb1 HH.out.size)
  have C0 := hid (hB0.out.more hb1)
  have hr := hid C0.out.range
  clear hb1 HH hB0 KL
  go_upto_region 4 with (first
    | (refine Go.Great.wpList_runTo rfl (some 7) rfl _ _ (alloc256n _ _ _ _ _ _) ?_)
    | (refine wpList_load_mid rfl 44 _ rfl w.heap.size 0 rfl c.toList _ hr.out Try.underlying44 rfl (by rw [tab256n]; simp [sz]) ?_)
    | (refine wpList_store_mid rfl 44 _ _ rfl w1.heap.size 0 c rfl rfl ((Blk.new w1 (Array.replicate 256 (.int .i64 0)) 44).there (by rw [sz]; simp)) (by rw [tab256n, sz]) one ?_))
  generalize hW : World.setCells _ _ _ _ = W3
  obtain ⟨E3, H3⟩ : Blk W3 w1.heap.size c ∧ Below w1.heap.size w1 W3 := by
    subst hW
    exact ⟨(Blk.new w1 (Array.replicate 256 (.int .i64 0)) 44).whole (by rw [sz]; simp), below_cells ((Below.refl _ _).alloc (Nat.le_refl _) _) (Nat.le_refl _) _ _⟩
  have F0 := hid (C0.out.more H3)
  have F1 := hid E3
  have HB := hid (below2 hbb.out H3 hbb.out.size)
  have hlt0 := C0.out.lt
  have hlt2 := E3.lt
  clear E3 H3 hW hr C0 hbb
  generalize w1.heap.size = bt at *
  go_wp2_with fail
  go_loopw [8, 9, 10] (fun uu ok i wx => ∃ (k u : Nat) (d : Array Value), k ≤ n ∧ i = .int .i64 (k : Int) ∧ uu = .int .i64 (u : Int) ∧ ok = .bool (okA f m k) ∧ Blk wx bt d ∧ d.size = 256 ∧ (okA f m k = true → u = usedA f k ∧ d = cellA c f g k) ∧ Sole (fun b => b = bt) W3 wx) (fun _ _ i _ => n - (intOf i).toNat)
  case atStart => exact ⟨0, 0, c, by omega, rfl, rfl, rfl, F1.out, sz, fun _ => ⟨rfl, rfl⟩, Sole.refl _ _⟩
  case round =>
    obtain ⟨k, u, d, hk, rfl, rfl, rfl, BX, szd, hd, Hs⟩ := hrel
    have Hw := HB.out.trans (Hs.below (B := w.heap.size) (by omega) (fun j e => by omega))
    cases hok : okA f m k with
    | true =>
      obtain ⟨rfl, rfl⟩ := hd hok
      clear hd
      by_cases hlt : k < n
      · obtain ⟨b, o, rfl, R0⟩ := HL.out.row (by omega)
        have hstU : usedA f (k + 1) = usedA f k + if (f k).k = 1 then 1 else 0 := rfl
        have hstC : cellA c f g (k + 1) = (cellA c f g k).setIfInBounds (f k).i.toNat (.int .i64 (if (f k).k = 1 then g (usedA f k) else 0)) := rfl
        have hstO : okA f m (k + 1) = (okA f m k && okE (f k) (usedA f k) m) := rfl
        rw [hok, Bool.true_and] at hstO
        have NK := NA.out k
        have R := R0.more Hw
        obtain ⟨⟨ek, ei⟩, he⟩ : ∃ e, f k = e := ⟨_, rfl⟩
        have z0 := R.at0 hlt (v := .int .i64 ek) (by rw [he]; rfl)
        have z1 := R.at1 hlt (v := .int .i64 ei) (by rw [he]; rfl)
        rw [he] at hstU hstC hstO
        generalize usedA f k = u at *
        generalize cellA c f g k = d at *
        obtain ⟨G, NK⟩ := NK
        have oned := NK.one
        have NKh := hid NK
        obtain ⟨X0, XH⟩ := @boxed1 wr _ #[.int .i64 ek, .int .i64 ei] 61 (Below.refl _ _)
        have YB := BX.alloc (.cells #[.int .i64 ek, .int .i64 ei] 61)
        have YBh := hid YB
        have HYs := hid (Hs.trans (Sole.alloc wr (.cells #[.int .i64 ek, .int .i64 ei] 61)))
        have HYw := hid (HB.out.trans (HYs.out.below (B := w.heap.size) (by omega) (fun j e => by omega)))
        have hltb : W3.heap.size ≤ wr.heap.size := Hs.size
        replace he := hid he
        replace hok := hid hok
        replace hstU := hid hstU
        replace hstC := hid hstC
        clear R R0 X0 XH BX Hs Hw NK YB
        by_cases i1 : 1 ≤ ei
        · by_cases i2 : ei ≤ 255
          · obtain ⟨j, rfl⟩ : ∃ j : Nat, ei = j := ⟨ei.toNat, by omega⟩
            have hj : j < 256 := by omega
            have hj0 : (0 : Int) ≤ (j : Int) := by omega
            have hj2 : (j : Int) < 256 := by omega
            by_cases k1 : ek = 1
            · subst k1
              by_cases hum : u < m
              · -- written
                have hst1 := hid (show okA f m (k + 1) = true by rw [hstO]; simp [okE, goodE, hum]; omega)
                have hU := hid (show usedA f (k + 1) = u + 1 from hstU.out)
                have hC := hid (show cellA c f g (k + 1) = d.setIfInBounds j (.int .i64 (g u)) from hstC.out)
                obtain ⟨bq, oq, rfl, RQ⟩ := HA.out.row (by omega)
                have y0 := (RQ.more HYw.out).at0 hum (v := .int .i64 (g u)) rfl
                rw [Nat.mul_one] at y0
                have humI : (u : Int) < (m : Int) := by omega
                have hu0 : (0 : Int) ≤ (u : Int) := by omega
                generalize g u = x at *
                have YZ := hid (YBh.out.set j (.int .i64 x) (by rw [szd]; exact hj))
                have SZ := hid (HYs.out.trans (Sole.setCell (S := fun b => b = bt) _ (o := j) (.int .i64 x) rfl))
                have v0 := (YBh.out.cell j).trans (NKh.out.get j hj)
                have v1 := YBh.out.frz
                have v2 := YBh.out.lt
                clear hstO RQ
                go_wp2_with fail
                go_region
                go_wp2_with fail
                go_roundw
                case rel => exact ⟨k + 1, u + 1, _, by omega, by go_num, by go_num, by rw [hst1.out], YZ.out.drew, by simp [szd], fun _ => ⟨hU.out.symm, hC.out.symm⟩, SZ.out.drew⟩
                case measure => simp [intOf]; omega
              · have hst1 := hid (show okA f m (k + 1) = false by rw [hstO]; simp [okE, hum])
                have g3 : decide ((u : Int) < (m : Int)) = false := decide_eq_false (by omega)
                have g4 : decide (u < m) = false := decide_eq_false hum
                clear hstO hum
                go_wp2_with fail
                go_roundw
                case rel => exact ⟨k + 1, u, d, by omega, by go_num, rfl, by rw [hst1.out], YBh.out, szd, fun h => by rw [hst1.out] at h; (cases h), HYs.out⟩
                case measure => simp [intOf]; omega
            · by_cases k2 : ek = 2
              · subst k2
                have hst1 := hid (show okA f m (k + 1) = true by rw [hstO]; simp [okE, goodE]; omega)
                have hU := hid (show usedA f (k + 1) = u from hstU.out)
                have hC := hid (show cellA c f g (k + 1) = d.setIfInBounds j (.int .i64 0) from hstC.out)
                have YZ := hid (YBh.out.set j (.int .i64 0) (by rw [szd]; exact hj))
                have SZ := hid (HYs.out.trans (Sole.setCell (S := fun b => b = bt) _ (o := j) (.int .i64 0) rfl))
                have v0 := (YBh.out.cell j).trans (NKh.out.get j hj)
                have v1 := YBh.out.frz
                have v2 := YBh.out.lt
                clear hstO k1
                go_wp2_with fail
                go_roundw
                case rel => exact ⟨k + 1, u, _, by omega, by go_num, rfl, by rw [hst1.out], YZ.out, by simp [szd], fun _ => ⟨hU.out.symm, hC.out.symm⟩, SZ.out⟩
                case measure => simp [intOf]; omega
              · have hst1 := hid (show okA f m (k + 1) = false by rw [hstO]; simp [okE, goodE, k1, k2])
                have g3 : (ek == 1) = false := by simp [k1]
                have g4 : (ek == 2) = false := by simp [k2]
                clear hstO k1 k2
                go_wp2_with fail
                go_roundw
                case rel => exact ⟨k + 1, u, d, by omega, by go_num, rfl, by rw [hst1.out], YBh.out, szd, fun h => by rw [hst1.out] at h; (cases h), HYs.out⟩
                case measure => simp [intOf]; omega
          · have hst1 := hid (show okA f m (k + 1) = false by rw [hstO]; simp [okE, goodE, i2])
            have g3 : decide (ei ≤ 255) = false := decide_eq_false i2
            clear hstO i2
            go_wp2_with fail
            go_roundw
            case rel => exact ⟨k + 1, u, d, by omega, by go_num, rfl, by rw [hst1.out], YBh.out, szd, fun h => by rw [hst1.out] at h; (cases h), HYs.out⟩
            case measure => simp [intOf]; omega
        · have hst1 := hid (show okA f m (k + 1) = false by rw [hstO]; simp [okE, goodE, i1])
          have g3 : decide (1 ≤ ei) = false := decide_eq_false i1
          clear hstO i1
          go_wp2_with fail
          go_roundw
          case rel => exact ⟨k + 1, u, d, by omega, by go_num, rfl, by rw [hst1.out], YBh.out, szd, fun h => by rw [hst1.out] at h; (cases h), HYs.out⟩
          case measure => simp [intOf]; omega
      · obtain rfl : k = n := by omega
        have hfd := hid (show fin = decide (usedA f k = m) by rw [hfinD.out, hok, Bool.true_and])
        by_cases hum : usedA f k = m
        · have hfin := hid (show fin = true by rw [hfd.out]; exact decide_eq_true hum)
          have hres := hid (show res = cellA c f g k by rw [hresD.out, if_pos hfin.out])
          rw [← hres.out] at BX
          have P0 := hid (F0.out.sole Hs (by omega))
          have P1 := hid BX
          have HE := hid Hw
          have humI : (usedA f k : Int) = (m : Int) := by omega
          have KA := hid (show Calls Try.prog 31 #[.agg c, .slice p k cap, .slice q m capm] wr fun e w' => e = .returned (.tuple #[.agg res, .bool true]) ∧ Below wr.heap.size wr w' by have := KA.out wr Hw; rw [hfin.out] at this; exact this)
          generalize usedA f k = u at *
          clear BX Hs Hw hok NA hbad hfinD hresD hfb hum hfd
          have r6 := hid P0.out.range
          go_wp2_with (refine wpList_load_mid rfl 44 _ rfl w.heap.size 0 rfl c.toList _ r6.out Try.underlying44 rfl (by rw [tab256n]; simp [sz]) ?_)
          refine KA.out.mono ?_
          rintro e w7 ⟨rfl, hb7⟩
          have Q1 := hid (P1.out.more hb7)
          have H7 := hid (below2 HE.out hb7 HE.out.size)
          clear hb7 KA r6
          go_upto_region 18 with (first
            | (refine Go.Great.wpList_runTo rfl (some 12) rfl _ _ (alloc256n _ _ _ _ _ _) ?_)
            | (refine wpList_store_mid rfl 44 _ _ rfl w7.heap.size 0 res rfl rfl ((Blk.new w7 (Array.replicate 256 (.int .i64 0)) 44).there (by rw [szr]; simp)) (by rw [tab256n, szr]) oner ?_))
          generalize hW8 : World.setCells _ _ _ _ = W8
          obtain ⟨U0, U1⟩ : Blk W8 w7.heap.size res ∧ Below w7.heap.size w7 W8 := by
            subst hW8
            exact ⟨(Blk.new w7 (Array.replicate 256 (.int .i64 0)) 44).whole (by rw [szr]; simp), below_cells ((Below.refl _ _).alloc (Nat.le_refl _) _) (Nat.le_refl _) _ _⟩
          have s0 := hid U0.range
          have s1 := hid (Q1.out.more U1).range
          have HZ := hid (below2 H7.out U1 H7.out.size)
          clear U0 U1 hW8
          go_wp2_with (first
            | (refine wpList_load_mid rfl 44 _ rfl w7.heap.size 0 rfl res.toList _ s0.out Try.underlying44 rfl (by rw [tab256n]; simp [szr]) ?_)
            | (refine wpList_load_mid rfl 44 _ rfl bt 0 rfl res.toList _ s1.out Try.underlying44 rfl (by rw [tab256n]; simp [szr]) ?_))
          go_ret
          exact ⟨rfl, HZ.out⟩
        · have hfin := hid (show fin = false by rw [hfd.out]; exact decide_eq_false hum)
          have g5 : ((usedA f k : Int) == (m : Int)) = false := by first | (rw [beq_eq_false_iff_ne]; omega) | (simp; omega) | exact decide_eq_false (by omega)
          have g6 : (usedA f k == m) = false := by simp [hum]
          replace hum := hid hum
          clear hfd hfinD
          generalize usedA f k = u at *
          have hres := hid (show res = c by rw [hresD.out, if_neg (by rw [hfin.out]; simp)])
          have P0 := hid (F0.out.sole Hs (by omega))
          have r0 := hid P0.out.range
          have BXh := hid BX
          have HE := hid Hw
          have th := BX.there (n := c.size) (by rw [sz, szd])
          have Hsz := Hs.size
          clear BX Hs Hw hok NA hbad hresD hfb
          go_upto_region 17 with (first
            | (refine wpList_load_mid rfl 44 _ rfl w.heap.size 0 rfl c.toList _ r0.out Try.underlying44 rfl (by rw [tab256n]; simp [sz]) ?_)
            | (refine wpList_store_mid rfl 44 _ _ rfl bt 0 c rfl rfl th (by rw [tab256n, sz]) one ?_))
          generalize hW6 : World.setCells _ _ _ _ = W6
          obtain ⟨P0, P1, HE, hs6⟩ : Hid (Blk W6 w.heap.size c) ∧ Hid (Blk W6 bt res) ∧ Hid (Below w.heap.size w W6) ∧ wr.heap.size = W6.heap.size := by
            subst hW6
            exact ⟨hid (P0.out.beside (by omega) _ _), hid (by rw [hres.out]; exact BXh.out.whole (by rw [sz, szd])), hid (below_cells HE.out (by omega) _ _), size_cells.symm⟩
          have KA := hid (show Calls Try.prog 31 #[.agg c, .slice p k cap, .slice q m capm] W6 fun e w' => e = .returned (.tuple #[.agg res, .bool false]) ∧ Below W6.heap.size W6 w' by have := KA.out W6 HE.out; rw [hfin.out] at this; exact this)
          clear hW6 th r0 BXh hs6
          have r6 := hid P0.out.range
          go_wp2_with (refine wpList_load_mid rfl 44 _ rfl w.heap.size 0 rfl c.toList _ r6.out Try.underlying44 rfl (by rw [tab256n]; simp [sz]) ?_)
          refine KA.out.mono ?_
          rintro e w7 ⟨rfl, hb7⟩
          have Q1 := hid (P1.out.more hb7)
          have H7 := hid (below2 HE.out hb7 HE.out.size)
          clear hb7 KA r6
          go_upto_region 18 with (first
            | (refine Go.Great.wpList_runTo rfl (some 12) rfl _ _ (alloc256n _ _ _ _ _ _) ?_)
            | (refine wpList_store_mid rfl 44 _ _ rfl w7.heap.size 0 res rfl rfl ((Blk.new w7 (Array.replicate 256 (.int .i64 0)) 44).there (by rw [szr]; simp)) (by rw [tab256n, szr]) oner ?_))
          generalize hW8 : World.setCells _ _ _ _ = W8
          obtain ⟨U0, U1⟩ : Blk W8 w7.heap.size res ∧ Below w7.heap.size w7 W8 := by
            subst hW8
            exact ⟨(Blk.new w7 (Array.replicate 256 (.int .i64 0)) 44).whole (by rw [szr]; simp), below_cells ((Below.refl _ _).alloc (Nat.le_refl _) _) (Nat.le_refl _) _ _⟩
          have s0 := hid U0.range
          have s1 := hid (Q1.out.more U1).range
          have HZ := hid (below2 H7.out U1 H7.out.size)
          clear U0 U1 hW8
          go_wp2_with (first
            | (refine wpList_load_mid rfl 44 _ rfl w7.heap.size 0 rfl res.toList _ s0.out Try.underlying44 rfl (by rw [tab256n]; simp [szr]) ?_)
            | (refine wpList_load_mid rfl 44 _ rfl bt 0 rfl res.toList _ s1.out Try.underlying44 rfl (by rw [tab256n]; simp [szr]) ?_))
          go_ret
          exact ⟨rfl, HZ.out⟩
    | false =>
      have hfin := hid (hfb.out k hk hok)
      clear hd
      by_cases hlt : k < n
      · have hltI : (k : Int) < (n : Int) := by omega
        have hres := hid (show res = c by rw [hresD.out, if_neg (by rw [hfin.out]; simp)])
        have P0 := hid (F0.out.sole Hs (by omega))
        have r0 := hid P0.out.range
        have BXh := hid BX
        have HE := hid Hw
        have th := BX.there (n := c.size) (by rw [sz, szd])
        have Hsz := Hs.size
        clear BX Hs Hw hok NA hbad hresD hfb
        go_upto_region 17 with (first
          | (refine wpList_load_mid rfl 44 _ rfl w.heap.size 0 rfl c.toList _ r0.out Try.underlying44 rfl (by rw [tab256n]; simp [sz]) ?_)
          | (refine wpList_store_mid rfl 44 _ _ rfl bt 0 c rfl rfl th (by rw [tab256n, sz]) one ?_))
        generalize hW6 : World.setCells _ _ _ _ = W6
        obtain ⟨P0, P1, HE, hs6⟩ : Hid (Blk W6 w.heap.size c) ∧ Hid (Blk W6 bt res) ∧ Hid (Below w.heap.size w W6) ∧ wr.heap.size = W6.heap.size := by
          subst hW6
          exact ⟨hid (P0.out.beside (by omega) _ _), hid (by rw [hres.out]; exact BXh.out.whole (by rw [sz, szd])), hid (below_cells HE.out (by omega) _ _), size_cells.symm⟩
        have KA := hid (show Calls Try.prog 31 #[.agg c, .slice p n cap, .slice q m capm] W6 fun e w' => e = .returned (.tuple #[.agg res, .bool false]) ∧ Below W6.heap.size W6 w' by have := KA.out W6 HE.out; rw [hfin.out] at this; exact this)
        clear hW6 th r0 BXh hs6
        have r6 := hid P0.out.range
        go_wp2_with (refine wpList_load_mid rfl 44 _ rfl w.heap.size 0 rfl c.toList _ r6.out Try.underlying44 rfl (by rw [tab256n]; simp [sz]) ?_)
        refine KA.out.mono ?_
        rintro e w7 ⟨rfl, hb7⟩
        have Q1 := hid (P1.out.more hb7)
        have H7 := hid (below2 HE.out hb7 HE.out.size)
        clear hb7 KA r6
        go_upto_region 18 with (first
          | (refine Go.Great.wpList_runTo rfl (some 12) rfl _ _ (alloc256n _ _ _ _ _ _) ?_)
          | (refine wpList_store_mid rfl 44 _ _ rfl w7.heap.size 0 res rfl rfl ((Blk.new w7 (Array.replicate 256 (.int .i64 0)) 44).there (by rw [szr]; simp)) (by rw [tab256n, szr]) oner ?_))
        generalize hW8 : World.setCells _ _ _ _ = W8
        obtain ⟨U0, U1⟩ : Blk W8 w7.heap.size res ∧ Below w7.heap.size w7 W8 := by
          subst hW8
          exact ⟨(Blk.new w7 (Array.replicate 256 (.int .i64 0)) 44).whole (by rw [szr]; simp), below_cells ((Below.refl _ _).alloc (Nat.le_refl _) _) (Nat.le_refl _) _ _⟩
        have s0 := hid U0.range
        have s1 := hid (Q1.out.more U1).range
        have HZ := hid (below2 H7.out U1 H7.out.size)
        clear U0 U1 hW8
        go_wp2_with (first
          | (refine wpList_load_mid rfl 44 _ rfl w7.heap.size 0 rfl res.toList _ s0.out Try.underlying44 rfl (by rw [tab256n]; simp [szr]) ?_)
          | (refine wpList_load_mid rfl 44 _ rfl bt 0 rfl res.toList _ s1.out Try.underlying44 rfl (by rw [tab256n]; simp [szr]) ?_))
        go_ret
        exact ⟨rfl, HZ.out⟩
      · obtain rfl : k = n := by omega
        have hres := hid (show res = c by rw [hresD.out, if_neg (by rw [hfin.out]; simp)])
        have P0 := hid (F0.out.sole Hs (by omega))
        have r0 := hid P0.out.range
        have BXh := hid BX
        have HE := hid Hw
        have th := BX.there (n := c.size) (by rw [sz, szd])
        have Hsz := Hs.size
        clear BX Hs Hw hok NA hbad hresD hfb
        go_upto_region 17 with (first
          | (refine wpList_load_mid rfl 44 _ rfl w.heap.size 0 rfl c.toList _ r0.out Try.underlying44 rfl (by rw [tab256n]; simp [sz]) ?_)
          | (refine wpList_store_mid rfl 44 _ _ rfl bt 0 c rfl rfl th (by rw [tab256n, sz]) one ?_))
        generalize hW6 : World.setCells _ _ _ _ = W6
        obtain ⟨P0, P1, HE, hs6⟩ : Hid (Blk W6 w.heap.size c) ∧ Hid (Blk W6 bt res) ∧ Hid (Below w.heap.size w W6) ∧ wr.heap.size = W6.heap.size := by
          subst hW6
          exact ⟨hid (P0.out.beside (by omega) _ _), hid (by rw [hres.out]; exact BXh.out.whole (by rw [sz, szd])), hid (below_cells HE.out (by omega) _ _), size_cells.symm⟩
        have KA := hid (show Calls Try.prog 31 #[.agg c, .slice p k cap, .slice q m capm] W6 fun e w' => e = .returned (.tuple #[.agg res, .bool false]) ∧ Below W6.heap.size W6 w' by have := KA.out W6 HE.out; rw [hfin.out] at this; exact this)
        clear hW6 th r0 BXh hs6
        have r6 := hid P0.out.range
        go_wp2_with (refine wpList_load_mid rfl 44 _ rfl w.heap.size 0 rfl c.toList _ r6.out Try.underlying44 rfl (by rw [tab256n]; simp [sz]) ?_)
        refine KA.out.mono ?_
        rintro e w7 ⟨rfl, hb7⟩
        have Q1 := hid (P1.out.more hb7)
        have H7 := hid (below2 HE.out hb7 HE.out.size)
        clear hb7 KA r6
        go_upto_region 18 with (first
          | (refine Go.Great.wpList_runTo rfl (some 12) rfl _ _ (alloc256n _ _ _ _ _ _) ?_)
          | (refine wpList_store_mid rfl 44 _ _ rfl w7.heap.size 0 res rfl rfl ((Blk.new w7 (Array.replicate 256 (.int .i64 0)) 44).there (by rw [szr]; simp)) (by rw [tab256n, szr]) oner ?_))
        generalize hW8 : World.setCells _ _ _ _ = W8
        obtain ⟨U0, U1⟩ : Blk W8 w7.heap.size res ∧ Below w7.heap.size w7 W8 := by
          subst hW8
          exact ⟨(Blk.new w7 (Array.replicate 256 (.int .i64 0)) 44).whole (by rw [szr]; simp), below_cells ((Below.refl _ _).alloc (Nat.le_refl _) _) (Nat.le_refl _) _ _⟩
        have s0 := hid U0.range
        have s1 := hid (Q1.out.more U1).range
        have HZ := hid (below2 H7.out U1 H7.out.size)
        clear U0 U1 hW8
        go_wp2_with (first
          | (refine wpList_load_mid rfl 44 _ rfl w7.heap.size 0 rfl res.toList _ s0.out Try.underlying44 rfl (by rw [tab256n]; simp [szr]) ?_)
          | (refine wpList_load_mid rfl 44 _ rfl bt 0 rfl res.toList _ s1.out Try.underlying44 rfl (by rw [tab256n]; simp [szr]) ?_))
        go_ret
        exact ⟨rfl, HZ.out⟩
end Go.Proofs.Ytjmacojlneldaaa
