/-
  Layer 12: any geometry's head, and the geometry of any octets, are as the page says; heads come back. The walk.
-/
import Derived.Test.YtgnnikjpnmalmaaSuperAlive
import Derived.Test.YtgnnikjpnmalmaaFrameRefSectorOk
import Derived.Deep.DeepCutAuto
namespace Go.Proofs.Ytgnnikjpnmalmaa
open Go.RowKit
set_option linter.unusedVariables false
set_option linter.unusedSimpArgs false

def geoEq (a b a' b' : Int) : Bool := decide (a = a') && decide (b = b')
@[go_sem high] theorem eql_geo (a b a' b' : Int) (w : World) : (binOp .eql 101 (.agg #[.int .i64 a, .int .i64 b]) (.agg #[.int .i64 a', .int .i64 b'])).run Try.prog w = .ok (.bool (geoEq a b a' b')) w := by
  rw [run_eql_struct]
  by_cases h1 : a = a' <;> by_cases h2 : b = b' <;> simp [go_sem, geoEq, h1, h2]
@[go_sem high] theorem neq_geo (a b a' b' : Int) (w : World) : (binOp .neq 101 (.agg #[.int .i64 a, .int .i64 b]) (.agg #[.int .i64 a', .int .i64 b'])).run Try.prog w = .ok (.bool (!geoEq a b a' b')) w := by
  rw [run_neq_struct]
  by_cases h1 : a = a' <;> by_cases h2 : b = b' <;> simp [go_sem, geoEq, h1, h2]
theorem geoEq_self (a b : Int) : geoEq a b a b = true := by simp [geoEq]
theorem octet_int (n : Int) (h1 : 0 ≤ n) (h2 : n ≤ 255) : ((UInt8.ofNat n.toNat).toNat : Int) = n := by
  rw [byte_ofNat]; omega
theorem headT_eq (n z : Int) : headT n z = [UInt8.ofNat n.toNat, UInt8.ofNat z.toNat] := rfl
/-- What a head tells. -/
theorem sup_back (n z : Int) (h : gokB n z = true) : supN (sealB 1 ⟨0, 0, 0⟩ (headT n z)) = n ∧ supZ (sealB 1 ⟨0, 0, 0⟩ (headT n z)) = z ∧ supE (sealB 1 ⟨0, 0, 0⟩ (headT n z)) = 0 := by
  obtain ⟨n1, n2, z1, z2⟩ := gok_iff.1 h
  obtain ⟨_, G2, G3, G4, G5, _⟩ := seal_good 1 ⟨0, 0, 0⟩ (headT n z) (by decide) (by rw [headT_length]; omega)
  have x0 : (byteAt (headT n z) 0 : Int) = n := by rw [headT_eq]; exact octet_int n (by omega) (by omega)
  have x1 : (byteAt (headT n z) 1 : Int) = z := by rw [headT_eq]; exact octet_int z (by omega) (by omega)
  have hs : supB (sealB 1 ⟨0, 0, 0⟩ (headT n z)) = true := by
    unfold supB
    rw [G2, G3, G4, G5, headT_length, x0, x1, h]
    rfl
  unfold supN supZ supE
  rw [hs, G5, x0, x1]
  exact ⟨rfl, rfl, rfl⟩

set_option maxRecDepth 100000 in
set_option maxHeartbeats 16000000 in
theorem superTells (n z : Int) (l : List UInt8) (a : Option Addr) (cap : Nat) (h1 : l.length ≤ cap) (h2 : cap ≤ maxLen) (w : World) (O : Octs w a l) :
    Calls Try.prog 14 #[ggeo n z, .slice a l.length cap] w fun e w' => e = .returned (.bool true) ∧ Below w.heap.size w w' := by
  obtain ⟨W0, hW0⟩ : ∃ W0, w.alloc (.cells #[.int .i64 n, .int .i64 z] 101) = W0 := ⟨_, rfl⟩
  have hb0 : Below w.heap.size w W0 := by rw [← hW0]; exact (Below.refl _ _).alloc (Nat.le_refl _) _
  have BX : Blk W0 w.heap.size #[.int .i64 n, .int .i64 z] := by rw [← hW0]; exact Blk.new w _ _
  have KA := hid alive12
  have D0 := hid hb0
  have HBX := hid BX
  have KP := hid (fun w => superPut_any n z w)
  have KD := fun w O => refRead_any l a cap h1 h2 w O
  unfold ReadPost at KD
  have KR := fun w O => superRead_any l a cap h1 h2 w O
  unfold SupPost at KR
  have hB : supB l = (goodB l && (openK l == 1 && (stEq (openS l).e (openS l).s (openS l).a 0 0 0 && (decide ((openT l).length = 2) && gokB (byteAt (openT l) 0) (byteAt (openT l) 1))))) := rfl
  have hN : supN l = if supB l then (byteAt (openT l) 0 : Int) else 0 := rfl
  have hZ : supZ l = if supB l then (byteAt (openT l) 1 : Int) else 0 := rfl
  have hE : supE l = if supB l then 0 else 16 := rfl
  have hT238 : Hid ((openT l).length ≤ 255) := hid (by
    unfold openT
    have := txtN_lt l
    by_cases h : goodB l = true
    · rw [if_pos h, List.length_take]; omega
    · rw [if_neg h]; simp)
  generalize goodB l = G at *
  generalize openK l = K at *
  generalize openS l = S at *
  generalize openT l = T at *
  generalize supN l = SN at *
  generalize supZ l = SZ at *
  generalize supE l = SE at *
  generalize supB l = SB at *
  replace KD := hid KD
  replace KR := hid KR
  replace hB := hid hB
  replace hN := hid hN
  replace hZ := hid hZ
  replace hE := hid hE
  have HO := hid O
  clear O hb0 BX h1 h2
  go_enter Try.func14, Try.ntmps14
  obtain ⟨lx, kx, fx⟩ := HBX.out
  go_upto_region 3 with (first | (refine (KA.out _).mono ?_; rintro e w1 ⟨rfl, hb1⟩))
  have D1 := hid (below2 D0.out hb1 D0.out.size)
  have HB1 := hid (HBX.out.more hb1)
  clear hb1 lx kx fx HBX D0 hW0 KA
  obtain ⟨lx, kx, fx⟩ := HB1.out
  go_cut [5] (fun s5 wx => s5 = .bool (gokB n z) ∧ wx = w1)
  case first =>
    have ways : (gokB n z = true ∧ 6 ≤ n ∧ n ≤ 32 ∧ 4 ≤ z ∧ z ≤ 32) ∨ (gokB n z = false ∧ decide (6 ≤ n) = false) ∨ (gokB n z = false ∧ 6 ≤ n ∧ decide (n ≤ 32) = false) ∨ (gokB n z = false ∧ 6 ≤ n ∧ n ≤ 32 ∧ decide (4 ≤ z) = false) ∨ (gokB n z = false ∧ 6 ≤ n ∧ n ≤ 32 ∧ 4 ≤ z ∧ decide (z ≤ 32) = false) := by
      cases hb : gokB n z with
      | true => obtain ⟨q1, q2, q3, q4⟩ := gok_iff.1 hb; exact .inl ⟨rfl, q1, q2, q3, q4⟩
      | false =>
        by_cases q1 : 6 ≤ n
        · by_cases q2 : n ≤ 32
          · by_cases q3 : 4 ≤ z
            · exact .inr (.inr (.inr (.inr ⟨rfl, q1, q2, q3, decide_eq_false (fun q4 => by have := gok_iff.2 ⟨q1, q2, q3, q4⟩; rw [hb] at this; cases this)⟩)))
            · exact .inr (.inr (.inr (.inl ⟨rfl, q1, q2, decide_eq_false q3⟩)))
          · exact .inr (.inr (.inl ⟨rfl, q1, decide_eq_false q2⟩))
        · exact .inr (.inl ⟨rfl, decide_eq_false q1⟩)
    rcases ways with ⟨e, g1, g2, g3, g4⟩ | ⟨e, g1⟩ | ⟨e, g1, g2⟩ | ⟨e, g1, g2, g3⟩ | ⟨e, g1, g2, g3, g4⟩
    all_goals
      replace e := hid e
      go_wp2_with fail
      go_meet
      case rel => exact ⟨by rw [e.out], rfl⟩
  case rest =>
    obtain ⟨rfl, rfl⟩ := hcut
    go_wp2_with fail
    refine (KP.out _).mono ?_
    rintro e w2 ⟨v1, rfl, F1⟩
    generalize hCg : supC n z = C at *
    replace hCg := hid hCg
    go_upto_if 44 with (fail)
    have HD := hid D1.out
    go_cut [5] (fun s5 wx => s5 = .bool (gokB n z) ∧ Below w.heap.size w wx)
    case first =>
      cases hg : gokB n z with
      | false =>
        rw [show supL n z = [] by unfold supL; rw [hg]; rfl] at F1
        obtain rfl : C = 4 := by rw [← hCg.out]; unfold supC; rw [hg]; rfl
        obtain ⟨xa, xc, rfl, _, hb2⟩ := F1
        have D2 := hid (below2 D1.out hb2 D1.out.size)
        clear hb2 KP
        replace hg := hid hg
        go_wp2_with fail
        go_meet
        case rel => exact ⟨by rw [hg.out], D2.out⟩
      | true =>
        obtain ⟨n1, n2, z1, z2⟩ := gok_iff.1 hg
        have L := sealB_length 1 ⟨0, 0, 0⟩ (headT n z) (by rw [headT_length]; omega)
        have hsl : supL n z = sealB 1 ⟨0, 0, 0⟩ (headT n z) := by unfold supL; rw [hg]; rfl
        obtain rfl : C = 0 := by rw [← hCg.out]; unfold supC; rw [hg]; rfl
        obtain ⟨b1, b2, b3⟩ := sup_back n z hg
        have hfit : stFits 1 ⟨0, 0, 0⟩ := by decide
        have KS := fun a c w O => sector_ok 1 ⟨0, 0, 0⟩ (headT n z) a c hfit (by rw [headT_length]; omega) w O
        unfold SealPost at KS
        rw [headT_length, show sealC 1 ⟨0, 0, 0⟩ 2 = 0 from by decide, show sealL 1 ⟨0, 0, 0⟩ (headT n z) = sealB 1 ⟨0, 0, 0⟩ (headT n z) by unfold sealL; rw [if_pos ⟨hfit, by rw [headT_length]; omega⟩]] at KS
        have KQ := fun a c q1 q2 w O => superRead_any (sealB 1 ⟨0, 0, 0⟩ (headT n z)) a c q1 q2 w O
        unfold SupPost at KQ
        rw [b1, b2, b3] at KQ
        rw [hsl] at F1
        have hn : ((UInt8.ofNat n.toNat).toNat : Int) = n := octet_int n (by omega) (by omega)
        have hz : ((UInt8.ofNat z.toNat).toNat : Int) = z := octet_int z (by omega) (by omega)
        have OT := hid (fun wx => two_new wx (UInt8.ofNat n.toNat) (UInt8.ofNat z.toNat) 5)
        rw [hn, hz, ← headT_eq] at OT
        clear b1 b2 b3 hsl hn hz hfit
        generalize headT n z = HT at *
        generalize sealB 1 ⟨0, 0, 0⟩ HT = SB' at *
        obtain ⟨xa, xc, rfl, OX, q1, q2, hb2⟩ := fresh_cap12 F1 (by intro h; rw [h] at L; cases L)
        generalize hm : SB'.length = m' at *
        replace hm := hid hm
        subst L
        have X2 := hid OX
        have D2 := hid (below2 D1.out hb2 D1.out.size)
        have HB2 := hid (HB1.out.more hb2)
        replace KQ := hid (KQ xa xc q1 q2)
        replace KS := hid KS
        have un : IntKind.u8.wrap n = n := IntWalk.u8_in _ (by omega)
        have uz : IntKind.u8.wrap z = z := IntWalk.u8_in _ (by omega)
        have mn : n % 256 = n := by omega
        have mz : z % 256 = z := by omega
        replace hg := hid hg
        clear hb2 lx kx fx OX F1 KP q1 q2
        obtain ⟨lx, kx, fx⟩ := HB2.out
        go_wp2_with fail
        have hbA : Below w2.heap.size w2 (w2.alloc (.cells #[.int .u8 n, .int .u8 z] 5)) := (Below.refl _ _).alloc (Nat.le_refl _) _
        have X3 := hid (X2.out.more hbA)
        have D3 := hid (below2 D2.out hbA D2.out.size)
        have HB3 := hid (HB2.out.more hbA)
        refine (KS.out _ _ _ (OT.out w2)).mono ?_
        rintro e w4 ⟨v4, rfl, ya, yc, rfl, OY, hb4⟩
        have Y4 := hid (Octs.of_own OY)
        have X4 := hid (X3.out.more hb4)
        have D4 := hid (below2 D3.out hb4 D3.out.size)
        have HB4 := hid (HB3.out.more hb4)
        clear hb4 lx kx fx OY hbA X3 D3 HB3 X2 D2 HB2
        obtain ⟨lx, kx, fx⟩ := HB4.out
        go_wp2_with fail
        refine (KQ.out _ X4.out).mono ?_
        rintro e w5 ⟨rfl, hb5⟩
        have hbG : Below w5.heap.size w5 (w5.alloc (.cells #[.int .i64 n, .int .i64 z] 101)) := (Below.refl _ _).alloc (Nat.le_refl _) _
        have hb5' := below2 hb5 hbG hb5.size
        have BG := Blk.new w5 #[.int .i64 n, .int .i64 z] 101
        have k1 := conv_octs (X4.out.more hb5') xc
        have k2 := conv_octs (Y4.out.more hb5') yc
        rw [hm.out] at k1
        have D5 := hid (below2 D4.out hb5' D4.out.size)
        have HB5 := HB4.out.more hb5
        have hge : geoEq n z n z = true := geoEq_self n z
        clear hb5 hbG hb5' X4 Y4 D4 HB4 lx kx fx
        obtain ⟨lx, kx, fx⟩ := HB5
        obtain ⟨lg, kg, fg⟩ := BG
        go_wp2_with fail
        go_meet
        case rel => exact ⟨by rw [hg.out], D5.out⟩
    case rest =>
      obtain ⟨rfl, D2⟩ := hcut
      replace D2 := hid D2
      clear KP HD HB1 D1 lx kx fx F1
      go_wp2_with fail
      refine (KD.out _ (HO.out.more D2.out)).mono ?_
      rintro e w3 ⟨v, rfl, V, hb3⟩
      have hbA : Below w3.heap.size w3 (w3.alloc (.cells #[.int .i64 S.e, .int .i64 S.s, .int .i64 S.a] 75)) := (Below.refl _ _).alloc (Nat.le_refl _) _
      have BS := hid (Blk.new w3 #[.int .i64 S.e, .int .i64 S.s, .int .i64 S.a] 75)
      have hb3' := below2 hb3 hbA hb3.size
      have D3 := hid (below2 D2.out hb3' D2.out.size)
      have V1 := hid (V.more hbA)
      clear hb3 hbA hb3' V D2 KD
      go_wp2_with fail
      refine (KR.out _ (HO.out.more D3.out)).mono ?_
      rintro e w4 ⟨rfl, hb4⟩
      have hbB : Below w4.heap.size w4 (w4.alloc (.cells #[.int .i64 SN, .int .i64 SZ] 101)) := (Below.refl _ _).alloc (Nat.le_refl _) _
      have BH := hid (Blk.new w4 #[.int .i64 SN, .int .i64 SZ] 101)
      have hb4' := below2 hb4 hbB hb4.size
      have D4 := hid (below2 D3.out hb4' D3.out.size)
      have BS4 := hid (BS.out.more hb4')
      have BSw := BS.out.more hb4
      obtain ⟨ta, tc, rfl, OT, tc1, _⟩ := V1.out.more hb4'
      have z0 := hid (fun (hn : 1 ≤ T.length) => (show ∃ b o, ta = some ⟨b, o, none⟩ ∧ b < (w4.alloc (.cells #[.int .i64 SN, .int .i64 SZ] 101)).heap.size ∧ ∀ i (h : i < T.length), (w4.alloc (.cells #[.int .i64 SN, .int .i64 SZ] 101)).cell? ⟨b, o + i, none⟩ = some (.int .u8 (byteAt T i : Int)) from by
        obtain ⟨b, o, e, lt, hc⟩ := OT.row (by intro h; rw [h] at hn; simp at hn)
        exact ⟨b, o, e, lt, fun i h => by rw [hc i h, byteAt_get T i h]⟩))
      have tcI : (T.length : Int) ≤ (tc : Int) := by omega
      have hTl := hT238.out
      have tI : (T.length : Int) ≤ 255 := by omega
      clear hb4 hbB hb4' V1 D3 BS OT KR HO
      generalize hTn : T.length = tn at *
      replace hTn := hid hTn
      obtain ⟨ls, ks, fs⟩ := BSw
      go_upto_region 14 with (fail)
      go_cut [15] (fun s15 wx => s15 = .bool SB ∧ wx = (w4.alloc (.cells #[.int .i64 SN, .int .i64 SZ] 101)))
      case first =>
        cases hG : G with
        | false =>
          have hSB := hid (show SB = false by rw [hB.out, hG]; rfl)
          subst hG
          go_wp2_with fail
          go_meet
          case rel => exact ⟨by rw [hSB.out], rfl⟩
        | true =>
          subst hG
          cases hk : (K == 1) with
          | false =>
            have hSB := hid (show SB = false by rw [hB.out, hk]; rfl)
            go_wp2_with fail
            go_meet
            case rel => exact ⟨by rw [hSB.out], rfl⟩
          | true =>
            obtain rfl : K = 1 := by simpa using hk
            cases hs : stEq S.e S.s S.a 0 0 0 with
            | false =>
              have hSB := hid (show SB = false by rw [hB.out, hs]; rfl)
              clear hk
              go_wp2_with fail
              go_meet
              case rel => exact ⟨by rw [hSB.out], rfl⟩
            | true =>
              by_cases ht : tn = 2
              · subst ht
                obtain ⟨b, o, rfl, lt, hc⟩ := z0.out (by omega)
                have y0 := hc 0 (by omega)
                have y1 := hc 1 (by omega)
                rw [Nat.add_zero] at y0
                have hB1 : SB = gokB (byteAt T 0) (byteAt T 1) := by rw [hB.out, hs]; rfl
                have b0 := byteAt_lt T 0
                have b1 := byteAt_lt T 1
                have i1 : (1 : Int) < 2 := by omega
                clear hk hc z0 tI hTl hT238 hN hZ hB
                generalize byteAt T 0 = x0 at *
                generalize byteAt T 1 = x1 at *
                replace hB1 := hid hB1
                by_cases g0 : 6 ≤ (x0 : Int)
                · by_cases g1 : (x0 : Int) ≤ 32
                  · by_cases g2 : 4 ≤ (x1 : Int)
                    · by_cases g3 : (x1 : Int) ≤ 32
                      · have hSB := hid (show SB = true by rw [hB1.out]; exact gok_iff.2 ⟨by omega, by omega, by omega, by omega⟩)
                        go_wp2_with fail
                        go_meet
                        case rel => exact ⟨by rw [hSB.out], rfl⟩
                      · have hSB := hid (show SB = false by
                          rw [hB1.out]
                          cases hg : gokB (x0 : Int) (x1 : Int) with
                          | false => rfl
                          | true => have := gok_iff.1 hg; omega)
                        replace g3 := decide_eq_false g3
                        go_wp2_with fail
                        go_meet
                        case rel => exact ⟨by rw [hSB.out], rfl⟩
                    · have hSB := hid (show SB = false by
                        rw [hB1.out]
                        cases hg : gokB (x0 : Int) (x1 : Int) with
                        | false => rfl
                        | true => have := gok_iff.1 hg; omega)
                      replace g2 := decide_eq_false g2
                      go_wp2_with fail
                      go_meet
                      case rel => exact ⟨by rw [hSB.out], rfl⟩
                  · have hSB := hid (show SB = false by
                      rw [hB1.out]
                      cases hg : gokB (x0 : Int) (x1 : Int) with
                      | false => rfl
                      | true => have := gok_iff.1 hg; omega)
                    replace g1 := decide_eq_false g1
                    go_wp2_with fail
                    go_meet
                    case rel => exact ⟨by rw [hSB.out], rfl⟩
                · have hSB := hid (show SB = false by
                    rw [hB1.out]
                    cases hg : gokB (x0 : Int) (x1 : Int) with
                    | false => rfl
                    | true => have := gok_iff.1 hg; omega)
                  replace g0 := decide_eq_false g0
                  go_wp2_with fail
                  go_meet
                  case rel => exact ⟨by rw [hSB.out], rfl⟩
              · have ht' : ((tn : Int) == 2) = false := by simp; omega
                have hSB := hid (show SB = false by rw [hB.out, hs, decide_eq_false ht]; rfl)
                clear hk ht
                go_wp2_with fail
                go_meet
                case rel => exact ⟨by rw [hSB.out], rfl⟩
      case rest =>
        obtain ⟨rfl, rfl⟩ := hcut
        clear ls ks fs
        cases hSB : SB with
        | false =>
          subst hSB
          obtain rfl : SE = 16 := hE.out
          obtain rfl : SN = 0 := hN.out
          obtain rfl : SZ = 0 := hZ.out
          have hge : geoEq 0 0 0 0 = true := by decide
          obtain ⟨lh, kh, fh⟩ := BH.out
          go_wp2_with fail
          go_ret
          exact ⟨rfl, D4.out⟩
        | true =>
          subst hSB
          obtain rfl : SE = 0 := hE.out
          have hT2 : tn = 2 := by
            have := hB.out
            simp only [Bool.true_eq, Bool.and_eq_true, decide_eq_true_eq] at this
            exact this.2.2.2.1
          subst hT2
          have eN := hN.out
          have eZ := hZ.out
          simp only [if_true] at eN eZ
          obtain ⟨b, o, rfl, lt, hc⟩ := z0.out (by omega)
          have y0 := hc 0 (by omega)
          have y1 := hc 1 (by omega)
          rw [Nat.add_zero] at y0
          have i1 : (1 : Int) < 2 := by omega
          have b0 := byteAt_lt T 0
          have b1 := byteAt_lt T 1
          clear hc z0 tI hTl hT238 hN hZ hB
          generalize byteAt T 0 = x0 at *
          generalize byteAt T 1 = x1 at *
          have w0 : IntKind.i64.wrap (x0 : Int) = x0 := IntWalk.i64_in _ (by omega)
          have w1 : IntKind.i64.wrap (x1 : Int) = x1 := IntWalk.i64_in _ (by omega)
          subst eN eZ
          have hge : geoEq x0 x1 x0 x1 = true := geoEq_self _ _
          obtain ⟨lh, kh, fh⟩ := BH.out
          go_wp2_with fail
          go_quiet (fail)
          go_wp2_with fail
          go_ret
          exact ⟨rfl, ⟨D4.out.os, D4.out.tape, D4.out.output, D4.out.size, D4.out.block⟩⟩
end Go.Proofs.Ytgnnikjpnmalmaa
