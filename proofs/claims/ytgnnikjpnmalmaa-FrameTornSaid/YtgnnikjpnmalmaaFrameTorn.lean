/-
  Layer 9: a sector with one octet changed is none, unless its sum is right with it; one that is cut, or longer, is none. The walk.
-/
import Derived.Test.YtgnnikjpnmalmaaFrameAlive
import Derived.Test.YtgnnikjpnmalmaaFrameRefSound
namespace Go.Proofs.Ytgnnikjpnmalmaa
open Go.RowKit
set_option linter.unusedVariables false
set_option linter.unusedSimpArgs false

/-- A place of 256, whatever the number. -/
theorem place_256 (n : Int) : ∃ k : Nat, k < 256 ∧ IntKind.i64.wrap ((n.tmod 256) + 256) = n.tmod 256 + 256 ∧ ((n.tmod 256) + 256) % 256 = (k : Int) ∧ ((n.tmod 256) + 256).tmod 256 = (k : Int) ∧ 0 ≤ n.tmod 256 + 256 := by
  have h1 : -256 < n.tmod 256 := by have := Int.tmod_lt_of_pos (-n) (show (0 : Int) < 256 by omega); rw [Int.neg_tmod] at this; omega
  have h2 : n.tmod 256 < 256 := Int.tmod_lt_of_pos n (by omega)
  have e : (n.tmod 256 + 256).tmod 256 = (n.tmod 256 + 256) % 256 := Int.tmod_eq_emod_of_nonneg (by omega)
  rw [e]
  exact ⟨((n.tmod 256 + 256) % 256).toNat, by omega, IntWalk.i64_in _ (by omega), by omega, by omega, by omega⟩
theorem ownt_more {w w' : World} {base : Nat} {e : TypeId} {size : Nat} {v : Value} {n : Nat} {xs : List Value} (h : w.ownsRow base e size v n xs) (hb : Below w.heap.size w w') : w'.ownsRow base e size v n xs :=
  own_sole h (Sole.made (S := fun _ => False) hb) fun _ _ x => x
theorem octet_is (v : Nat) (h : v < 256) : ∃ q : UInt8, q.toNat = v := ⟨UInt8.ofNat v, by simp; omega⟩
/-- What is no sector's length has no sum. -/
theorem sound_short (l : List UInt8) (h : l.length ≠ 256) : soundB l = false := by unfold soundB; simp [h]
theorem good_sound (l : List UInt8) (h : goodB l = true) : soundB l = true := by
  unfold goodB at h
  simp only [Bool.and_eq_true] at h
  exact h.1

set_option maxRecDepth 100000 in
set_option maxHeartbeats 8000000 in
theorem frameTorn (l : List UInt8) (a1 : Option Addr) (c1 : Nat) (n : Int) (x : Nat) (m : Int) (hx : x < 256) (hn : -9223372036854775808 ≤ n ∧ n ≤ 9223372036854775807) (hm : -9223372036854775808 ≤ m ∧ m ≤ 9223372036854775807) (h1 : l.length ≤ c1) (h2 : c1 ≤ maxLen) (w : World) (O1 : Octs w a1 l) :
    Calls Try.prog 11 #[.slice a1 l.length c1, .int .i64 n, .int .u8 x, .int .i64 m] w fun e w' => e = .returned (.bool true) ∧ Below w.heap.size w w' := by
  have hl : l.length ≤ 9223372036854775807 := by unfold maxLen at h2; omega
  have KA := hid alive09
  by_cases hlen : l.length ≤ 238
  · have SLl := sealB_length 5 ⟨7, 3, 1⟩ l hlen
    have KS := fun w O => seal_ok 5 ⟨7, 3, 1⟩ l a1 c1 (by decide) hlen w O
    unfold SealPost at KS
    rw [show sealC 5 ⟨7, 3, 1⟩ l.length = 0 by unfold sealC; rw [if_pos (by decide), if_pos hlen], show sealL 5 ⟨7, 3, 1⟩ l = sealB 5 ⟨7, 3, 1⟩ l by unfold sealL; rw [if_pos ⟨by decide, hlen⟩]] at KS
    generalize sealB 5 ⟨7, 3, 1⟩ l = SL at *
    obtain ⟨k, hk, ek1, ek2, ek3, ek4⟩ := place_256 n
    obtain ⟨j, hj, ej1, ej2, ej3, ej4⟩ := place_256 m
    have P1 := hid O1
    replace KS := hid KS
    have n1 : -9223372036854775808 ≤ n := hn.1
    have n2 : n ≤ 9223372036854775807 := hn.2
    have m1 : -9223372036854775808 ≤ m := hm.1
    have m2 : m ≤ 9223372036854775807 := hm.2
    clear O1 h1 h2 hl hlen hn hm
    go_enter Try.func11, Try.ntmps11
    go_wp2_with fail
    refine (KA.out _).mono ?_
    rintro e w1 ⟨rfl, hb1⟩
    have Q1 := hid (P1.out.more hb1)
    have D1 := hid hb1
    clear hb1 P1
    go_wp2_with fail
    refine (KS.out _ Q1.out).mono ?_
    rintro e w2 ⟨v1, rfl, F1⟩
    obtain ⟨xa, xc, rfl, OX, q1, q2, hb2⟩ := fresh_cap F1 (by intro h; rw [h] at SLl; cases SLl)
    rw [SLl] at q1 ⊢
    have D2 := hid (below2 D1.out hb2 D1.out.size)
    have hs2 := hid D2.out.size
    have hxb : Hid (∀ b o, xa = some ⟨b, o, none⟩ → b < w2.heap.size) := hid (fun b o e => by
      obtain ⟨b', o', e', lt, _⟩ := OX.row (by intro h; rw [h] at SLl; cases SLl)
      rw [e] at e'; cases e'; exact lt)
    have OM := World.ownsRow_made (size := 1) (e := 5) (base := w2.heap.size) w2 #[] 0 (Nat.le_refl _) (Nat.zero_le _) rfl
    have hbm : Below w2.heap.size w2 (w2.alloc (.cells #[] 5)) := Below.alloc (Below.refl _ _) (Nat.le_refl _) _
    obtain ⟨v3, w3, hr3, R3, gr3, _⟩ := append_octs w2.heap.size 22 (w2.alloc (.cells #[] 5)) _ 0 [] OM xa xc SL (OX.more hbm) (by omega) (by simp)
    have hb3 := Below.grown hbm gr3 (by simp) fun k hk => (OM.lt k hk).1
    rw [Nat.zero_add, List.nil_append, SLl] at R3
    rw [SLl] at hr3
    have OX3 := hid (OX.more hb3)
    have D3 := hid (below2 D2.out hb3 D2.out.size)
    have hz3 := hid hb3.size
    obtain ⟨g, yc, cur, hv3, hgb, hyc, hcap, BY, hcs, hcell⟩ := own_blk R3 (by omega)
    subst hv3
    have HR3 := hid R3
    have HBY := hid BY
    clear Q1 D1 D2 F1 OX OM hbm gr3 hb3 R3
    have zk : w3.cell? ⟨g, k, none⟩ = some (.int .u8 (byteAt SL k : Int)) := by
      have hk' : k < SL.length := by omega
      rw [BY.cell, hcell k hk, byteAt_get SL k hk']
      simp [Lib.byteCells, hk']
    have fk : w3.frozen? ⟨g, k, none⟩ = false := BY.frz k
    have bk := byteAt_lt SL k
    have xk := u8_xor_nat (byteAt SL k) x bk hx
    have hv : byteAt SL k ^^^ x < 256 := Nat.xor_lt_two_pow (n := 8) bk hx
    obtain ⟨q, hq⟩ := octet_is _ hv
    rw [← hq] at xk
    have W4 := own_set HR3.out k (.int .u8 (q.toNat : Int))
    rw [show (Lib.byteCells SL).set k (.int .u8 (q.toNat : Int)) = Lib.byteCells (SL.set k q) by simp [Lib.byteCells, List.map_set]] at W4
    have D4 := hid (D3.out.setCell (p := ⟨g, k, none⟩) (by show w.heap.size ≤ g; have := hs2.out; omega) (.int .u8 (q.toNat : Int)))
    have S4 : Sole (fun i => i = g) w3 (w3.setCell ⟨g, k, none⟩ (.int .u8 (q.toNat : Int))) := Sole.setCell _ _ rfl
    have hYl : (SL.set k q).length = 256 := by rw [List.length_set, SLl]
    have OY4 := Octs.of_own (l := SL.set k q) (by rw [hYl]; exact W4)
    have OX4 := hid (OX3.out.sole S4 (fun b' o' e _ hb' => by have h1 := hxb.out b' o' e; have h2 : b' = g := hb'; omega))
    have KOY := fun wx O => fopen_any (SL.set k q) (some ⟨g, 0, none⟩) yc (by rw [hYl]; exact hyc) hcap wx O
    unfold OpenPost at KOY
    have KRY := fun wx O => refSound_any (SL.set k q) (some ⟨g, 0, none⟩) yc (by rw [hYl]; exact hyc) hcap wx O
    have KSX := fun wx O => sound_any (SL.take j) xa xc (by rw [List.length_take]; omega) q2 wx O
    have hXl : (SL.take j).length = j := by rw [List.length_take]; omega
    rw [hXl, sound_short _ (by rw [hXl]; omega)] at KSX
    have hE : openE (SL.set k q) = if goodB (SL.set k q) then 0 else 16 := rfl
    have hGS : goodB (SL.set k q) = true → soundB (SL.set k q) = true := good_sound _
    have PS := hid (fun (wx : World) (own : wx.ownsRow w2.heap.size 5 1 (.slice (some ⟨g, 0, none⟩) 256 yc) 256 (Lib.byteCells (SL.set k q))) (hbase : w2.heap.size ≤ wx.heap.size) => push_octet w2.heap.size 22 wx (.slice (some ⟨g, 0, none⟩) 256 yc) (SL.set k q) (by rw [hYl]; exact own) 0 (by rw [hYl]; omega) hbase)
    have KS2 := hid (fun (a : Option Addr) (c : Nat) (hc1 : 257 ≤ c) (hc2 : c ≤ maxLen) wx O => sound_any (SL.set k q ++ [0]) a c (by rw [List.length_append, hYl]; exact hc1) hc2 wx O)
    have hY1 : (SL.set k q ++ [0]).length = 257 := by rw [List.length_append, hYl]; rfl
    rw [hY1, sound_short _ (by rw [hY1]; omega)] at KS2
    replace hY1 := hid hY1
    rw [hYl] at KOY KRY
    generalize openK (SL.set k q) = K at *
    generalize openS (SL.set k q) = S at *
    generalize openT (SL.set k q) = T at *
    generalize openE (SL.set k q) = E at *
    generalize goodB (SL.set k q) = G at *
    generalize soundB (SL.set k q) = N at *
    generalize SL.set k q = Y at *
    have jI : (j : Int) ≤ (xc : Int) := by omega
    replace KOY := hid KOY
    replace KRY := hid KRY
    replace KSX := hid KSX
    replace hE := hid hE
    replace hGS := hid hGS
    replace OY4 := hid OY4
    have W4' := hid W4
    have hcap' := hid hcap
    have hkI : (k : Int) < 256 := by omega
    clear S4 W4 BY HBY HR3 OX3 D3 hcell hcs hxb KS hcap q2 hq hv bk hYl hXl
    go_wp2_with (at_builtin; refine Lib.wpList_append_run _ rfl _ _ _ _ rfl _ _ rfl rfl _ _ hr3 ?_)
    refine (KOY.out _ OY4.out).mono ?_
    rintro e w5 ⟨v5, rfl, _, hb5⟩
    have hbA : Below w5.heap.size w5 (w5.alloc (.cells #[.int .i64 S.e, .int .i64 S.s, .int .i64 S.a] 75)) := (Below.refl _ _).alloc (Nat.le_refl _) _
    have hb5' := below2 hb5 hbA hb5.size
    have OY5 := hid (OY4.out.more hb5')
    have OXX := hid (OX4.out.more hb5')
    have WX := hid (ownt_more W4'.out hb5')
    have DX := hid (below2 D4.out hb5' D4.out.size)
    have HZ := hid (show w2.heap.size ≤ _ from Nat.le_trans (Nat.le_trans hz3.out (by simp [World.setCell])) hb5'.size)
    clear hb5 hbA hb5' OY4 OX4 W4' D4
    cases hG : G with
    | false =>
      subst hG
      rw [hE.out, if_neg (by simp)]
      go_wp2_with fail
      refine (KSX.out _ (OXX.out.take j)).mono ?_
      rintro e w7 ⟨rfl, hb7⟩
      have D7 := hid (below2 DX.out hb7 DX.out.size)
      have W7 := ownt_more WX.out hb7
      have hz7 := hid (show w2.heap.size ≤ w7.heap.size by have h1 := HZ.out; have h2 := hb7.size; omega)
      obtain ⟨v9, w9, hr9, R9, S9, _⟩ := PS.out w7 W7 hz7.out
      rw [show (((0 : UInt8).toNat : Nat) : Int) = 0 from rfl] at hr9
      rw [hY1.out] at R9
      obtain ⟨g9, y9, cur9, hv9, hgb9, hy9, hcap9, _, _, _⟩ := own_blk R9 (by omega)
      have D9 := hid (D7.out.trans (S9.below (B := w.heap.size) D7.out.size fun i hi => by have h1 := (W7.lt i hi).1; have h2 := hs2.out; omega))
      have O9 := hid (Octs.of_own (l := Y ++ [0]) (cap := y9) (a := some ⟨g9, 0, none⟩) (by rw [hY1.out]; rw [← hv9]; exact R9))
      subst hv9
      replace W7 := hid W7
      clear S9 hb7 R9
      go_wp2_with fail
      refine Lib.wp_append_run _ _ _ _ _ rfl _ _ rfl rfl _ _ hr9 ?_
      go_wp2_with fail
      refine (KS2.out _ _ hy9 hcap9 _ O9.out).mono ?_
      rintro e w10 ⟨rfl, hb10⟩
      have D10 := hid (below2 D9.out hb10 D9.out.size)
      clear hb10
      go_wp2_with fail
      go_ret
      exact ⟨rfl, D10.out⟩
    | true =>
      subst hG
      rw [hE.out, if_pos rfl]
      by_cases h0 : x = 0
      · subst h0
        go_wp2_with fail
        refine (KSX.out _ (OXX.out.take j)).mono ?_
        rintro e w7 ⟨rfl, hb7⟩
        have D7 := hid (below2 DX.out hb7 DX.out.size)
        have W7 := ownt_more WX.out hb7
        have hz7 := hid (show w2.heap.size ≤ w7.heap.size by have h1 := HZ.out; have h2 := hb7.size; omega)
        obtain ⟨v9, w9, hr9, R9, S9, _⟩ := PS.out w7 W7 hz7.out
        rw [show (((0 : UInt8).toNat : Nat) : Int) = 0 from rfl] at hr9
        rw [hY1.out] at R9
        obtain ⟨g9, y9, cur9, hv9, hgb9, hy9, hcap9, _, _, _⟩ := own_blk R9 (by omega)
        have D9 := hid (D7.out.trans (S9.below (B := w.heap.size) D7.out.size fun i hi => by have h1 := (W7.lt i hi).1; have h2 := hs2.out; omega))
        have O9 := hid (Octs.of_own (l := Y ++ [0]) (cap := y9) (a := some ⟨g9, 0, none⟩) (by rw [hY1.out]; rw [← hv9]; exact R9))
        subst hv9
        replace W7 := hid W7
        clear S9 hb7 R9
        go_wp2_with fail
        refine Lib.wp_append_run _ _ _ _ _ rfl _ _ rfl rfl _ _ hr9 ?_
        go_wp2_with fail
        refine (KS2.out _ _ hy9 hcap9 _ O9.out).mono ?_
        rintro e w10 ⟨rfl, hb10⟩
        have D10 := hid (below2 D9.out hb10 D9.out.size)
        clear hb10
        go_wp2_with fail
        go_ret
        exact ⟨rfl, D10.out⟩
      · have hx0 : ((x : Int) == 0) = false := by simp; omega
        have hN : N = true := hGS.out rfl
        subst hN
        go_wp2_with fail
        refine (KRY.out _ OY5.out).mono ?_
        rintro e w6 ⟨rfl, hb6⟩
        replace OXX := hid (OXX.out.more hb6)
        replace WX := hid (ownt_more WX.out hb6)
        replace DX := hid (below2 DX.out hb6 DX.out.size)
        replace HZ := hid (Nat.le_trans HZ.out hb6.size)
        clear hb6
        go_wp2_with fail
        refine (KSX.out _ (OXX.out.take j)).mono ?_
        rintro e w7 ⟨rfl, hb7⟩
        have D7 := hid (below2 DX.out hb7 DX.out.size)
        have W7 := ownt_more WX.out hb7
        have hz7 := hid (show w2.heap.size ≤ w7.heap.size by have h1 := HZ.out; have h2 := hb7.size; omega)
        obtain ⟨v9, w9, hr9, R9, S9, _⟩ := PS.out w7 W7 hz7.out
        rw [show (((0 : UInt8).toNat : Nat) : Int) = 0 from rfl] at hr9
        rw [hY1.out] at R9
        obtain ⟨g9, y9, cur9, hv9, hgb9, hy9, hcap9, _, _, _⟩ := own_blk R9 (by omega)
        have D9 := hid (D7.out.trans (S9.below (B := w.heap.size) D7.out.size fun i hi => by have h1 := (W7.lt i hi).1; have h2 := hs2.out; omega))
        have O9 := hid (Octs.of_own (l := Y ++ [0]) (cap := y9) (a := some ⟨g9, 0, none⟩) (by rw [hY1.out]; rw [← hv9]; exact R9))
        subst hv9
        replace W7 := hid W7
        clear S9 hb7 R9
        go_wp2_with fail
        refine Lib.wp_append_run _ _ _ _ _ rfl _ _ rfl rfl _ _ hr9 ?_
        go_wp2_with fail
        refine (KS2.out _ _ hy9 hcap9 _ O9.out).mono ?_
        rintro e w10 ⟨rfl, hb10⟩
        have D10 := hid (below2 D9.out hb10 D9.out.size)
        clear hb10
        go_wp2_with fail
        go_ret
        exact ⟨rfl, D10.out⟩
  · have KS := fun w => seal_bad 5 ⟨7, 3, 1⟩ l a1 c1 hl (fun h => hlen h.2) w
    unfold SealPost at KS
    rw [show sealC 5 ⟨7, 3, 1⟩ l.length = 5 by unfold sealC; rw [if_pos (by decide), if_neg hlen]] at KS
    replace KS := hid KS
    have hg : 238 < (l.length : Int) := by omega
    have hl' : (l.length : Int) ≤ 9223372036854775807 := by omega
    clear hlen h1 h2 hl
    go_enter Try.func11, Try.ntmps11
    go_wp2_with fail
    refine (KA.out _).mono ?_
    rintro e w1 ⟨rfl, hb1⟩
    have D1 := hid hb1
    clear hb1
    go_wp2_with fail
    refine (KS.out _).mono ?_
    rintro e w2 ⟨v1, rfl, xa, xc, rfl, _, hb2⟩
    have D2 := hid (below2 D1.out hb2 D1.out.size)
    clear hb2 D1
    go_wp2_with fail
    go_ret
    exact ⟨rfl, D2.out⟩
end Go.Proofs.Ytgnnikjpnmalmaa
