/-
  Layer 12: a sector of another kind, stamp or text is no head. The walk.
-/
import Derived.Test.YtgeddfjnhhaciaaSuperAlive
import Derived.Test.YtgeddfjnhhaciaaFrameRefSectorOk
namespace Go.Proofs.Ytgeddfjnhhaciaa
open Go.RowKit
set_option linter.unusedVariables false
set_option linter.unusedSimpArgs false

set_option maxRecDepth 100000 in
set_option maxHeartbeats 8000000 in
theorem superWrong (kind : Int) (t : Stp) (l : List UInt8) (a : Option Addr) (cap : Nat) (h1 : l.length ≤ cap) (h2 : cap ≤ maxLen) (w : World) (O : Octs w a l) :
    Calls Try.prog 3 #[.int .i64 kind, sval t, .slice a l.length cap] w fun e w' => e = .returned (.bool true) ∧ Below w.heap.size w w' := by
  obtain ⟨W0, hW0⟩ : ∃ W0, w.alloc (.cells (scells t) 23) = W0 := ⟨_, rfl⟩
  have hb0 : Below w.heap.size w W0 := by rw [← hW0]; exact (Below.refl _ _).alloc (Nat.le_refl _) _
  have BX : Blk W0 w.heap.size (scells t) := by rw [← hW0]; exact Blk.new w _ _
  have hl : l.length ≤ 9223372036854775807 := by unfold maxLen at h2; omega
  have KA := hid alive12
  have P1 := hid (O.more hb0)
  have D0 := hid hb0
  have HBX := hid BX
  by_cases hok : stFits kind t ∧ l.length ≤ 238
  · obtain ⟨G1, G2, G3, G4, G5, G6⟩ := seal_good kind t l hok.1 hok.2
    have SLl := sealB_length kind t l hok.2
    have KS := fun w O => sector_ok kind t l a cap hok.1 hok.2 w O
    unfold SealPost at KS
    rw [show sealC kind t l.length = 0 by unfold sealC; rw [if_pos hok.1, if_pos hok.2], show sealL kind t l = sealB kind t l by unfold sealL; rw [if_pos hok]] at KS
    have KR := fun a c q1 q2 w O => superRead_any (sealB kind t l) a c q1 q2 w O
    unfold SupPost at KR
    have hsup : supB (sealB kind t l) = (kind == 1 && (stEq t.e t.s t.a 0 0 0 && (decide (l.length = 2) && gokB (byteAt l 0) (byteAt l 1)))) := by
      unfold supB; rw [G2, G3, G4, G5, Bool.true_and]
    have hE : supE (sealB kind t l) = if supB (sealB kind t l) then 0 else 16 := rfl
    rw [hsup] at hE
    clear G1 G2 G3 G4 G5 G6 hsup
    generalize supN (sealB kind t l) = SN at *
    generalize supZ (sealB kind t l) = SZ at *
    generalize supE (sealB kind t l) = SE at *
    generalize sealB kind t l = SL at *
    rw [SLl] at KR
    have hlI : (l.length : Int) ≤ 238 := by omega
    replace KS := hid KS
    replace KR := hid KR
    replace hE := hid hE
    have z0 : 1 ≤ l.length → ∀ wx, Octs wx a l → ∃ b o, a = some ⟨b, o, none⟩ ∧ b < wx.heap.size ∧ ∀ i (h : i < l.length), wx.cell? ⟨b, o + i, none⟩ = some (.int .u8 (byteAt l i : Int)) := fun hn wx O => by
      obtain ⟨b, o, e, lt, hc⟩ := O.row (by intro h; rw [h] at hn; simp at hn)
      exact ⟨b, o, e, lt, fun i h => by rw [hc i h, byteAt_get l i h]⟩
    replace z0 := hid z0
    have c2I : (l.length : Int) ≤ (cap : Int) := by omega
    clear O hb0 BX h1 h2 hl hok
    go_enter Try.func3, Try.ntmps3
    obtain ⟨lx, kx, fx⟩ := HBX.out
    go_wp2_with fail
    refine (KA.out _).mono ?_
    rintro e w1 ⟨rfl, hb1⟩
    have Q1 := hid (P1.out.more hb1)
    have D1 := hid (below2 D0.out hb1 D0.out.size)
    have HB1 := hid (HBX.out.more hb1)
    clear hb1 P1 D0 HBX lx kx fx hW0
    obtain ⟨lx, kx, fx⟩ := HB1.out
    go_wp2_with fail
    refine (KS.out _ Q1.out).mono ?_
    rintro e w2 ⟨v1, rfl, F1⟩
    obtain ⟨xa, xc, rfl, OX, q1, q2, hb2⟩ := fresh_cap12 F1 (by intro h; rw [h] at SLl; cases SLl)
    rw [SLl]
    have R1 := hid (Q1.out.more hb2)
    have D2 := hid (below2 D1.out hb2 D1.out.size)
    have HB2 := hid (HB1.out.more hb2)
    rw [SLl] at q1
    replace KR := hid (KR.out xa xc q1 q2 w2 OX)
    clear hb2 Q1 D1 HB1 lx kx fx F1 OX q1 q2 SLl
    go_wp2_with fail
    refine KR.out.mono ?_
    rintro e w4 ⟨rfl, hb4⟩
    have R4 := R1.out.more hb4
    have D4 := hid ((below2 D2.out hb4 D2.out.size).alloc (by have h := D2.out.size; have h' := hb4.size; omega) (.cells #[.int .i64 SN, .int .i64 SZ] 29))
    have HB4 := hid (HB2.out.more hb4)
    clear hb4 R1 D2 HB2
    obtain ⟨lx, kx, fx⟩ := HB4.out
    cases hk : (kind == 1) with
    | false =>
      have hE0 : SE = 16 := by rw [hE.out, hk]; rfl
      subst hE0
      go_wp2_with fail
      go_ret
      exact ⟨rfl, D4.out⟩
    | true =>
      obtain rfl : kind = 1 := by simpa using hk
      cases hs : stEq t.e t.s t.a 0 0 0 with
      | false =>
        have hE0 : SE = 16 := by rw [hE.out, hs]; rfl
        subst hE0
        clear hk
        go_wp2_with fail
        go_ret
        exact ⟨rfl, D4.out⟩
      | true =>
        by_cases ht : l.length = 2
        · obtain ⟨b, o, rfl, lt, hc⟩ := z0.out (by omega) w4 R4
          have y0 := hc 0 (by omega)
          have y1 := hc 1 (by omega)
          rw [Nat.add_zero] at y0
          have hE1 : SE = if gokB (byteAt l 0) (byteAt l 1) then 0 else 16 := by rw [hE.out, hs, ht]; rfl
          have b0 := byteAt_lt l 0
          have b1 := byteAt_lt l 1
          rw [ht] at c2I ⊢
          replace hE1 := hid hE1
          clear hk hE R4 hc ht z0 hlI
          generalize byteAt l 0 = x0 at *
          generalize byteAt l 1 = x1 at *
          have i1 : (1 : Int) < 2 := by omega
          by_cases g0 : 6 ≤ (x0 : Int)
          · by_cases g1 : (x0 : Int) ≤ 32
            · by_cases g2 : 4 ≤ (x1 : Int)
              · by_cases g3 : (x1 : Int) ≤ 32
                · have hE0 : SE = 0 := by rw [hE1.out, gok_iff.2 ⟨by omega, by omega, by omega, by omega⟩]; rfl
                  subst hE0
                  go_wp2_with fail
                  go_ret
                  exact ⟨rfl, D4.out⟩
                · have hE0 : SE = 16 := by
                    rw [hE1.out]
                    cases hg : gokB (x0 : Int) (x1 : Int) with
                    | false => rfl
                    | true => have := gok_iff.1 hg; omega
                  subst hE0
                  replace g3 := decide_eq_false g3
                  go_wp2_with fail
                  go_ret
                  exact ⟨rfl, D4.out⟩
              · have hE0 : SE = 16 := by
                  rw [hE1.out]
                  cases hg : gokB (x0 : Int) (x1 : Int) with
                  | false => rfl
                  | true => have := gok_iff.1 hg; omega
                subst hE0
                replace g2 := decide_eq_false g2
                go_wp2_with fail
                go_ret
                exact ⟨rfl, D4.out⟩
            · have hE0 : SE = 16 := by
                rw [hE1.out]
                cases hg : gokB (x0 : Int) (x1 : Int) with
                | false => rfl
                | true => have := gok_iff.1 hg; omega
              subst hE0
              replace g1 := decide_eq_false g1
              go_wp2_with fail
              go_ret
              exact ⟨rfl, D4.out⟩
          · have hE0 : SE = 16 := by
              rw [hE1.out]
              cases hg : gokB (x0 : Int) (x1 : Int) with
              | false => rfl
              | true => have := gok_iff.1 hg; omega
            subst hE0
            replace g0 := decide_eq_false g0
            go_wp2_with fail
            go_ret
            exact ⟨rfl, D4.out⟩
        · have ht' : ((l.length : Int) == 2) = false := by simp; omega
          have hE0 : SE = 16 := by rw [hE.out, hs, decide_eq_false ht]; rfl
          subst hE0
          clear hk ht
          go_wp2_with fail
          go_ret
          exact ⟨rfl, D4.out⟩
  · have KS := fun w => sector_bad kind t l a cap hl hok w
    unfold SealPost at KS
    have hc : sealC kind t l.length = 4 ∨ sealC kind t l.length = 5 := by
      unfold sealC
      by_cases hf : stFits kind t
      · rw [if_pos hf, if_neg (fun h => hok ⟨hf, h⟩)]; exact .inr rfl
      · rw [if_neg hf]; exact .inl rfl
    rw [show sealL kind t l = [] by unfold sealL; rw [if_neg hok]] at KS
    replace KS := hid KS
    clear O hb0 BX h1 h2 hl hok
    generalize sealC kind t l.length = C at *
    go_enter Try.func3, Try.ntmps3
    obtain ⟨lx, kx, fx⟩ := HBX.out
    go_wp2_with fail
    refine (KA.out _).mono ?_
    rintro e w1 ⟨rfl, hb1⟩
    have D1 := hid (below2 D0.out hb1 D0.out.size)
    have HB1 := hid (HBX.out.more hb1)
    clear hb1 D0 HBX lx kx fx hW0
    obtain ⟨lx, kx, fx⟩ := HB1.out
    go_wp2_with fail
    refine (KS.out _).mono ?_
    rintro e w2 ⟨v1, rfl, xa, xc, rfl, _, hb2⟩
    have D2 := hid (below2 D1.out hb2 D1.out.size)
    clear hb2 D1
    rcases hc with rfl | rfl
    all_goals
      go_wp2_with fail
      go_ret
      exact ⟨rfl, D2.out⟩
end Go.Proofs.Ytgeddfjnhhaciaa
