/-
  Layer 9: what is sealed is opened; it is of its kind and stamp, and of no others. The walk.
-/
import Derived.Test.YtgnnikjpnmalmaaFrameAlive
namespace Go.Proofs.Ytgnnikjpnmalmaa
open Go.RowKit
set_option linter.unusedVariables false
set_option linter.unusedSimpArgs false

theorem stEq_swap (a b c a' b' c' : Int) : stEq a b c a' b' c' = stEq a' b' c' a b c := by
  unfold stEq
  rw [Bool.eq_iff_iff]
  simp only [Bool.and_eq_true, decide_eq_true_eq]
  constructor <;> rintro ⟨⟨rfl, rfl⟩, rfl⟩ <;> exact ⟨⟨rfl, rfl⟩, rfl⟩
theorem box2 (w : World) (t t' : Stp) : ∃ W0, (w.alloc (.cells (scells t) 75)).alloc (.cells (scells t') 75) = W0 ∧ Below w.heap.size w W0 ∧ Blk W0 w.heap.size (scells t) ∧ Blk W0 (w.heap.size + 1) (scells t') := by
  refine ⟨_, rfl, ((Below.refl _ _).alloc (Nat.le_refl _) _).alloc (by simp) _, (Blk.new w _ _).alloc _, ?_⟩
  have := Blk.new (w.alloc (.cells (scells t) 75)) (scells t') 75
  rwa [World.size_alloc] at this

set_option maxRecDepth 100000 in
set_option maxHeartbeats 8000000 in
theorem frameBack (kind other : Int) (t t' : Stp) (l : List UInt8) (a1 : Option Addr) (c1 : Nat) (h1 : l.length ≤ c1) (h2 : c1 ≤ maxLen) (w : World) (O1 : Octs w a1 l) :
    Calls Try.prog 10 #[.int .i64 kind, sval t, .slice a1 l.length c1, .int .i64 other, sval t'] w fun e w' => e = .returned (.bool true) ∧ Below w.heap.size w w' := by
  obtain ⟨W0, hW0, hb0, BX, BY⟩ := box2 w t t'
  have hl : l.length ≤ 9223372036854775807 := by unfold maxLen at h2; omega
  have KA := hid alive09
  have P1 := hid (O1.more hb0)
  have D0 := hid hb0
  have HBX := hid BX
  have HBY := hid BY
  by_cases hok : stFits kind t ∧ l.length ≤ 238
  · obtain ⟨G1, G2, G3, G4, G5, G6⟩ := seal_good kind t l hok.1 hok.2
    have SLl := sealB_length kind t l hok.2
    have KS := fun w O => seal_ok kind t l a1 c1 hok.1 hok.2 w O
    unfold SealPost at KS
    rw [show sealC kind t l.length = 0 by unfold sealC; rw [if_pos hok.1, if_pos hok.2], show sealL kind t l = sealB kind t l by unfold sealL; rw [if_pos hok]] at KS
    have KO := fun a c q1 q2 w O => fopen_any (sealB kind t l) a c q1 q2 w O
    unfold OpenPost at KO
    rw [G3, G4, G5, G6] at KO
    have KN := fun a c q1 q2 w O => sound_any (sealB kind t l) a c q1 q2 w O
    rw [G1] at KN
    have KI := fun a c q1 q2 w O => is_any (sealB kind t l) a c q1 q2 other t' w O
    rw [show isB (sealB kind t l) other t' = (kind == other && stEq t.e t.s t.a t'.e t'.s t'.a) by unfold isB; rw [G2, G3, G4, Bool.true_and]] at KI
    clear G1 G2 G3 G4 G5 G6
    generalize sealB kind t l = SL at *
    rw [SLl] at KO KN KI
    replace KS := hid KS
    replace KO := hid KO
    replace KN := hid KN
    replace KI := hid KI
    clear O1 hb0 BX BY h1 h2 hl hok
    go_enter Try.func10, Try.ntmps10
    obtain ⟨lx, kx, fx⟩ := HBX.out
    obtain ⟨ly, ky, fy⟩ := HBY.out
    go_wp2_with fail
    refine (KA.out _).mono ?_
    rintro e w1 ⟨rfl, hb1⟩
    have Q1 := hid (P1.out.more hb1)
    have D1 := hid (below2 D0.out hb1 D0.out.size)
    have HB1 := hid (HBX.out.more hb1)
    have HC1 := hid (HBY.out.more hb1)
    clear hb1 P1 D0 HBX HBY lx kx fx ly ky fy hW0
    obtain ⟨lx, kx, fx⟩ := HB1.out
    obtain ⟨ly, ky, fy⟩ := HC1.out
    go_wp2_with fail
    refine (KS.out _ Q1.out).mono ?_
    rintro e w2 ⟨v1, rfl, F1⟩
    obtain ⟨xa, xc, rfl, OX, q1, q2, hb2⟩ := fresh_cap F1 (by intro h; rw [h] at SLl; cases SLl)
    rw [SLl]
    have X1 := hid OX
    have R1 := hid (Q1.out.more hb2)
    have D2 := hid (below2 D1.out hb2 D1.out.size)
    have HB2 := hid (HB1.out.more hb2)
    have HC2 := hid (HC1.out.more hb2)
    rw [SLl] at q1
    replace KO := hid (KO.out xa xc q1 q2)
    replace KN := hid (KN.out xa xc q1 q2)
    replace KI := hid (KI.out xa xc q1 q2)
    clear hb2 Q1 D1 HB1 HC1 lx kx fx ly ky fy F1 OX q1 q2 SLl
    go_wp2_with fail
    refine (KO.out _ X1.out).mono ?_
    rintro e w4 ⟨v3, rfl, V3, hb4⟩
    have hbA : Below w4.heap.size w4 (w4.alloc (.cells #[.int .i64 t.e, .int .i64 t.s, .int .i64 t.a] 75)) := (Below.refl _ _).alloc (Nat.le_refl _) _
    have BA := Blk.new w4 #[.int .i64 t.e, .int .i64 t.s, .int .i64 t.a] 75
    have hb4' := below2 hb4 hbA hb4.size
    have X4 := hid (X1.out.more hb4')
    have R4 := hid (R1.out.more hb4')
    have V4 := V3.more hbA
    have D4 := hid (below2 D2.out hb4' D2.out.size)
    have HB4 := hid (HB2.out.more hb4')
    have HC4 := hid (HC2.out.more hb4')
    have k3 := V4.conv
    have k4 := conv_octs R4.out c1
    clear V3 hb4 hbA hb4' X1 R1 D2 V4
    obtain ⟨la, ka, fa⟩ := BA
    obtain ⟨lx, kx, fx⟩ := HB4.out
    obtain ⟨ly, ky, fy⟩ := HC4.out
    have hse : stEq t.e t.s t.a t.e t.s t.a = true := by simp [stEq]
    go_wp2_with fail
    refine (KN.out _ X4.out).mono ?_
    rintro e w5 ⟨rfl, hb5⟩
    have X5 := hid (X4.out.more hb5)
    have D5 := hid (below2 D4.out hb5 D4.out.size)
    have HB5 := hid (HB4.out.more hb5)
    have HC5 := hid (HC4.out.more hb5)
    clear hb5 lx kx fx ly ky fy HB4 HC4 X4 D4
    obtain ⟨lx, kx, fx⟩ := HB5.out
    obtain ⟨ly, ky, fy⟩ := HC5.out
    go_wp2_with fail
    refine (KI.out _ X5.out).mono ?_
    rintro e w6 ⟨rfl, hb6⟩
    have D6 := hid (below2 D5.out hb6 D5.out.size)
    have HB6 := hid (HB5.out.more hb6)
    have HC6 := hid (HC5.out.more hb6)
    clear hb6 lx kx fx ly ky fy HB5 HC5
    obtain ⟨lx, kx, fx⟩ := HB6.out
    obtain ⟨ly, ky, fy⟩ := HC6.out
    by_cases hk : kind = other
    · subst hk
      rw [stEq_swap, beq_self_eq_true, Bool.true_and]
      have hkk : (kind == kind) = true := by simp
      cases hs : stEq t'.e t'.s t'.a t.e t.s t.a with
      | false =>
        go_wp2_with fail
        go_ret
        exact ⟨rfl, D6.out⟩
      | true =>
        go_wp2_with fail
        go_ret
        exact ⟨rfl, D6.out⟩
    · rw [show (kind == other) = false by simpa using hk, Bool.false_and]
      have hk' : (other == kind) = false := by simpa using fun h => hk h.symm
      go_wp2_with fail
      go_ret
      exact ⟨rfl, D6.out⟩
  · have KS := fun w => seal_bad kind t l a1 c1 hl hok w
    unfold SealPost at KS
    have hc : sealC kind t l.length = 4 ∨ sealC kind t l.length = 5 := by
      unfold sealC
      by_cases hf : stFits kind t
      · rw [if_pos hf, if_neg (fun h => hok ⟨hf, h⟩)]; exact .inr rfl
      · rw [if_neg hf]; exact .inl rfl
    rw [show sealL kind t l = [] by unfold sealL; rw [if_neg hok]] at KS
    replace KS := hid KS
    clear O1 hb0 BX BY h1 h2 hl hok
    generalize sealC kind t l.length = C at *
    go_enter Try.func10, Try.ntmps10
    obtain ⟨lx, kx, fx⟩ := HBX.out
    go_wp2_with fail
    refine (KA.out _).mono ?_
    rintro e w1 ⟨rfl, hb1⟩
    have D1 := hid (below2 D0.out hb1 D0.out.size)
    have HB1 := hid (HBX.out.more hb1)
    clear hb1 D0 HBX HBY lx kx fx hW0
    obtain ⟨lx, kx, fx⟩ := HB1.out
    go_wp2_with fail
    refine (KS.out _).mono ?_
    rintro e w2 ⟨v1, rfl, xa, xc, rfl, _, hb2⟩
    have D2 := hid (below2 D1.out hb2 D1.out.size)
    clear hb2 D1
    rcases hc with rfl | rfl
    all_goals
      go_wp2_with fail
      go_ret
      exact ⟨rfl, D2.out⟩
end Go.Proofs.Ytgnnikjpnmalmaa
