/-
  Layer 9: any sector, and what any octets have, are octet by octet as the page says. The walk.
-/
import Derived.Test.YtgnnikjpnmalmaaFrameAlive
import Derived.Test.YtgnnikjpnmalmaaFrameRefRead
import Derived.Test.YtgnnikjpnmalmaaFrameRefSectorOk
namespace Go.Proofs.Ytgnnikjpnmalmaa
open Go.RowKit
set_option linter.unusedVariables false
set_option linter.unusedSimpArgs false

theorem OctV.conv {w : World} {v : Value} {l : List UInt8} (h : OctV w v l) : (convert 22 9 v).run Try.prog w = .ok (.string (textOf l)) w := by
  obtain ⟨a, cap, rfl, O, _, _⟩ := h
  exact conv_octs O cap

set_option maxRecDepth 100000 in
set_option maxHeartbeats 8000000 in
theorem frameTells (kind : Int) (t : Stp) (l m : List UInt8) (a1 a2 : Option Addr) (c1 c2 : Nat) (h1 : l.length ≤ c1) (h2 : c1 ≤ maxLen) (h3 : m.length ≤ c2) (h4 : c2 ≤ maxLen) (w : World) (O1 : Octs w a1 l) (O2 : Octs w a2 m) :
    Calls Try.prog 9 #[.int .i64 kind, sval t, .slice a1 l.length c1, .slice a2 m.length c2] w fun e w' => e = .returned (.bool true) ∧ Below w.heap.size w w' := by
  obtain ⟨W0, hW0⟩ : ∃ W0, w.alloc (.cells (scells t) 75) = W0 := ⟨_, rfl⟩
  have hb0 : Below w.heap.size w W0 := by rw [← hW0]; exact (Below.refl _ _).alloc (Nat.le_refl _) _
  have BX : Blk W0 w.heap.size (scells t) := by rw [← hW0]; exact Blk.new w _ _
  have hl : l.length ≤ 9223372036854775807 := by unfold maxLen at h2; omega
  have KA := hid alive09
  have KS := fun w O => seal_any kind t l a1 c1 hl w O
  have KR := fun w O => sector_any kind t l a1 c1 hl w O
  unfold SealPost at KS KR
  generalize sealC kind t l.length = C at *
  generalize sealL kind t l = SL at *
  have KO := fun w O => fopen_any m a2 c2 h3 h4 w O
  have KD := fun w O => refRead_any m a2 c2 h3 h4 w O
  unfold OpenPost at KO
  unfold ReadPost at KD
  have KN := fun w O => sound_any m a2 c2 h3 h4 w O
  have KM := fun w O => refSound_any m a2 c2 h3 h4 w O
  have hE : openE m = if goodB m then 0 else 16 := rfl
  generalize openK m = K at *
  generalize openS m = S at *
  generalize openT m = T at *
  generalize openE m = E at *
  generalize goodB m = G at *
  generalize soundB m = N at *
  replace KS := hid KS
  replace KR := hid KR
  replace KO := hid KO
  replace KD := hid KD
  replace KN := hid KN
  replace KM := hid KM
  have P1 := hid (O1.more hb0)
  have P2 := hid (O2.more hb0)
  have D0 := hid hb0
  have HBX := hid BX
  replace hE := hid hE
  clear O1 O2 hb0 BX h1 h2 h3 h4 hl
  go_enter Try.func9, Try.ntmps9
  obtain ⟨lx, kx, fx⟩ := HBX.out
  go_wp2_with fail
  refine (KA.out _).mono ?_
  rintro e w1 ⟨rfl, hb1⟩
  have Q1 := hid (P1.out.more hb1)
  have Q2 := hid (P2.out.more hb1)
  have D1 := hid (below2 D0.out hb1 D0.out.size)
  have HB1 := hid (HBX.out.more hb1)
  clear hb1 P1 P2 D0 HBX lx kx fx hW0
  obtain ⟨lx, kx, fx⟩ := HB1.out
  go_wp2_with fail
  refine (KS.out _ Q1.out).mono ?_
  rintro e w2 ⟨v1, rfl, xa, xc, rfl, OX, hb2⟩
  have X1 := Octs.of_own OX
  have R1 := hid (Q1.out.more hb2)
  have R2 := hid (Q2.out.more hb2)
  have D2 := hid (below2 D1.out hb2 D1.out.size)
  have HB2 := hid (HB1.out.more hb2)
  replace X1 := hid X1
  clear hb2 Q1 Q2 D1 HB1 lx kx fx OX
  obtain ⟨lx, kx, fx⟩ := HB2.out
  go_wp2_with fail
  refine (KR.out _ R1.out).mono ?_
  rintro e w3 ⟨v2, rfl, ya, yc, rfl, OY, hb3⟩
  have Y1 := Octs.of_own OY
  have X2 := hid (X1.out.more hb3)
  have S2 := hid (R2.out.more hb3)
  have D3 := hid (below2 D2.out hb3 D2.out.size)
  replace Y1 := hid Y1
  clear hb3 R1 R2 D2 HB2 lx kx fx OY X1
  go_wp2_with fail
  refine (KO.out _ S2.out).mono ?_
  rintro e w4 ⟨v3, rfl, V3, hb4⟩
  have hbA : Below w4.heap.size w4 (w4.alloc (.cells #[.int .i64 S.e, .int .i64 S.s, .int .i64 S.a] 75)) := (Below.refl _ _).alloc (Nat.le_refl _) _
  have BA := Blk.new w4 #[.int .i64 S.e, .int .i64 S.s, .int .i64 S.a] 75
  have hb4' := below2 hb4 hbA hb4.size
  have X4 := hid (X2.out.more hb4')
  have Y4 := hid (Y1.out.more hb4')
  have S4 := hid (S2.out.more hb4')
  have V4 := hid (V3.more hbA)
  have D4 := hid (below2 D3.out hb4' D3.out.size)
  replace BA := hid BA
  clear V3 hb4 hbA hb4' X2 Y1 S2 D3
  go_wp2_with fail
  refine (KD.out _ S4.out).mono ?_
  rintro e w5 ⟨v4, rfl, V5, hb5⟩
  have hbB : Below w5.heap.size w5 (w5.alloc (.cells #[.int .i64 S.e, .int .i64 S.s, .int .i64 S.a] 75)) := (Below.refl _ _).alloc (Nat.le_refl _) _
  have BB := Blk.new w5 #[.int .i64 S.e, .int .i64 S.s, .int .i64 S.a] 75
  have hb5' := below2 hb5 hbB hb5.size
  have X5 := (X4.out.more hb5')
  have Y5 := (Y4.out.more hb5')
  have S5 := hid (S4.out.more hb5')
  have V6 := V4.out.more hb5'
  have V7 := V5.more hbB
  have D5 := hid (below2 D4.out hb5' D4.out.size)
  have BA5 := BA.out.more hb5'
  have k1 := conv_octs X5 xc
  have k2 := conv_octs Y5 yc
  have k3 := V6.conv
  have k4 := V7.conv
  obtain ⟨la, ka, fa⟩ := BA5
  obtain ⟨lb, kb, fb⟩ := BB
  clear V5 V6 V7 hb5 hbB hb5' X4 Y4 S4 D4 BA X5 Y5 V4
  have hse : stEq S.e S.s S.a S.e S.s S.a = true := by simp [stEq]
  cases hG : G with
  | false =>
    subst hG
    rw [hE.out, if_neg (by simp)]
    go_wp2_with fail
    refine (KN.out _ S5.out).mono ?_
    rintro e w7 ⟨rfl, hb7⟩
    have S7 := hid (S5.out.more hb7)
    have D7 := hid (below2 D5.out hb7 D5.out.size)
    clear hb7
    go_wp2_with fail
    refine (KM.out _ S7.out).mono ?_
    rintro e w8 ⟨rfl, hb8⟩
    have D8 := hid (below2 D7.out hb8 D7.out.size)
    clear hb8
    have hnn : (N == N) = true := by simp
    go_wp2_with fail
    go_ret
    exact ⟨by simp, D8.out⟩
  | true =>
    subst hG
    rw [hE.out, if_pos rfl]
    go_wp2_with fail
    refine (KN.out _ S5.out).mono ?_
    rintro e w7 ⟨rfl, hb7⟩
    have S7 := hid (S5.out.more hb7)
    have D7 := hid (below2 D5.out hb7 D5.out.size)
    clear hb7
    go_wp2_with fail
    refine (KM.out _ S7.out).mono ?_
    rintro e w8 ⟨rfl, hb8⟩
    have D8 := hid (below2 D7.out hb8 D7.out.size)
    clear hb8
    have hnn : (N == N) = true := by simp
    go_wp2_with fail
    go_ret
    exact ⟨by simp, D8.out⟩
end Go.Proofs.Ytgnnikjpnmalmaa
