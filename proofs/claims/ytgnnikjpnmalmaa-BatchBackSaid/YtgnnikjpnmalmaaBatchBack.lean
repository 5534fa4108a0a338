/-
  Layer 10: summaries come back from their octets, and octets from their summaries; what is cut is none. The walk.
-/
import Derived.Test.YtgnnikjpnmalmaaBatchMath
namespace Go.Proofs.Ytgnnikjpnmalmaa
open Go.RowKit
set_option linter.unusedVariables false
set_option linter.unusedSimpArgs false

theorem bread_good (nx : Int) (la : Bool) (n : Nat) (f : Nat → En) (h : bCk nx n f = 0) (a : Option Addr) (cap : Nat) (w : World) (O : Octs w a (smB nx la n f)) :
    Calls Try.prog 62 #[.slice a (3 + 2 * n) cap] w fun e w' => ∃ q c, e = .returned (.tuple #[smval nx la q n c, .int .i64 0]) ∧ n ≤ c ∧ c ≤ maxLen ∧ RowP w' q 2 n (fun i => ecells (f i)) ∧ Below w.heap.size w w' := by
  obtain ⟨h0, h1, h2, h3, h4⟩ := sm_back nx la n f h
  have hn := (bCk_zero h).2.2.1
  have K := bread_any (smB nx la n f) a cap (by rw [smB_length]; omega) w O
  rw [smB_length] at K
  refine K.mono ?_
  rintro e w' (⟨_, q, c, rfl, c1, c2, R, hb⟩ | ⟨hg, _⟩)
  · rw [h0, h1, h3] at *
    exact ⟨q, c, rfl, c1, c2, R.congr fun i hi => by rw [h4 i hi], hb⟩
  · rw [sm_readG nx la n f h] at hg
    cases hg
theorem bread_cut (nx : Int) (la : Bool) (n : Nat) (f : Nat → En) (h : bCk nx n f = 0) (k : Nat) (hk : k < 3 + 2 * n) (a : Option Addr) (cap : Nat) (w : World) (O : Octs w a (smB nx la n f)) :
    Calls Try.prog 62 #[.slice a k cap] w fun e w' => e = .returned (.tuple #[smval 0 false none 0 0, .int .i64 16]) ∧ Below w.heap.size w w' := by
  have hn := (bCk_zero h).2.2.1
  have hl : ((smB nx la n f).take k).length = k := by rw [List.length_take, smB_length]; omega
  have K := bread_any ((smB nx la n f).take k) a cap (by rw [hl]; omega) w (O.take k)
  rw [hl] at K
  refine K.mono ?_
  rintro e w' (⟨hg, _⟩ | ⟨_, rfl, hb⟩)
  · rw [cut_readG nx la n f h k hk] at hg
    cases hg
  · exact ⟨rfl, hb⟩

theorem fresh_cap10 {w w' : World} {v : Value} {l : List UInt8} (h : Fresh w w' v l) (hl : l ≠ []) : ∃ a cap, v = .slice a l.length cap ∧ Octs w' a l ∧ l.length ≤ cap ∧ cap ≤ maxLen ∧ Below w.heap.size w w' := by
  obtain ⟨a, cap, rfl, O, hb⟩ := h
  rcases O.2 with ⟨_, h0⟩ | ⟨g', cap', cur, hv, _, _, q1, q2, _⟩
  · exact absurd (List.eq_nil_of_length_eq_zero h0) hl
  · cases hv; exact ⟨_, _, rfl, Octs.of_own O, q1, q2, hb⟩

set_option maxRecDepth 100000 in
set_option maxHeartbeats 16000000 in
theorem batchBack (nx : Int) (la : Bool) (p : Option Addr) (n cap : Nat) (f : Nat → En) (l : List UInt8) (a1 : Option Addr) (c1 : Nat) (cut : Int) (hcut1 : -9223372036854775808 ≤ cut) (hcut2 : cut ≤ 9223372036854775807) (h1 : n ≤ cap) (h2 : cap ≤ maxLen) (h3 : l.length ≤ c1) (h4 : c1 ≤ maxLen) (hl : l.length ≤ 140737488355328) (w : World) (HR : RowP w p 2 n (fun i => ecells (f i))) (O : Octs w a1 l) :
    Calls Try.prog 13 #[smval nx la p n cap, .slice a1 l.length c1, .int .i64 cut] w fun e w' => e = .returned (.bool true) ∧ Below w.heap.size w w' := by
  obtain ⟨W0, hW0⟩ : ∃ W0, w.alloc (.cells (smcells nx la p n cap) 90) = W0 := ⟨_, rfl⟩
  have hb0 : Below w.heap.size w W0 := by rw [← hW0]; exact (Below.refl _ _).alloc (Nat.le_refl _) _
  have BX : Blk W0 w.heap.size (smcells nx la p n cap) := by rw [← hW0]; exact Blk.new w _ _
  have KA := hid alive10
  have KP := hid (fun wx (hb : Below w.heap.size w wx) => bput_any nx la p n cap f h1 h2 wx (HR.more hb))
  have KB := hid (fun wx (hb : Below w.heap.size w wx) => bread_any l a1 c1 hl wx (O.more hb))
  have KS := hid (fun q c q1 q2 wx (hb : Below w.heap.size w wx) HQ => bsame_law nx nx la la p q n n cap c f f h1 h2 q1 q2 wx (HR.more hb) HQ)
  have KZ := hid (fun wx => bsame_law 0 0 false false none none 0 0 0 0 f f (Nat.le_refl _) (Nat.zero_le _) (Nat.le_refl _) (Nat.zero_le _) wx (.inl rfl) (.inl rfl))
  have HO := hid O
  have D0 := hid hb0
  have HBX := hid BX
  have hC : bCk nx n f = 0 ∨ bCk nx n f ≠ 0 := by omega
  have hg := bread_good nx la n f
  have hc := bread_cut nx la n f
  have hL : smL nx la n f = if bCk nx n f = 0 then smB nx la n f else [] := rfl
  have hlen := smB_length nx la n f
  have hn64 : bCk nx n f = 0 → n ≤ 64 := fun h => (bCk_zero h).2.2.1
  rw [bSame_back nx la n f f (fun _ _ => rfl)] at KS
  rw [bSame_zero] at KZ
  generalize smL nx la n f = SL at *
  generalize smB nx la n f = SB at *
  generalize bCk nx n f = C at *
  have hg' := hid hg
  have hc' := hid hc
  have hCC := hid hC
  have hLL := hid hL
  have hlen' := hid hlen
  have hn6 := hid hn64
  unfold maxLen at h2 h4
  clear HR O hb0 BX hg hc hC hL hlen hn64
  obtain ⟨lx, kx, fx⟩ := HBX.out
  go_enter Try.func13, Try.ntmps13
  go_wp2_with fail
  refine (KA.out _).mono ?_
  rintro e w1 ⟨rfl, hb1⟩
  have HX1 := hid (HBX.out.more hb1)
  have D1 := hid (below2 D0.out hb1 D0.out.size)
  clear hb1 lx kx fx HBX D0 hW0 KA
  obtain ⟨lx, kx, fx⟩ := HX1.out
  go_wp2_with fail
  refine (KP.out _ D1.out).mono ?_
  rintro e w2 ⟨v, rfl, F2⟩
  have F2 := hid F2
  go_upto_if 25 with (fail)
  go_cut [2, 7] (fun s2 s7 wx => Below w.heap.size w wx)
  case first =>
    rcases hCC.out with h0 | h0
    · subst h0
      have hlen := hlen'.out
      have hn := hn6.out rfl
      obtain rfl : SL = SB := hLL.out
      obtain ⟨xa, xc, rfl, OX, q1, q2, hb2⟩ := fresh_cap10 F2.out (by intro h; rw [h] at hlen; simp at hlen; omega)
      rw [hlen] at q1 ⊢
      have KG := hg'.out rfl xa xc
      have KC := hc'.out rfl
      clear hg' hc' hlen'
      obtain ⟨m, hm⟩ : ∃ m, 3 + 2 * n = m := ⟨_, rfl⟩
      have hm1 : m ≤ 131 := by omega
      have hm0 : 0 < m := by omega
      rw [hm] at KG KC q1 ⊢
      obtain ⟨k, hk, ek1, ek2, ek3, ek4⟩ := place_of cut m hm0 (by omega)
      have ek5 : wrap64 (cut.tmod m + m) = cut.tmod m + m := by rw [← IntWalk.i64_left]; exact ek1
      replace KG := hid KG
      replace KC := hid (KC k hk xa xc)
      clear hlen
      replace hm := hid hm
      have X2 := hid OX
      have D2 := hid (below2 D1.out hb2 D1.out.size)
      have HX2 := hid (HX1.out.more hb2)
      clear hb2 OX lx kx fx HX1 D1 KP F2
      obtain ⟨lx, kx, fx⟩ := HX2.out
      go_wp2_with fail
      refine (KG.out _ X2.out).mono ?_
      rintro e w3 ⟨q, c, rfl, q3, q4, R3, hb3⟩
      have hbA : Below w3.heap.size w3 (w3.alloc (.cells (smcells nx la q n c) 90)) := (Below.refl _ _).alloc (Nat.le_refl _) _
      have BT := Blk.new w3 (smcells nx la q n c) 90
      have hb3' := below2 hb3 hbA hb3.size
      have X3 := hid (X2.out.more hb3')
      have D3 := hid (below2 D2.out hb3' D2.out.size)
      have HX3 := hid (HX2.out.more hb3')
      have R3' := hid (R3.more hbA)
      have HT3 := hid BT
      have hmz : ((m : Int) == 0) = false := by simp; omega
      have q1' : (m : Int) ≤ (xc : Int) := by omega
      have kI : (k : Int) ≤ (xc : Int) := by omega
      clear hb3 hbA hb3' X2 D2 HX2 R3 BT lx kx fx KG
      go_wp2_with fail
      refine (KC.out _ X3.out).mono ?_
      rintro e w4 ⟨rfl, hb4⟩
      have hbZ : Below w4.heap.size w4 (w4.alloc (.cells (smcells 0 false none 0 0) 90)) := (Below.refl _ _).alloc (Nat.le_refl _) _
      have hb4' := below2 hb4 hbZ hb4.size
      have D4 := hid (below2 D3.out hb4' D3.out.size)
      have HX4 := hid (HX3.out.more hb4')
      have HT4 := hid (HT3.out.more hb4')
      have R4 := hid (R3'.out.more hb4')
      have KS4 := KS.out q c q3 q4 _ D4.out R4.out
      replace KS4 := hid KS4
      clear hb4 hbZ hb4' X3 D3 HX3 HT3 R3' KC
      obtain ⟨lx, kx, fx⟩ := HX4.out
      obtain ⟨lt, kt, ft⟩ := HT4.out
      go_wp2_with fail
      refine KS4.out.mono ?_
      rintro e w5 ⟨rfl, hb5⟩
      have D5 := hid (below2 D4.out hb5 D4.out.size)
      clear hb5 KS4
      go_wp2_with fail
      go_meet
      case rel => exact D5.out
    · have h0' : (C == 0) = false := by simpa using h0
      obtain ⟨xa, xc, rfl, _, hb2⟩ := F2.out
      have D2 := hid (below2 D1.out hb2 D1.out.size)
      clear hb2 F2 h0
      go_wp2_with fail
      go_meet
      case rel => exact D2.out
  case rest =>
    replace hcut := hid hcut
    clear KP KS hg' hc' hCC hLL hlen' hn6 F2 HX1 lx kx fx D1
    go_wp2_with fail
    refine (KB.out _ hcut.out).mono ?_
    rintro e w3 (⟨hG, q, c, rfl, q1, q2, R3, hb3⟩ | ⟨hG, rfl, hb3⟩)
    · have D3 := hid (below2 hcut.out hb3 hcut.out.size)
      obtain ⟨k1, k2, k3⟩ := read_back l hG
      have hbA : Below w3.heap.size w3 (w3.alloc (.cells (smcells (byteAt l 0) ((byteAt l 1 : Int) == 1) q (byteAt l 2) c) 90)) := (Below.refl _ _).alloc (Nat.le_refl _) _
      have BT := hid (Blk.new w3 (smcells (byteAt l 0) ((byteAt l 1 : Int) == 1) q (byteAt l 2) c) 90)
      have D4 := hid (below2 D3.out hbA D3.out.size)
      have KP2 := bput_any (byteAt l 0) ((byteAt l 1 : Int) == 1) q (byteAt l 2) c (rdE l) q1 q2 _ (R3.more hbA)
      rw [k1, show smL (byteAt l 0) ((byteAt l 1 : Int) == 1) (byteAt l 2) (rdE l) = l by unfold smL; rw [if_pos k1, k3]] at KP2
      have HO4 := hid (HO.out.more D4.out)
      clear hb3 hbA D3 KB k1 k2 k3 hG R3 hcut KZ HO
      generalize (byteAt l 0 : Int) = v0 at *
      generalize ((byteAt l 1 : Int) == 1) = v1 at *
      generalize byteAt l 2 = v2 at *
      replace KP2 := hid KP2
      obtain ⟨lt, kt, ft⟩ := BT.out
      go_wp2_with fail
      refine KP2.out.mono ?_
      rintro e w5 ⟨v, rfl, ya, yc, rfl, OY, hb5⟩
      have k1 := conv_octs (Octs.of_own OY) yc
      have k2 := conv_octs (HO4.out.more hb5) c1
      have D5 := hid (below2 D4.out hb5 D4.out.size)
      clear hb5 OY D4 KP2
      go_wp2_with fail
      go_ret
      exact ⟨by simp, D5.out⟩
    · have D3 := hid (below2 hcut.out hb3 hcut.out.size)
      have hbA : Below w3.heap.size w3 (w3.alloc (.cells (smcells 0 false none 0 0) 90)) := (Below.refl _ _).alloc (Nat.le_refl _) _
      have BT := hid (Blk.new w3 (smcells 0 false none 0 0) 90)
      have D4 := hid (below2 D3.out hbA D3.out.size)
      clear hb3 hbA D3 KB
      obtain ⟨lt, kt, ft⟩ := BT.out
      go_wp2_with fail
      refine (KZ.out _).mono ?_
      rintro e w5 ⟨rfl, hb5⟩
      have D5 := hid (below2 D4.out hb5 D4.out.size)
      clear hb5
      go_wp2_with fail
      go_ret
      exact ⟨rfl, D5.out⟩
end Go.Proofs.Ytgnnikjpnmalmaa
