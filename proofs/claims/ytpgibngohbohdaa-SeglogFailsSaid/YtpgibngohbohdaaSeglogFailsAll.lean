/-
  SeglogFails answers true for any slices of octets, any number and any octet, and changes nothing that was there: sectors are written up to the disk's first error, and what the disk tells is told. For every input, without a condition.
-/
import Derived.Test.YtpgibngohbohdaaFrameMath
import Derived.Test.YtpgibngohbohdaaRefPoint
import Derived.Test.YtpgibngohbohdaaFrameOpen
import Derived.WalkSpells
import Derived.Test.YtpgibngohbohdaaDiskWrite
import Derived.Test.YtpgibngohbohdaaDiskNew
import Derived.Test.YtpgibngohbohdaaDiskRead
import Derived.Test.YtpgibngohbohdaaOcRow
import Derived.Test.YtpgibngohbohdaaOctArg
import Derived.Deep.Slices
import Derived.Deep.DeepCutAuto
import Derived.Outline
import Derived.Test.YtpgibngohbohdaaLift
import Derived.Test.YtpgibngohbohdaaOpen

/-
  Package frame: Seal.
-/


namespace Go.Proofs.Ytpgibngohbohdaa
open Go.RowKit
set_option linter.unusedVariables false
set_option linter.unusedSimpArgs false

def fitB (n most : Int) : Bool := decide (0 ≤ n) && decide (n ≤ most)
theorem fits_any (n most : Int) (w : World) : Calls Try.prog 80 #[.int .i64 n, .int .i64 most] w fun e w' => e = .returned (.bool (fitB n most)) ∧ w' = w := by
  unfold fitB
  by_cases h1 : 0 ≤ n
  · by_cases h2 : n ≤ most
    · go_enter Try.func80, Try.ntmps80
      go_wp2
      go_ret
      exact ⟨by simp [h1, h2], rfl⟩
    · have g2 := decide_eq_false h2
      go_enter Try.func80, Try.ntmps80
      go_wp2
      go_ret
      exact ⟨by simp [h1, h2], rfl⟩
  · have g1 := decide_eq_false h1
    go_enter Try.func80, Try.ntmps80
    go_wp2
    go_ret
    exact ⟨by simp [h1], rfl⟩
theorem fitB_true {n most : Int} : fitB n most = true ↔ 0 ≤ n ∧ n ≤ most := by simp [fitB]

/-- Why a sector can't be, by what is asked first. -/
theorem seal_ways (kind : Int) (t : Stp) (n : Nat) : (fitB kind 255 = false ∧ sealC kind t n = 4 ∧ ¬ stFits kind t) ∨ (fitB kind 255 = true ∧ fitB t.e 4294967295 = false ∧ sealC kind t n = 4 ∧ ¬ stFits kind t) ∨
    (fitB kind 255 = true ∧ fitB t.e 4294967295 = true ∧ fitB t.s 4294967295 = false ∧ sealC kind t n = 4 ∧ ¬ stFits kind t) ∨
    (fitB kind 255 = true ∧ fitB t.e 4294967295 = true ∧ fitB t.s 4294967295 = true ∧ fitB t.a 65535 = false ∧ sealC kind t n = 4 ∧ ¬ stFits kind t) ∨
    (fitB kind 255 = true ∧ fitB t.e 4294967295 = true ∧ fitB t.s 4294967295 = true ∧ fitB t.a 65535 = true ∧ stFits kind t) := by
  have bad : ∀ h : ¬ stFits kind t, sealC kind t n = 4 := fun h => by unfold sealC; rw [if_neg h]
  cases h1 : fitB kind 255 with
  | false =>
    have hn : ¬ stFits kind t := fun h => by have := fitB_true.2 ⟨h.1, h.2.1⟩; rw [h1] at this; cases this
    exact .inl ⟨rfl, bad hn, hn⟩
  | true =>
    cases h2 : fitB t.e 4294967295 with
    | false =>
      have hn : ¬ stFits kind t := fun h => by have := fitB_true.2 ⟨h.2.2.1, h.2.2.2.1⟩; rw [h2] at this; cases this
      exact .inr (.inl ⟨rfl, rfl, bad hn, hn⟩)
    | true =>
      cases h3 : fitB t.s 4294967295 with
      | false =>
        have hn : ¬ stFits kind t := fun h => by have := fitB_true.2 ⟨h.2.2.2.2.1, h.2.2.2.2.2.1⟩; rw [h3] at this; cases this
        exact .inr (.inr (.inl ⟨rfl, rfl, rfl, bad hn, hn⟩))
      | true =>
        cases h4 : fitB t.a 65535 with
        | false =>
          have hn : ¬ stFits kind t := fun h => by have := fitB_true.2 ⟨h.2.2.2.2.2.2.1, h.2.2.2.2.2.2.2⟩; rw [h4] at this; cases this
          exact .inr (.inr (.inr (.inl ⟨rfl, rfl, rfl, rfl, bad hn, hn⟩)))
        | true =>
          have a1 := fitB_true.1 h1
          have a2 := fitB_true.1 h2
          have a3 := fitB_true.1 h3
          have a4 := fitB_true.1 h4
          exact .inr (.inr (.inr (.inr ⟨rfl, rfl, rfl, rfl, a1.1, a1.2, a2.1, a2.2, a3.1, a3.2, a4.1, a4.2⟩)))

/-- No octets: of nothing. -/
theorem Fresh.none {w w' : World} (hb : Below w.heap.size w w') : Fresh w w' (.slice Option.none 0 0) [] := ⟨Option.none, 0, rfl, World.ownsRow_nil _ _ _ _, hb⟩
def SealPost (kind : Int) (t : Stp) (l : List UInt8) (w : World) (e : Ending) (w' : World) : Prop := ∃ v, e = .returned (.tuple #[v, .int .i64 (sealC kind t l.length)]) ∧ Fresh w w' v (sealL kind t l)

set_option maxRecDepth 100000 in
set_option maxHeartbeats 8000000 in
theorem seal_bad (kind : Int) (t : Stp) (l : List UInt8) (a : Option Addr) (cap : Nat) (hl : l.length ≤ 9223372036854775807) (h : ¬ (stFits kind t ∧ l.length ≤ 238)) (w : World) :
    Calls Try.prog 46 #[.int .i64 kind, sval t, .slice a l.length cap] w (SealPost kind t l w) := by
  have E : Hid (∀ c, c = sealC kind t l.length → SealPost kind t l w (.returned (.tuple #[.slice none 0 0, .int .i64 c])) (w.alloc (.cells (scells t) 108))) := hid (fun c hc =>
    ⟨.slice none 0 0, by rw [hc], by unfold sealL; rw [if_neg h]; exact Fresh.none ((Below.refl _ _).alloc (Nat.le_refl _) _)⟩)
  have K1 := fun w => fits_any kind 255 w
  have K2 := fun w => fits_any t.e 4294967295 w
  have K3 := fun w => fits_any t.s 4294967295 w
  have K4 := fun w => fits_any t.a 65535 w
  rcases seal_ways kind t l.length with ⟨g1, hc, _⟩ | ⟨g1, g2, hc, _⟩ | ⟨g1, g2, g3, hc, _⟩ | ⟨g1, g2, g3, g4, hc, _⟩ | ⟨g1, g2, g3, g4, hf⟩
  · rw [g1] at K1
    rw [hc] at E
    replace K1 := hid K1
    clear K2 K3 K4 g1 hc h
    go_enter Try.func46, Try.ntmps46
    go_wp2_with fail
    refine (K1.out _).mono ?_
    rintro e w1 ⟨rfl, rfl⟩
    go_wp2_with fail
    go_ret2
    exact E.out 4 rfl
  · rw [g1] at K1
    rw [g2] at K2
    rw [hc] at E
    replace K1 := hid K1
    replace K2 := hid K2
    clear K3 K4 g1 g2 hc h
    go_enter Try.func46, Try.ntmps46
    go_wp2_with fail
    refine (K1.out _).mono ?_
    rintro e w1 ⟨rfl, rfl⟩
    go_wp2_with fail
    refine (K2.out _).mono ?_
    rintro e w1 ⟨rfl, rfl⟩
    go_wp2_with fail
    go_ret2
    exact E.out 4 rfl
  · rw [g1] at K1
    rw [g2] at K2
    rw [g3] at K3
    rw [hc] at E
    replace K1 := hid K1
    replace K2 := hid K2
    replace K3 := hid K3
    clear K4 g1 g2 g3 hc h
    go_enter Try.func46, Try.ntmps46
    go_wp2_with fail
    refine (K1.out _).mono ?_
    rintro e w1 ⟨rfl, rfl⟩
    go_wp2_with fail
    refine (K2.out _).mono ?_
    rintro e w1 ⟨rfl, rfl⟩
    go_wp2_with fail
    refine (K3.out _).mono ?_
    rintro e w1 ⟨rfl, rfl⟩
    go_wp2_with fail
    go_ret2
    exact E.out 4 rfl
  · rw [g1] at K1
    rw [g2] at K2
    rw [g3] at K3
    rw [g4] at K4
    rw [hc] at E
    replace K1 := hid K1
    replace K2 := hid K2
    replace K3 := hid K3
    replace K4 := hid K4
    clear g1 g2 g3 g4 hc h
    go_enter Try.func46, Try.ntmps46
    go_wp2_with fail
    refine (K1.out _).mono ?_
    rintro e w1 ⟨rfl, rfl⟩
    go_wp2_with fail
    refine (K2.out _).mono ?_
    rintro e w1 ⟨rfl, rfl⟩
    go_wp2_with fail
    refine (K3.out _).mono ?_
    rintro e w1 ⟨rfl, rfl⟩
    go_wp2_with fail
    refine (K4.out _).mono ?_
    rintro e w1 ⟨rfl, rfl⟩
    go_wp2_with fail
    go_ret2
    exact E.out 4 rfl
  · have hlong : 238 < (l.length : Int) := by
      have : ¬ l.length ≤ 238 := fun hh => h ⟨hf, hh⟩
      omega
    have hc : sealC kind t l.length = 5 := by unfold sealC; rw [if_pos hf, if_neg (by omega)]
    rw [g1] at K1
    rw [g2] at K2
    rw [g3] at K3
    rw [g4] at K4
    rw [hc] at E
    replace K1 := hid K1
    replace K2 := hid K2
    replace K3 := hid K3
    replace K4 := hid K4
    have hl' : (l.length : Int) ≤ 9223372036854775807 := by omega
    clear g1 g2 g3 g4 hc h hf hl
    go_enter Try.func46, Try.ntmps46
    go_wp2_with fail
    refine (K1.out _).mono ?_
    rintro e w1 ⟨rfl, rfl⟩
    go_wp2_with fail
    refine (K2.out _).mono ?_
    rintro e w1 ⟨rfl, rfl⟩
    go_wp2_with fail
    refine (K3.out _).mono ?_
    rintro e w1 ⟨rfl, rfl⟩
    go_wp2_with fail
    refine (K4.out _).mono ?_
    rintro e w1 ⟨rfl, rfl⟩
    go_wp2_with fail
    go_ret2
    exact E.out 5 rfl

set_option maxRecDepth 100000 in
set_option maxHeartbeats 8000000 in
theorem seal_ok (kind : Int) (t : Stp) (l : List UInt8) (a : Option Addr) (cap : Nat) (hf : stFits kind t) (hl : l.length ≤ 238) (w : World) (O : Octs w a l) :
    Calls Try.prog 46 #[.int .i64 kind, sval t, .slice a l.length cap] w (SealPost kind t l w) := by
  obtain ⟨W0, hW0⟩ : ∃ W0, w.alloc (.cells (scells t) 108) = W0 := ⟨_, rfl⟩
  have hb0 : Below w.heap.size w W0 := by rw [← hW0]; exact (Below.refl _ _).alloc (Nat.le_refl _) _
  have hsz0 : W0.heap.size = w.heap.size + 1 := by rw [← hW0]; simp
  have BX : Blk W0 w.heap.size (scells t) := by rw [← hW0]; exact Blk.new w _ _
  have O0 := hid (O.more hb0)
  have E : Hid (∀ v w1 w', Below w.heap.size w w1 → Fresh w1 w' v (sealB kind t l) → SealPost kind t l w (.returned (.tuple #[v, .int .i64 0])) w') := hid (fun v w1 w' hb F => by
    refine ⟨v, by unfold sealC; rw [if_pos hf, if_pos hl], ?_⟩
    unfold sealL
    rw [if_pos ⟨hf, hl⟩]
    obtain ⟨xa, xc, hv, OX, hb'⟩ := F
    exact ⟨xa, xc, hv, own_base OX hb.size, below2 hb hb' hb.size⟩)
  obtain ⟨k0, k1, e0, e1, s0, s1, a0, a1⟩ := hf
  have K1 := hid (fun w => fits_any kind 255 w)
  have K2 := hid (fun w => fits_any t.e 4294967295 w)
  have K3 := hid (fun w => fits_any t.s 4294967295 w)
  have K4 := hid (fun w => fits_any t.a 65535 w)
  rw [fitB_true.2 ⟨k0, k1⟩] at K1
  rw [fitB_true.2 ⟨e0, e1⟩] at K2
  rw [fitB_true.2 ⟨s0, s1⟩] at K3
  rw [fitB_true.2 ⟨a0, a1⟩] at K4
  have KN := hid (fun w => ws_new 256 256 rfl w)
  have hlI : (l.length : Int) ≤ 238 := by omega
  have cl := hid (crcN_lt (bodyB kind t l))
  have bl := hid (bodyB_length kind t l hl)
  have hsB := hid (show bodyB kind t l = [] ++ [67, 82] ++ leB kind.toNat 1 ++ leB t.e.toNat 4 ++ leB t.s.toNat 4 ++ leB t.a.toNat 2 ++ leB (l.length : Int).toNat 1 ++ l ++ List.replicate (238 - l.length) 0 by simp [bodyB, headB, List.append_assoc])
  have HBX := hid BX
  replace hb0 := hid hb0
  clear BX O
  go_enter Try.func46, Try.ntmps46
  go_wp2_with fail
  refine (K1.out _).mono ?_
  rintro e w1 ⟨rfl, hw1⟩
  rw [hw1]
  clear hw1 w1 hW0
  obtain ⟨lx, kx, fx⟩ := HBX.out
  go_wp2_with fail
  refine (K2.out _).mono ?_
  rintro e w1 ⟨rfl, hw1⟩
  rw [hw1]
  clear hw1 w1
  go_wp2_with fail
  refine (K3.out _).mono ?_
  rintro e w1 ⟨rfl, hw1⟩
  rw [hw1]
  clear hw1 w1
  go_wp2_with fail
  refine (K4.out _).mono ?_
  rintro e w1 ⟨rfl, hw1⟩
  rw [hw1]
  clear hw1 w1
  clear K1 K2 K3 K4
  go_wp2_with fail
  refine (KN.out _).mono ?_
  rintro e w1 ⟨rfl, S⟩
  obtain ⟨p, hp⟩ : ∃ p, W0.heap.size = p := ⟨_, rfl⟩
  rw [hp] at S
  simp only [hp]
  have hgp : w.heap.size < p := by omega
  have HB0 := hid (fun (wx : World) (m : List UInt8) (S : WS W0 p 256 wx m) => HBX.out.below S.below hgp)
  have HO := hid (fun (wx : World) (m : List UInt8) (S : WS W0 p 256 wx m) => O0.out.more (w' := wx) (by rw [hp]; exact S.below))
  have HW := hid (fun (wx : World) (m : List UInt8) (S : WS W0 p 256 wx m) => hb0.out.trans (S.below.mono (Nat.le_of_lt hgp)))
  clear KN hb0 O0 HBX lx kx fx hsz0
  generalize w.heap.size = g at *
  have B1 := HB0.out _ _ S
  obtain ⟨lx, kx, fx⟩ := B1
  have K := hid (ws_text S (by omega) (by omega) ⟨#[67, 82]⟩ (by decide))
  replace S := hid S
  go_wp2_with fail
  refine K.out.mono ?_
  rintro e w2 ⟨rfl, S2⟩
  clear lx kx fx K S
  have S := S2
  clear S2
  have B2 := HB0.out _ _ S
  obtain ⟨lx, kx, fx⟩ := B2
  have K := hid (ws_num S (by omega) (by omega) kind 1 1 rfl k0 (by omega) (by simp))
  replace S := hid S
  go_wp2_with fail
  refine K.out.mono ?_
  rintro e w3 ⟨rfl, S3⟩
  clear lx kx fx K S
  have S := S3
  clear S3
  have B3 := HB0.out _ _ S
  obtain ⟨lx, kx, fx⟩ := B3
  have K := hid (ws_num S (by omega) (by omega) t.e 4 4 rfl e0 (by omega) (by simp [leB_length]))
  replace S := hid S
  go_wp2_with fail
  refine K.out.mono ?_
  rintro e w4 ⟨rfl, S4⟩
  clear lx kx fx K S
  have S := S4
  clear S4
  have B4 := HB0.out _ _ S
  obtain ⟨lx, kx, fx⟩ := B4
  have K := hid (ws_num S (by omega) (by omega) t.s 4 4 rfl s0 (by omega) (by simp [leB_length]))
  replace S := hid S
  go_wp2_with fail
  refine K.out.mono ?_
  rintro e w5 ⟨rfl, S5⟩
  clear lx kx fx K S
  have S := S5
  clear S5
  have B5 := HB0.out _ _ S
  obtain ⟨lx, kx, fx⟩ := B5
  have K := hid (ws_num S (by omega) (by omega) t.a 2 2 rfl a0 (by omega) (by simp [leB_length]))
  replace S := hid S
  go_wp2_with fail
  refine K.out.mono ?_
  rintro e w6 ⟨rfl, S6⟩
  clear lx kx fx K S
  have S := S6
  clear S6
  have B6 := HB0.out _ _ S
  obtain ⟨lx, kx, fx⟩ := B6
  have K := hid (ws_num S (by omega) (by omega) l.length 1 1 rfl (by omega) (by omega) (by simp [leB_length]))
  replace S := hid S
  go_wp2_with fail
  refine K.out.mono ?_
  rintro e w7 ⟨rfl, S7⟩
  clear lx kx fx K S
  have S := S7
  clear S7
  have B7 := HB0.out _ _ S
  have kc := conv_octs (HO.out _ _ S) cap
  obtain ⟨lx, kx, fx⟩ := B7
  have K := hid (ws_text S (by omega) (by omega) (textOf l) (by rw [show (textOf l).size = l.length by simp [ByteArray.size]]; simp [leB_length]; omega))
  replace S := hid S
  go_wp2_with fail
  refine K.out.mono ?_
  rintro e w8 ⟨rfl, S8⟩
  clear lx kx fx K S
  have S := S8
  clear S8
  clear kc
  have B8 := HB0.out _ _ S
  obtain ⟨lx, kx, fx⟩ := B8
  have K := hid (ws_pad S (by omega) (by omega) 252 (by omega))
  replace S := hid S
  go_wp2_with fail
  refine K.out.mono ?_
  rintro e w9 ⟨rfl, S9⟩
  clear lx kx fx K S
  have S := S9
  clear S9
  replace S : WS W0 p 256 w9 (bodyB kind t l) := by
    refine cast (congrArg (WS W0 p 256 w9) ?_) S
    rw [hsB.out]
    congr 2
    simp [leB_length]
    omega
  clear hsB
  have KD := hid (ws_done S (by rw [bl.out]; omega))
  replace S := hid S
  clear HB0 HO
  go_wp2_with fail
  refine KD.out.mono ?_
  rintro e w10 ⟨v, rfl, ⟨xa, xc, rfl, OX, hb10⟩, S10⟩
  have hown := OX
  have O10 := Octs.of_own OX
  have hcap : (bodyB kind t l).length ≤ xc ∧ xc ≤ maxLen := by
    rcases OX.2 with ⟨_, h0⟩ | ⟨g', cap', cur, hv, _, _, q1, q2, _⟩
    · rw [bl.out] at h0; cases h0
    · cases hv; exact ⟨q1, q2⟩
  have hbA : Below w10.heap.size w10 (w10.alloc (.cells #[.slice xa (bodyB kind t l).length xc] 35)) := (Below.refl _ _).alloc (Nat.le_refl _) _
  have KC := hid (crc_one (bodyB kind t l) xa xc w10.heap.size hcap.1 hcap.2 _ (O10.more hbA) (by simp) (by simp))
  rw [bl.out] at KC
  have S11 := S10.more hbA
  rw [bl.out] at S11
  replace S11 := hid S11
  have hw0 := hid (S10.below)
  clear OX hb10 hown O10 S10 S KD hbA
  have cl0 : 0 ≤ (crcN (bodyB kind t l) : Int) ∧ (crcN (bodyB kind t l) : Int) ≤ 4294967295 := by have := cl.out; omega
  generalize hbd : bodyB kind t l = body at *
  have bl' := bl.out
  go_wp2_with fail
  refine KC.out.mono ?_
  rintro e w12 ⟨rfl, hb12⟩
  have S12 := S11.out.more hb12
  have KN := hid (ws_num S12 (by omega) (by omega) (crcN body) 4 4 rfl cl0.1 (by omega) (by rw [bl']; decide))
  replace S12 := hid S12
  clear hb12 KC
  go_wp2_with fail
  refine KN.out.mono ?_
  rintro e w13 ⟨rfl, S13⟩
  have KD := hid (ws_done S13 (by simp [leB_length, bl']))
  have hb13 := hid (HW.out _ _ S13)
  clear S12 S11 KN S13
  go_wp2_with fail
  refine KD.out.mono ?_
  rintro e w14 ⟨v, rfl, F, _⟩
  have E2 := hid (E.out v w13 w14 hb13.out (by show Fresh w13 w14 v (sealB kind t l); unfold sealB; rw [hbd]; exact F))
  clear F
  go_wp2_with fail
  go_ret2
  exact E2.out
theorem seal_any (kind : Int) (t : Stp) (l : List UInt8) (a : Option Addr) (cap : Nat) (hl : l.length ≤ 9223372036854775807) (w : World) (O : Octs w a l) :
    Calls Try.prog 46 #[.int .i64 kind, sval t, .slice a l.length cap] w (SealPost kind t l w) := by
  by_cases h : stFits kind t ∧ l.length ≤ 238
  · exact seal_ok kind t l a cap h.1 h.2 w O
  · exact seal_bad kind t l a cap hl h w
end Go.Proofs.Ytpgibngohbohdaa

/-
  Package frame: Is; the example of layer 9.
-/



namespace Go.Proofs.Ytpgibngohbohdaa
open Go.RowKit
set_option linter.unusedVariables false
set_option linter.unusedSimpArgs false

def stEq (a b c a' b' c' : Int) : Bool := decide (a = a') && decide (b = b') && decide (c = c')
@[go_sem high] theorem eql_st (a b c a' b' c' : Int) (w : World) : (binOp .eql 108 (.agg #[.int .i64 a, .int .i64 b, .int .i64 c]) (.agg #[.int .i64 a', .int .i64 b', .int .i64 c'])).run Try.prog w = .ok (.bool (stEq a b c a' b' c')) w := by
  rw [run_eql_struct]
  by_cases h1 : a = a' <;> by_cases h2 : b = b' <;> by_cases h3 : c = c' <;> simp [go_sem, stEq, h1, h2, h3]
def isB (l : List UInt8) (kind : Int) (t : Stp) : Bool := goodB l && (openK l == kind && stEq (openS l).e (openS l).s (openS l).a t.e t.s t.a)
theorem stEq_iff (s t : Stp) : stEq s.e s.s s.a t.e t.s t.a = true ↔ s = t := by
  cases s; cases t
  simp [stEq, and_assoc]

set_option maxRecDepth 100000 in
set_option maxHeartbeats 4000000 in
theorem is_any (l : List UInt8) (a : Option Addr) (cap : Nat) (h1 : l.length ≤ cap) (h2 : cap ≤ maxLen) (kind : Int) (t : Stp) (w : World) (O : Octs w a l) :
    Calls Try.prog 50 #[.slice a l.length cap, .int .i64 kind, sval t] w fun e w' => e = .returned (.bool (isB l kind t)) ∧ Below w.heap.size w w' := by
  obtain ⟨W0, hW0⟩ : ∃ W0, w.alloc (.cells (scells t) 108) = W0 := ⟨_, rfl⟩
  have hb0 : Below w.heap.size w W0 := by rw [← hW0]; exact (Below.refl _ _).alloc (Nat.le_refl _) _
  have BX : Blk W0 w.heap.size (scells t) := by rw [← hW0]; exact Blk.new w _ _
  have KO := fopen_any l a cap h1 h2 W0 (O.more hb0)
  unfold OpenPost at KO
  replace KO := hid KO
  have hE : Hid (isB l kind t = (goodB l && (openK l == kind && stEq (openS l).e (openS l).s (openS l).a t.e t.s t.a))) := hid rfl
  have hC : Hid (openE l = if goodB l then 0 else 16) := hid rfl
  have HBX := hid BX
  replace hb0 := hid hb0
  clear BX O h1 h2
  generalize isB l kind t = R at *
  generalize openK l = K at *
  generalize openS l = S at *
  obtain ⟨lx, kx, fx⟩ := HBX.out
  go_enter Try.func50, Try.ntmps50
  go_wp2_with fail
  refine KO.out.mono ?_
  rintro e w1 ⟨v, rfl, _, hb1⟩
  have HB1 := hid (HBX.out.more hb1)
  have D1 := hid (below2 hb0.out hb1 hb0.out.size)
  clear hb1 lx kx fx KO hW0 hb0 HBX
  have D2 := hid (D1.out.alloc D1.out.size (.cells (scells S) 108))
  have hlt : w.heap.size < w1.heap.size := HB1.out.lt
  obtain ⟨lx, kx, fx⟩ := HB1.out
  cases hg : goodB l with
  | false =>
    rw [hg] at hE hC
    rw [hC.out, if_neg (by simp)]
    clear hg
    go_wp2_with fail
    go_ret
    exact ⟨by rw [hE.out]; rfl, D2.out⟩
  | true =>
    rw [hg] at hE hC
    rw [hC.out, if_pos rfl]
    clear hg
    cases hk : (K == kind) with
    | false =>
      rw [hk] at hE
      go_wp2_with fail
      go_ret
      exact ⟨by rw [hE.out]; rfl, D2.out⟩
    | true =>
      rw [hk] at hE
      go_wp2_with fail
      go_ret
      exact ⟨by rw [hE.out]; rfl, D2.out⟩
end Go.Proofs.Ytpgibngohbohdaa

/-
  Package disk: goAtZero where nothing is told, Power.
-/

namespace Go.Proofs.Ytpgibngohbohdaa
open Go.RowKit Go.Maps
set_option linter.unusedVariables false
set_option linter.unusedSimpArgs false

set_option maxRecDepth 100000 in
theorem goz_off (m : DM) (b : Nat) (w : World) (B : Blk w b m.cells) (h : m.tl = false) : Calls Try.prog 69 #[.pointer (some ⟨b, 0, none⟩)] w fun e w' => e = .returned (.tuple #[]) ∧ w' = w := by
  simp only [DM.cells, DM.sv, DM.wv, DM.fv, h] at B
  obtain ⟨l0, k0, f0⟩ := B
  go_enter Try.func69, Try.ntmps69
  go_wp2_with fail
  refine bodyPost_end (results_none rfl _ _ _) rfl ?_
  exact ⟨rfl, rfl⟩

/-- The power is on again. -/
def DM.reset (m : DM) : DM := { m with off := false, tl := false, cl := 0, fp := none, fc := 0, Fs := [], tf := false, fl := 0 }
theorem base_reset {m : DM} {b g : Nat} (h : m.reset.base b g) : m.base b g := by
  rcases h with h | h | h | h | h | h
  · exact .inl h
  · exact .inr (.inl h)
  · exact .inr (.inr (.inl h))
  · exact .inr (.inr (.inr (.inl h)))
  · exact .inr (.inr (.inr (.inr (.inl h))))
  · cases h
theorem DiskM.reset {w w' : World} {b : Nat} {m : DM} {K : Nat → Prop} (h : DiskM w b m K) (hs : Sole (fun k => k = b) w w') (hB : Blk w' b m.reset.cells) : DiskM w' b m.reset K := by
  have hx : ∀ x : OcS, x.soft w ∧ x.full K m b → x.soft w' ∧ x.full K m.reset b := fun x ⟨ht, g, e, kg, hg, r⟩ => ⟨so_sole ht hs fun b' o e' => by rw [e] at e'; cases e'; exact fun h' => hg (.inl h'), g, e, kg, fun h' => hg (base_reset h'), r⟩
  exact
  { blk := hB
    apart := ⟨h.apart.bl, h.apart.bo, h.apart.lo, fun k e => ⟨(h.apart.s k e).1, (h.apart.s k e).2.1, (h.apart.s k e).2.2.1, (h.apart.s k e).2.2.2.1, nofun⟩, fun k e => ⟨(h.apart.w k e).1, (h.apart.w k e).2.1, (h.apart.w k e).2.2.1, nofun⟩, nofun⟩
    kk := fun k hk => h.kk k (base_reset hk)
    klt := fun k hk => Nat.lt_of_lt_of_le (h.klt k hk) hs.size
    S := h.S.sole hs fun k e h' => (h.apart.s k e).1 h'
    SO := fun x hx' => hx x (h.SO x hx')
    Q := h.Q.sole hs fun k e h' => (h.apart.w k e).1 h'
    QO := fun y hy => ⟨hx _ (h.QO y hy).1, (h.QO y hy).2⟩
    F := RowOwn.nil _ _
    L := map_sole h.L hs fun h' => h.apart.bl h'.symm
    O := map_sole h.O hs fun h' => h.apart.bo h'.symm
    last := h.last
    lenS := h.lenS
    cwf := rfl
    fwf := rfl
    uniq := ⟨h.uniq.s, h.uniq.q, h.uniq.sq⟩ }

set_option maxRecDepth 100000 in
set_option maxHeartbeats 2000000 in
theorem power_on {G : DM → (Nat → Prop) → World → Prop} (m : DM) (b : Nat) (K : Nat → Prop) (w : World) (D : DiskM w b m K) (hoff : m.off = false) (fp : Option Addr) (n fc : Nat)
    (KS : Calls Try.prog 63 #[.pointer (some ⟨b, 0, none⟩), .slice fp n fc] w fun e w2 => e = .returned (.tuple #[]) ∧ ∃ m2 K2, DiskM w2 b m2 K2 ∧ G m2 K2 w2) :
    Calls Try.prog 32 #[.pointer (some ⟨b, 0, none⟩), .slice fp n fc] w fun e w' => e = .returned (.tuple #[]) ∧ ∃ m2 K2 w2, DiskM w' b m2.reset K2 ∧ Sole (fun k => k = b) w2 w' ∧ DiskM w2 b m2 K2 ∧ G m2 K2 w2 := by
  have B0 := D.blk
  simp only [DM.cells, DM.sv, DM.wv, DM.fv, hoff] at B0
  replace KS := hid KS
  clear D
  obtain ⟨l0, k0, f0⟩ := B0
  go_enter Try.func32, Try.ntmps32
  go_wp2_with fail
  refine KS.out.mono ?_
  rintro e w2 ⟨rfl, m2, K2, D2, hG⟩
  have E := hid (And.intro D2 hG)
  have B2 := D2.blk
  have B7 := (((((B2.set 1 (.bool false) (by simp [DM.cells])).set 6 (.bool false) (by simp [DM.cells])).set 7 (.int .i64 0) (by simp [DM.cells])).set 8 (.slice none 0 0) (by simp [DM.cells])).set 9 (.bool false) (by simp [DM.cells])).set 10 (.int .i64 0) (by simp [DM.cells])
  have S7 := (((((Sole.setCell (S := fun k => k = b) w2 (b := b) (o := 1) (.bool false) rfl).trans (Sole.setCell _ (b := b) (o := 6) (.bool false) rfl)).trans (Sole.setCell _ (b := b) (o := 7) (.int .i64 0) rfl)).trans (Sole.setCell _ (b := b) (o := 8) (.slice none 0 0) rfl)).trans (Sole.setCell _ (b := b) (o := 9) (.bool false) rfl)).trans (Sole.setCell _ (b := b) (o := 10) (.int .i64 0) rfl)
  have E7 := hid (And.intro (D2.reset S7 B7) S7)
  clear D2 hG B7 S7 KS l0 k0 f0
  simp only [DM.cells, DM.sv, DM.wv, DM.fv] at B2
  obtain ⟨l2, k2, f2⟩ := B2
  go_wp2_with fail
  refine bodyPost_end (results_none rfl _ _ _) rfl ?_
  exact ⟨rfl, m2, K2, w2, E7.out.1, E7.out.2, E.out.1, E.out.2⟩
end Go.Proofs.Ytpgibngohbohdaa

/-
  Package disk: Write whatever comes, Fail.
-/

namespace Go.Proofs.Ytpgibngohbohdaa
open Go.RowKit Go.Maps
set_option linter.unusedVariables false
set_option linter.unusedSimpArgs false

theorem wr_bad (m : DM) (b : Nat) (z : Int) (K : Nat → Prop) (w : World) (D : DiskM w b m K) (h : m.trb = true) (a : Option Addr) (n cap : Nat) :
    Calls Try.prog 23 #[.pointer (some ⟨b, 0, none⟩), .int .i64 z, .slice a n cap] w fun e w' => e = .returned (.int .i64 20) ∧ DiskM w' b m.after K ∧ Sole K w w' := by
  have KT := hid (trouble_any m b w D.blk)
  have Dh := hid D
  have ht := h
  clear D h
  simp only [ht, if_true, ↓reduceIte] at KT
  go_enter Try.func23, Try.ntmps23
  go_wp2_with fail
  refine KT.out.mono ?_
  rintro e w1 ⟨rfl, hB, hS⟩
  have E := hid (show DiskM w1 b m.after K ∧ Sole K w w1 from ⟨Dh.out.after hB hS, hS.mono fun k _ e => e ▸ Dh.out.kk _ (.inl rfl)⟩)
  clear hB hS KT Dh
  go_wp2_with fail
  go_ret
  exact ⟨rfl, E.out⟩
theorem wr_far (m : DM) (b : Nat) (z : Int) (K : Nat → Prop) (w : World) (D : DiskM w b m K) (h : m.trb = false) (hr : ¬ (0 ≤ z ∧ z < (m.Ls.length : Int))) (a : Option Addr) (n cap : Nat) :
    Calls Try.prog 23 #[.pointer (some ⟨b, 0, none⟩), .int .i64 z, .slice a n cap] w fun e w' => e = .returned (.int .i64 4) ∧ DiskM w' b m.after K ∧ Sole K w w' := by
  have KT := hid (trouble_any m b w D.blk)
  have Dh := hid D
  have ht := h
  clear D h
  simp only [ht, Bool.false_eq_true, if_false, ↓reduceIte] at KT
  go_enter Try.func23, Try.ntmps23
  go_wp2_with fail
  refine KT.out.mono ?_
  rintro e w1 ⟨rfl, hB, hS⟩
  have KH := has_any m.after b z w1 hB
  rw [show decide (0 ≤ z ∧ z < (m.after.Ls.length : Int)) = false from decide_eq_false hr] at KH
  replace KH := hid KH
  have E := hid (show DiskM w1 b m.after K ∧ Sole K w w1 from ⟨Dh.out.after hB hS, hS.mono fun k _ e => e ▸ Dh.out.kk _ (.inl rfl)⟩)
  clear hB hS KT Dh hr
  go_wp2_with fail
  refine KH.out.mono ?_
  rintro e w2 ⟨rfl, hw⟩
  rw [hw]
  clear hw w2 KH
  go_wp2_with fail
  go_ret
  exact ⟨rfl, E.out⟩
theorem wr_long (m : DM) (b : Nat) (z : Int) (K : Nat → Prop) (w : World) (D : DiskM w b m K) (h : m.trb = false) (hr : 0 ≤ z ∧ z < (m.Ls.length : Int)) (a : Option Addr) (n cap : Nat) (hn : n ≠ 256) :
    Calls Try.prog 23 #[.pointer (some ⟨b, 0, none⟩), .int .i64 z, .slice a n cap] w fun e w' => e = .returned (.int .i64 5) ∧ DiskM w' b m.after K ∧ Sole K w w' := by
  have KT := hid (trouble_any m b w D.blk)
  have Dh := hid D
  have ht := h
  clear D h
  simp only [ht, Bool.false_eq_true, if_false, ↓reduceIte] at KT
  go_enter Try.func23, Try.ntmps23
  go_wp2_with fail
  refine KT.out.mono ?_
  rintro e w1 ⟨rfl, hB, hS⟩
  have KH := has_any m.after b z w1 hB
  rw [show decide (0 ≤ z ∧ z < (m.after.Ls.length : Int)) = true from decide_eq_true hr] at KH
  replace KH := hid KH
  have E := hid (show DiskM w1 b m.after K ∧ Sole K w w1 from ⟨Dh.out.after hB hS, hS.mono fun k _ e => e ▸ Dh.out.kk _ (.inl rfl)⟩)
  have hn' : ((n : Int) == 256) = false := by rw [beq_eq_false_iff_ne]; omega
  clear hB hS KT Dh hr hn
  go_wp2_with fail
  refine KH.out.mono ?_
  rintro e w2 ⟨rfl, hw⟩
  rw [hw]
  clear hw w2 KH
  go_wp2_with fail
  go_ret
  exact ⟨rfl, E.out⟩

/-- What a write answers where there is no trouble. -/
def wrC (N : Nat) (z : Int) (n : Nat) : Int := if 0 ≤ z ∧ z < (N : Int) then (if n = 256 then 0 else 5) else 4
/-- What of a disk no write changes, where no power goes. -/
structure Same (m m' : DM) : Prop where
  off : m'.off = m.off
  tl : m'.tl = m.tl
  tf : m'.tf = m.after.tf
  fl : m'.fl = m.after.fl
  L : m'.Ls = m.Ls
  O : m'.DO = m.DO
  o : m'.n' = m.n'
  q : m'.Qs.length ≤ m.Qs.length + 1
  n : m'.n ≤ m.n + 1
theorem wr_off (m : DM) (b : Nat) (z : Int) (K : Nat → Prop) (w : World) (D : DiskM w b m K) (htr : m.trb = false) (htl : m.tl = false) (hz : (Lit.int .i64 z).wf = true) (hn : m.n < 1000000) (hq : m.Qs.length ≤ 1000000)
    (x : OcS) (hx : x.there w) (hxK : ∀ b' o, x.a = some ⟨b', o, none⟩ → ¬ K b') :
    Calls Try.prog 23 #[.pointer (some ⟨b, 0, none⟩), .int .i64 z, .slice x.a x.l.length x.cap] w fun e w' => e = .returned (.int .i64 (wrC m.Ls.length z x.l.length)) ∧
      ∃ m' K', DiskM w' b m' K' ∧ Sole K w w' ∧ (∀ k, K' k → K k ∨ w.heap.size ≤ k) ∧ Same m m' := by
  unfold wrC
  by_cases hr : 0 ≤ z ∧ z < (m.Ls.length : Int)
  · rw [if_pos hr]
    by_cases hl : x.l.length = 256
    · rw [if_pos hl]
      have h := write_any (G := fun _ _ w1 w' => w' = w1) m b z K w D x hx hxK hl hz hr.1 hr.2 htr hn hq (fun y q c w1 K1 Dx => goz_off _ _ _ Dx.blk htl)
      rw [hl]
      refine h.mono ?_
      rintro e w' ⟨rfl, y, q, c, w1, K1, hy, D1, S1, hK, rfl⟩
      refine ⟨rfl, _, K1, D1, S1, hK, ⟨rfl, rfl, rfl, rfl, rfl, rfl, rfl, ?_, Nat.le_refl _⟩⟩
      show (m.Qs ++ [(⟨z, y⟩ : WtS)]).length ≤ _
      simp
    · rw [if_neg hl]
      refine (wr_long m b z K w D htr hr x.a x.l.length x.cap hl).mono ?_
      rintro e w' ⟨rfl, D1, S1⟩
      exact ⟨rfl, _, K, D1, S1, fun k h => .inl h, ⟨rfl, rfl, rfl, rfl, rfl, rfl, rfl, Nat.le_succ _, Nat.le_succ _⟩⟩
  · rw [if_neg hr]
    refine (wr_far m b z K w D htr hr x.a x.l.length x.cap).mono ?_
    rintro e w' ⟨rfl, D1, S1⟩
    exact ⟨rfl, _, K, D1, S1, fun k h => .inl h, ⟨rfl, rfl, rfl, rfl, rfl, rfl, rfl, Nat.le_succ _, Nat.le_succ _⟩⟩

/-- A call that fails is told. -/
theorem fail_any (m : DM) (b : Nat) (K : Nat → Prop) (w : World) (D : DiskM w b m K) (z : Int) (hz : (Lit.int .i64 z).wf = true) :
    Calls Try.prog 24 #[.pointer (some ⟨b, 0, none⟩), .int .i64 z] w fun e w' => e = .returned (.tuple #[]) ∧ DiskM w' b { m with tf := true, fl := z } K ∧ Sole (fun k => k = b) w w' := by
  have B0 := D.blk
  have B1 := (B0.set 9 (.bool true) (by simp [DM.cells])).set 10 (.int .i64 z) (by simp [DM.cells])
  have S1 := (Sole.setCell (S := fun k => k = b) w (b := b) (o := 9) (.bool true) rfl).trans (Sole.setCell _ (b := b) (o := 10) (.int .i64 z) rfl)
  have E := hid (And.intro (D.scal m.off m.tl true m.cl z D.cwf hz S1 B1) S1)
  clear B1 S1 D
  simp only [DM.cells, DM.sv, DM.wv, DM.fv] at B0
  obtain ⟨l0, k0, f0⟩ := B0
  go_enter Try.func24, Try.ntmps24
  go_wp2_with fail
  refine bodyPost_end (results_none rfl _ _ _) rfl ?_
  exact ⟨rfl, E.out⟩
end Go.Proofs.Ytpgibngohbohdaa

/-
  Package seglog: Write.
-/


namespace Go.Proofs.Ytpgibngohbohdaa
open Go.RowKit Go.Maps
set_option linter.unusedVariables false
set_option linter.unusedSimpArgs false

/-- What a write of the k-th sector answers, where the n-th call fails. -/
def segC (N : Nat) (n z : Int) (Xs : List OcS) (k : Nat) : Int := if (k : Int) = n then 20 else wrC N (z + (k : Int)) (ocA Xs k).l.length
/-- The first that is not 0, of f from the k-th on. -/
def segE (N : Nat) (n z : Int) (Xs : List OcS) : Nat → Nat → Int
  | 0, _ => 0
  | f + 1, k => if segC N n z Xs k = 0 then segE N n z Xs f (k + 1) else segC N n z Xs k
theorem segE_step (N : Nat) (n z : Int) (Xs : List OcS) (xn k : Nat) (h : k < xn) : segE N n z Xs (xn - k) k = if segC N n z Xs k = 0 then segE N n z Xs (xn - (k + 1)) (k + 1) else segC N n z Xs k := by
  rw [show xn - k = (xn - (k + 1)) + 1 by omega]
  rfl
theorem segE_end (N : Nat) (n z : Int) (Xs : List OcS) (xn : Nat) : segE N n z Xs (xn - xn) xn = 0 := by rw [Nat.sub_self]; rfl
/-- A disk that is on, of which no cut is told. -/
structure DTold (m : DM) (N : Nat) (tf : Bool) (fl : Int) (c : Nat) : Prop where
  off : m.off = false
  tl : m.tl = false
  htf : m.tf = tf
  hfl : tf = true → m.fl = fl
  L : m.Ls.length = N
  q : m.Qs.length ≤ c
  n : m.n ≤ c
theorem DTold.trb {m : DM} {N c : Nat} {tf : Bool} {fl : Int} (h : DTold m N tf fl c) : m.trb = (tf && decide (fl ≤ 0)) := by
  unfold DM.trb
  rw [h.off, h.htf]
  cases tf with
  | false => rfl
  | true => rw [h.hfl rfl]; rfl
theorem DTold.next {m m' : DM} {N c : Nat} {tf : Bool} {fl : Int} (h : DTold m N tf fl c) (hb : m.trb = false) (hf : tf = true → fl ≤ 9223372036854775807) (hs : Same m m') : DTold m' N tf (fl - 1) (c + 1) := by
  rw [h.trb] at hb
  refine ⟨hs.off.trans h.off, hs.tl.trans h.tl, hs.tf.trans ?_, fun e => hs.fl.trans ?_, by rw [hs.L, h.L], Nat.le_trans hs.q (Nat.succ_le_succ h.q), Nat.le_trans hs.n (Nat.succ_le_succ h.n)⟩
  · show (if m.off then m.tf else if m.tf && decide (m.fl ≤ 0) then false else m.tf) = tf
    rw [h.off, h.htf]
    cases tf with
    | false => rfl
    | true => rw [h.hfl rfl]; simp only [Bool.true_and] at hb; simp [hb]
  · subst e
    show (if m.off then m.fl else if m.tf && decide (m.fl ≤ 0) then 0 else wrap64 (m.fl - 1)) = fl - 1
    simp only [Bool.true_and, decide_eq_false_iff_not] at hb
    rw [h.off, h.htf, h.hfl rfl]
    simp only [Bool.true_and, Bool.false_eq_true, if_false, decide_eq_true_eq, hb]
    exact IntWalk.wrap64_in _ ⟨by omega, by have := hf rfl; omega⟩
/-- One sector is written, or it can't be. -/
theorem seg_step (m : DM) (b : Nat) (K : Nat → Prop) (w : World) (D : DiskM w b m K) (N : Nat) (n z : Int) (hn0 : 0 ≤ n) (hn1 : n ≤ 1000) (Xs : List OcS) (k : Nat) (hk : k ≤ 1000) (tf : Bool) (hkn : tf = true → (k : Int) ≤ n) (hnt : tf = false → (k : Int) ≠ n) (T : DTold m N tf (n - k) k)
    (hz : -1000 ≤ z ∧ z ≤ 1000) (x : OcS) (hxe : x = ocA Xs k) (hx : x.there w) (hxK : ∀ b' o, x.a = some ⟨b', o, none⟩ → x.l ≠ [] → ¬ K b') (z' : Int) (hz' : z' = z + k) :
    Calls Try.prog 23 #[.pointer (some ⟨b, 0, none⟩), .int .i64 z', .slice x.a x.l.length x.cap] w fun e w' => e = .returned (.int .i64 (segC N n z Xs k)) ∧ Sole K w w' ∧
      ∃ m' K', DiskM w' b m' K' ∧ (∀ j, K' j → K j ∨ w.heap.size ≤ j) ∧ (segC N n z Xs k = 0 → DTold m' N tf (n - (k + 1 : Nat)) (k + 1) ∧ (tf = true → ((k + 1 : Nat) : Int) ≤ n)) := by
  subst hz'
  unfold segC
  by_cases he : (k : Int) = n
  · have ht : tf = true := by cases tf with | true => rfl | false => exact absurd he (hnt rfl)
    subst ht
    have hb : m.trb = true := by rw [T.trb]; simp; omega
    rw [if_pos he]
    refine (wr_bad m b _ K w D hb x.a x.l.length x.cap).mono ?_
    rintro e w' ⟨rfl, D1, S1⟩
    exact ⟨rfl, S1, _, K, D1, fun j h => .inl h, fun h => by cases h⟩
  · have hb : m.trb = false := by
      rw [T.trb]
      cases tf with
      | false => rfl
      | true => have := hkn rfl; simp; omega
    rw [if_neg he]
    have hw : (Lit.int .i64 (z + (k : Int))).wf = true := by
      rw [show z + (k : Int) = wrap64 (z + (k : Int)) by unfold wrap64; omega]
      exact wrap64_wf _
    by_cases hx0 : x.l = []
    · have hlen : x.l.length = 0 := by rw [hx0]; rfl
      have hC : wrC N (z + (k : Int)) (ocA Xs k).l.length = if 0 ≤ z + (k : Int) ∧ z + (k : Int) < (N : Int) then 5 else 4 := by
        rw [← hxe, hlen]
        unfold wrC
        rw [if_neg (show ¬ ((0 : Nat) = 256) by omega)]
      rw [hC]
      by_cases hr : 0 ≤ z + (k : Int) ∧ z + (k : Int) < (m.Ls.length : Int)
      · rw [if_pos (by rw [← T.L]; exact hr)]
        refine (wr_long m b _ K w D hb hr x.a x.l.length x.cap (by omega)).mono ?_
        rintro e w' ⟨rfl, D1, S1⟩
        exact ⟨rfl, S1, _, K, D1, fun j h => .inl h, fun h => by cases h⟩
      · rw [if_neg (by rw [← T.L]; exact hr)]
        refine (wr_far m b _ K w D hb hr x.a x.l.length x.cap).mono ?_
        rintro e w' ⟨rfl, D1, S1⟩
        exact ⟨rfl, S1, _, K, D1, fun j h => .inl h, fun h => by cases h⟩
    · refine (wr_off m b _ K w D hb T.tl hw (by have := T.n; omega) (by have := T.q; omega) x hx (fun b' o e => hxK b' o e hx0)).mono ?_
      rintro e w' ⟨rfl, m', K', D1, S1, hK, hs⟩
      refine ⟨by rw [T.L, hxe], S1, m', K', D1, hK, fun _ => ⟨?_, fun e => ?_⟩⟩
      · have := T.next hb (fun _ => by omega) hs
        rw [show n - ((k + 1 : Nat) : Int) = n - (k : Int) - 1 by omega]
        exact this
      · have := hkn e; omega

theorem row_sole3 {S : Nat → Prop} {w w' : World} {b o sz n : Nat} {f : Nat → List Value} (h : Row w b o sz n f) (hs : Sole S w w') (hn : ¬ S b) : Row w' b o sz n f :=
  ⟨Nat.lt_of_lt_of_le h.lt hs.size, fun i hi j v hv => (hs.cell h.lt hn).trans (h.cell i hi j v hv)⟩
theorem oc_sole3 {S : Nat → Prop} {w w' : World} {x : OcS} (h : x.there w) (hs : Sole S w w') (hn : ∀ b o, x.a = some ⟨b, o, none⟩ → x.l ≠ [] → ¬ S b) : x.there w' := ⟨h.1.sole hs hn, h.2⟩
theorem meas_up (N k : Nat) (h : k < N) (z : Int) (hz : z = ((k + 1 : Nat) : Int)) : N - (intOf (.int .i64 z)).toNat < N - (intOf (.int .i64 (k : Int))).toNat := by
  subst hz
  show N - (((k + 1 : Nat) : Int)).toNat < N - ((k : Int)).toNat
  rw [Int.toNat_natCast, Int.toNat_natCast]
  omega
set_option maxRecDepth 100000 in
set_option maxHeartbeats 4000000 in
theorem swrite_any (m : DM) (b : Nat) (K : Nat → Prop) (w : World) (D : DiskM w b m K) (N : Nat) (n z : Int) (hn0 : 0 ≤ n) (hn1 : n ≤ 1000) (hz : -900 ≤ z ∧ z ≤ 900) (T : DTold m N true n 0) (xp : Option Addr) (xc : Nat) (Xs : List OcS) (hxl : Xs.length ≤ 90)
    (RX : RowOf ocT w xp Xs) (hxp : ∀ b' o, xp = some ⟨b', o, none⟩ → Xs.length ≠ 0 → ¬ K b') (hX : ∀ x ∈ Xs, x.there w ∧ ∀ b' o, x.a = some ⟨b', o, none⟩ → x.l ≠ [] → ¬ K b') :
    Calls Try.prog 17 #[.pointer (some ⟨b, 0, none⟩), .int .i64 z, .slice xp Xs.length xc] w fun e w' => e = .returned (.int .i64 (segE N n z Xs Xs.length 0)) ∧ Sole K w w' := by
  have Dh := hid D
  have Th := hid T
  have RXh := hid RX
  have hxph := hid hxp
  have hXh := hid hX
  have hz0 := hz.1
  have hz1 := hz.2
  have hN := hid (show Xs.length = Xs.length from rfl)
  generalize hxn : Xs.length = xn at *
  replace hxn := hid hxn
  clear D T RX hxp hX hz hN
  go_enter Try.func17, Try.ntmps17
  go_wp2_with fail
  go_loopw [12] (fun i wr => ∃ k : Nat, k ≤ xn ∧ i = .int .i64 (k : Int) ∧ Sole K w wr ∧ (k : Int) ≤ n ∧ segE N n z Xs xn 0 = segE N n z Xs (xn - k) k ∧ ∃ m9 K9, (∀ j, K9 j → K j ∨ w.heap.size ≤ j) ∧ DTold m9 N true (n - k) k ∧ DiskM wr b m9 K9) (fun i _ => xn - (intOf i).toNat)
  case atStart => exact ⟨0, by omega, rfl, Sole.refl _ _, by omega, rfl, m, K, fun j h => .inl h, by have := Th.out; simpa using this, Dh.out⟩
  case round =>
    obtain ⟨k, hk, rfl, hS, hkn, hE, m9, K9, hK9, T9, D9⟩ := hrel
    replace hE := hid hE
    replace hK9 := hid hK9
    by_cases hlt : k < xn
    · have hlt' : (k : Int) < (xn : Int) := by omega
      obtain ⟨b8, o8, hq8, r8⟩ := RowP.row RXh.out (by rw [hxn.out]; omega)
      have hwr : ∀ b', b' < w.heap.size → ¬ K b' → wr.heap[b']? = w.heap[b']? := fun b' h1 h2 => hS.block b' h1 h2
      have hb8 : ¬ K b8 := hxph.out b8 o8 hq8 (by omega)
      have c8 := (row_sole3 r8 hS hb8).at0 (i := k) (by rw [hxn.out]; omega) (v := .slice (ocA Xs k).a (ocA Xs k).l.length (ocA Xs k).cap) rfl
      rw [show k * ocT.sz = k from Nat.mul_one k] at c8
      have hxk := hXh.out _ (ocA_mem Xs k (by rw [hxn.out]; omega))
      have hxt := oc_sole3 hxk.1 hS (fun b' o e hne => hxk.2 b' o e hne)
      have hw : wrap64 (z + (k : Int)) = z + (k : Int) := IntWalk.wrap64_in _ ⟨by omega, by omega⟩
      have hw1 : wrap64 ((k : Int) + 1) = ((k + 1 : Nat) : Int) := by
        rw [IntWalk.wrap64_in _ ⟨by omega, by omega⟩]
        rfl
      have KW := seg_step m9 b K9 wr D9 N n z hn0 hn1 Xs k (by omega) true (fun _ => hkn) (fun h => by cases h) T9 ⟨by omega, by omega⟩ (ocA Xs k) rfl hxt (fun b' o e hne hk' => by
        rcases hK9.out b' hk' with r | r
        · exact hxk.2 b' o e hne r
        · rcases hxk.1.1 with h0 | ⟨b2, o2, e2, h2, _⟩
          · exact hne h0
          · rw [e] at e2; cases e2; omega) (z + (k : Int)) rfl
      have hst := hid (segE_step N n z Xs xn k hlt)
      have hmeas := hid (meas_up xn k hlt)
      have hSh := hid hS
      replace KW := hid KW
      rw [hq8]
      clear hS r8 hxk hxt D9 T9 hq8 hwr
      generalize ocA Xs k = x at *
      generalize segC N n z Xs k = c at *
      go_wp2_with fail
      refine KW.out.mono ?_
      rintro e w3 ⟨rfl, S3, m3, K3, D3, hK3, h0⟩
      have S3h := hid (hSh.out.trans' S3 fun j hj h => (hK9.out j h).resolve_right (by omega))
      have hK3h := hid (fun j (h : K3 j) => show K j ∨ w.heap.size ≤ j from (hK3 j h).elim (hK9.out j) fun r => .inr (Nat.le_trans hSh.out.size r))
      have D3h := hid D3
      have h0h := hid h0
      clear S3 hK3 D3 h0 KW hSh
      by_cases hc : c = 0
      · subst hc
        have hnx := hid (h0h.out rfl)
        have hEE := hid (show segE N n z Xs xn 0 = segE N n z Xs (xn - (k + 1)) (k + 1) by rw [hE.out, hst.out, if_pos rfl])
        clear hw hst h0h
        go_wp2_with fail
        exact ⟨⟨k + 1, by omega, rfl, S3h.out, hnx.out.2 (by first | rfl | trivial), hEE.out, m3, K3, hK3h.out, hnx.out.1, D3h.out⟩, hmeas.out _ rfl⟩
      · have hc1 : (c == 0) = false := by rw [beq_eq_false_iff_ne]; exact hc
        have hR := hid (show segE N n z Xs xn 0 = c by rw [hE.out, hst.out, if_neg hc])
        clear hc hw
        go_wp2_with fail
        go_ret
        exact ⟨by rw [hR.out]; rfl, S3h.out⟩
    · obtain rfl : k = xn := by omega
      have hR := hid (show segE N n z Xs k 0 = 0 by rw [hE.out, segE_end])
      have hSh := hid hS
      clear hS D9 T9
      go_wp2_with fail
      go_ret
      exact ⟨by rw [hR.out]; rfl, hSh.out⟩
end Go.Proofs.Ytpgibngohbohdaa

/-
  Package seglog: Load of no sector.
-/

namespace Go.Proofs.Ytpgibngohbohdaa
open Go.RowKit Go.Maps
set_option linter.unusedVariables false
set_option linter.unusedSimpArgs false

theorem below_al1 (w : World) (o : Obj) : Below w.heap.size w (w.alloc o) := (Below.refl _ _).alloc (Nat.le_refl _) _
/-- An item of none. -/
abbrev item0 : Value := .agg #[.int .i64 0, .bool false, .slice none 0 0, .int .i64 0, .int .i64 0, .int .i64 0, .int .i64 0, .int .i64 0, .int .i64 0, .int .i64 0, .int .i64 0, .int .i64 0]
abbrev item0c : List Value := [.int .i64 0, .bool false, .slice none 0 0, .int .i64 0, .int .i64 0, .int .i64 0, .int .i64 0, .int .i64 0, .int .i64 0, .int .i64 0, .int .i64 0, .int .i64 0]
set_option maxRecDepth 100000 in
set_option maxHeartbeats 4000000 in
theorem load_far (m : DM) (b : Nat) (z : Int) (hz : (Lit.int .i64 z).wf = true) (K : Nat → Prop) (w : World) (D : DiskM w b m K) (h : m.trb = false) (hr : ¬ (0 ≤ z ∧ z < (m.Ls.length : Int))) :
    Calls Try.prog 20 #[.pointer (some ⟨b, 0, none⟩), .int .i64 z] w fun e w' => e = .returned (.tuple #[item0, .int .i64 4]) ∧ Sole K w w' := by
  obtain ⟨W0, hW0⟩ : ∃ W0, w.alloc (.cells #[.int .i64 0, .bool false, .slice none 0 0, .int .i64 0, .int .i64 0, .int .i64 0, .int .i64 0, .int .i64 0, .int .i64 0, .int .i64 0, .int .i64 0, .int .i64 0] 58) = W0 := ⟨_, rfl⟩
  have hb0 : Below w.heap.size w W0 := by rw [← hW0]; exact (Below.refl _ _).alloc (Nat.le_refl _) _
  have BX : Blk W0 w.heap.size #[.int .i64 0, .bool false, .slice none 0 0, .int .i64 0, .int .i64 0, .int .i64 0, .int .i64 0, .int .i64 0, .int .i64 0, .int .i64 0, .int .i64 0, .int .i64 0] := by rw [← hW0]; exact Blk.new w _ _
  have KR := hid (read_any m b z hz K W0 (D.more hb0) h)
  have HBX := hid BX
  have D0 := hid hb0
  have hKs := hid (fun k (hk : K k) => D.klt k hk)
  have hrh := hid hr
  clear BX hb0 D hr
  go_enter Try.func20, Try.ntmps20
  go_wp2_with fail
  refine KR.out.mono ?_
  rintro e w1 ⟨_, h4, _, S1⟩
  obtain rfl := h4 hrh.out
  have HB1 := HBX.out.sole S1 (fun hk => by have := hKs.out _ hk; omega)
  have S01 := hid ((Sole.made (S := K) D0.out).trans S1)
  clear h4 S1 KR HBX D0 hW0
  obtain ⟨lx, kx, fx⟩ := HB1
  go_wp2
  have B3 : Blk (setAll w1 w.heap.size 0 item0c) w.heap.size _ := Blk.fill item0c 0 ⟨lx, kx, fx⟩ (by simp)
  have S3 := hid (S01.out.trans' (Sole.of_below (S := fun k => w.heap.size ≤ k) (below_fill (B := w.heap.size) (b := w.heap.size) (Nat.le_refl _) item0c 0 (Below.refl w.heap.size w1)) (fun k h1 h2 => h2)) (fun k hk e => by omega))
  simp only [setAll, Nat.zero_add, Nat.reduceAdd] at B3 S3
  generalize World.setCell _ _ _ = W3 at *
  obtain ⟨l3, k3, f3⟩ := B3
  clear lx kx fx
  refine bodyPost_ret (v := .tuple #[item0, .int .i64 4]) (by simp [results, Try.results20, go_sem, k3, fillC]) rfl ⟨rfl, S3.out⟩
end Go.Proofs.Ytpgibngohbohdaa

/-
  Package seglog: of a sector that is none nothing is told.
-/


namespace Go.Proofs.Ytpgibngohbohdaa
open Go.RowKit Go.Maps
set_option linter.unusedVariables false
set_option linter.unusedSimpArgs false

/-- A summary of none. -/
abbrev summ0 : Value := .agg #[.int .i64 0, .bool false, .slice none 0 0]
theorem open_none (l : List UInt8) (a : Option Addr) (cap : Nat) (h1 : l.length ≤ cap) (h2 : cap ≤ maxLen) (w : World) (O : Octs w a l) (hg : goodB l = false) :
    Calls Try.prog 84 #[.slice a l.length cap] w fun e w' => ∃ q c, e = .returned (.tuple #[.int .i64 0, sval ⟨0, 0, 0⟩, .slice q 0 c, .int .i64 16]) ∧ Below w.heap.size w w' := by
  obtain ⟨eK, eS, eT, eE⟩ := open_bad hg
  refine (fopen_any l a cap h1 h2 w O).mono ?_
  rintro e w' ⟨v, rfl, ⟨q, c, rfl, _⟩, hb⟩
  rw [eK, eS, eE, eT]
  exact ⟨q, c, rfl, hb⟩

set_option maxRecDepth 100000 in
set_option maxHeartbeats 4000000 in
theorem snode_bad (l : List UInt8) (a : Option Addr) (cap : Nat) (h1 : l.length ≤ cap) (h2 : cap ≤ maxLen) (w : World) (O : Octs w a l) (hg : goodB l = false) :
    Calls Try.prog 49 #[.slice a l.length cap] w fun e w' => e = .returned (.tuple #[item0, .int .i64 21]) ∧ Below w.heap.size w w' := by
  obtain ⟨W0, hW0⟩ : ∃ W0, w.alloc (.cells #[.int .i64 0, .bool false, .slice none 0 0, .int .i64 0, .int .i64 0, .int .i64 0, .int .i64 0, .int .i64 0, .int .i64 0, .int .i64 0, .int .i64 0, .int .i64 0] 58) = W0 := ⟨_, rfl⟩
  have hb0 : Below w.heap.size w W0 := by rw [← hW0]; exact (Below.refl _ _).alloc (Nat.le_refl _) _
  have BX : Blk W0 w.heap.size #[.int .i64 0, .bool false, .slice none 0 0, .int .i64 0, .int .i64 0, .int .i64 0, .int .i64 0, .int .i64 0, .int .i64 0, .int .i64 0, .int .i64 0, .int .i64 0] := by rw [← hW0]; exact Blk.new w _ _
  have KO := hid (open_none l a cap h1 h2 W0 (O.more hb0) hg)
  have HBX := hid BX
  have D0 := hid hb0
  clear BX O h1 h2 hg hb0
  generalize l.length = ll at *
  go_enter Try.func49, Try.ntmps49
  go_wp2_with fail
  refine KO.out.mono ?_
  rintro e w1 ⟨q, c, rfl, hb1⟩
  have HB1 := HBX.out.more hb1
  have D1 := hid (below2 D0.out hb1 D0.out.size)
  have HB2 := HB1.more (below_al1 w1 (.cells (scells ⟨0, 0, 0⟩) 108))
  have D2 := hid (D1.out.alloc D1.out.size (.cells (scells ⟨0, 0, 0⟩) 108))
  clear hb1 KO HBX D0 hW0 HB1
  obtain ⟨lx, kx, fx⟩ := HB2
  go_wp2
  have B3 : Blk (setAll (w1.alloc (.cells (scells ⟨0, 0, 0⟩) 108)) w.heap.size 0 [.int .i64 0, .bool false, .slice none 0 0, .int .i64 0, .int .i64 0, .int .i64 0, .int .i64 0, .int .i64 0, .int .i64 0, .int .i64 0, .int .i64 0, .int .i64 0]) w.heap.size _ := Blk.fill [.int .i64 0, .bool false, .slice none 0 0, .int .i64 0, .int .i64 0, .int .i64 0, .int .i64 0, .int .i64 0, .int .i64 0, .int .i64 0, .int .i64 0, .int .i64 0] 0 ⟨lx, kx, fx⟩ (by simp)
  have D3 := hid (below_fill (b := w.heap.size) (Nat.le_refl _) [.int .i64 0, .bool false, .slice none 0 0, .int .i64 0, .int .i64 0, .int .i64 0, .int .i64 0, .int .i64 0, .int .i64 0, .int .i64 0, .int .i64 0, .int .i64 0] 0 D2.out)
  simp only [setAll, Nat.zero_add, Nat.reduceAdd, scells] at B3 D3
  generalize World.setCell _ _ _ = W3 at *
  obtain ⟨l3, k3, f3⟩ := B3
  clear lx kx fx
  refine bodyPost_ret (v := .tuple #[item0, .int .i64 21]) (by simp [results, Try.results49, go_sem, k3, fillC]) rfl ⟨rfl, D3.out⟩
end Go.Proofs.Ytpgibngohbohdaa

/-
  The example of layer 19.
-/



namespace Go.Proofs.Ytpgibngohbohdaa
open Go.RowKit Go.Maps
set_option linter.unusedVariables false
set_option linter.unusedSimpArgs false

set_option maxRecDepth 100000 in
set_option maxHeartbeats 4000000 in
theorem ssum_bad (l : List UInt8) (a : Option Addr) (cap : Nat) (t : Stp) (h1 : l.length ≤ cap) (h2 : cap ≤ maxLen) (w : World) (O : Octs w a l) (hg : goodB l = false) :
    Calls Try.prog 47 #[.slice a l.length cap, sval t] w fun e w' => e = .returned (.tuple #[summ0, .bool false]) ∧ Below w.heap.size w w' := by
  obtain ⟨W0, hW0⟩ : ∃ W0, (w.alloc (.cells (scells t) 108)).alloc (.cells #[.int .i64 0, .bool false, .slice none 0 0] 44) = W0 := ⟨_, rfl⟩
  have hb0 : Below w.heap.size w W0 := by rw [← hW0]; exact (below_al1 _ _).trans ((below_al1 _ _).mono (by simp))
  have BX : Blk W0 (w.heap.size + 1) #[.int .i64 0, .bool false, .slice none 0 0] := by
    rw [← hW0]
    have := Blk.new (w.alloc (.cells (scells t) 108)) #[.int .i64 0, .bool false, .slice none 0 0] 44
    simpa using this
  have KO := hid (open_none l a cap h1 h2 W0 (O.more hb0) hg)
  have HBX := hid BX
  have D0 := hid hb0
  clear BX O h1 h2 hg hb0
  generalize l.length = ll at *
  go_enter Try.func47, Try.ntmps47
  go_wp2_with fail
  refine KO.out.mono ?_
  rintro e w1 ⟨q, c, rfl, hb1⟩
  have HB1 := HBX.out.more hb1
  have D1 := hid (below2 D0.out hb1 D0.out.size)
  have HB2 := HB1.more (below_al1 w1 (.cells (scells ⟨0, 0, 0⟩) 108))
  have D2 := hid (D1.out.alloc D1.out.size (.cells (scells ⟨0, 0, 0⟩) 108))
  clear hb1 KO HBX D0 hW0 HB1
  obtain ⟨lx, kx, fx⟩ := HB2
  go_wp2
  have B3 : Blk (setAll (w1.alloc (.cells (scells ⟨0, 0, 0⟩) 108)) (w.heap.size + 1) 0 [.int .i64 0, .bool false, .slice none 0 0]) (w.heap.size + 1) _ := Blk.fill [.int .i64 0, .bool false, .slice none 0 0] 0 ⟨lx, kx, fx⟩ (by simp)
  have D3 := hid (below_fill (b := w.heap.size + 1) (Nat.le_succ _) [.int .i64 0, .bool false, .slice none 0 0] 0 D2.out)
  simp only [setAll, Nat.zero_add, Nat.reduceAdd, scells] at B3 D3
  generalize World.setCell _ _ _ = W3 at *
  obtain ⟨l3, k3, f3⟩ := B3
  clear lx kx fx
  refine bodyPost_ret (v := .tuple #[summ0, .bool false]) (by simp [results, Try.results47, go_sem, k3, fillC]) rfl ⟨rfl, D3.out⟩

set_option maxRecDepth 100000 in
set_option maxHeartbeats 4000000 in
theorem sload_bad (m : DM) (b : Nat) (z : Int) (hz : (Lit.int .i64 z).wf = true) (K : Nat → Prop) (w : World) (D : DiskM w b m K) (h : m.trb = false) (hr : 0 ≤ z ∧ z < (m.Ls.length : Int)) (hl : (m.cur z).l.length ≤ 1000) (hg : goodB (m.cur z).l = false) :
    Calls Try.prog 20 #[.pointer (some ⟨b, 0, none⟩), .int .i64 z] w fun e w' => e = .returned (.tuple #[item0, .int .i64 21]) ∧ Sole K w w' := by
  obtain ⟨W0, hW0⟩ : ∃ W0, w.alloc (.cells #[.int .i64 0, .bool false, .slice none 0 0, .int .i64 0, .int .i64 0, .int .i64 0, .int .i64 0, .int .i64 0, .int .i64 0, .int .i64 0, .int .i64 0, .int .i64 0] 58) = W0 := ⟨_, rfl⟩
  have hb0 : Below w.heap.size w W0 := by rw [← hW0]; exact (Below.refl _ _).alloc (Nat.le_refl _) _
  have BX : Blk W0 w.heap.size #[.int .i64 0, .bool false, .slice none 0 0, .int .i64 0, .int .i64 0, .int .i64 0, .int .i64 0, .int .i64 0, .int .i64 0, .int .i64 0, .int .i64 0, .int .i64 0] := by rw [← hW0]; exact Blk.new w _ _
  have KR := hid (read_any m b z hz K W0 (D.more hb0) h)
  have HBX := hid BX
  have D0 := hid hb0
  have hKs := hid (fun k (hk : K k) => D.klt k hk)
  have hrh := hid hr
  have KN := hid (fun a cap w h1 h2 O => snode_bad (m.cur z).l a cap h1 h2 w O hg)
  clear BX hb0 D hr hg
  generalize (m.cur z).l = l at *
  go_enter Try.func20, Try.ntmps20
  go_wp2_with fail
  refine KR.out.mono ?_
  rintro e w1 ⟨h4, _, _, S1⟩
  obtain ⟨v, rfl, a1, c1, rfl, O1⟩ := h4 hrh.out
  have HB1 := HBX.out.sole S1 (fun hk => by have := hKs.out _ hk; omega)
  have hcc : l.length ≤ c1 ∧ c1 ≤ maxLen := by
    rcases O1.2 with ⟨e, h0⟩ | ⟨g, cap, cur, e, hb, hg, h1, h2, _⟩
    · simp only [Value.slice.injEq] at e; exact ⟨by omega, by rw [e.2.2]; exact Nat.zero_le _⟩
    · simp only [Value.slice.injEq] at e; obtain ⟨_, _, rfl⟩ := e; exact ⟨h1, h2⟩
  have KN1 := hid (KN.out a1 c1 w1 hcc.1 hcc.2 (Octs.of_own O1))
  have HB1h := hid HB1
  have S01 := hid ((Sole.made (S := K) D0.out).trans S1)
  have hw1 := hid (show w.heap.size ≤ w1.heap.size from S01.out.size)
  clear h4 S1 KR HBX D0 hW0 O1 hcc KN HB1
  generalize l.length = ll at *
  go_wp2_with fail
  refine KN1.out.mono ?_
  rintro e w2 ⟨rfl, hb2⟩
  have HB2 := HB1h.out.more hb2
  have S02 := hid (S01.out.trans (Sole.made hb2))
  clear hb2 KN1 HB1h
  obtain ⟨lx, kx, fx⟩ := HB2
  go_wp2
  have B3 : Blk (setAll w2 w.heap.size 0 item0c) w.heap.size _ := Blk.fill item0c 0 ⟨lx, kx, fx⟩ (by simp)
  have S3 := hid (S02.out.trans' (Sole.of_below (S := fun k => w.heap.size ≤ k) (below_fill (B := w.heap.size) (b := w.heap.size) (Nat.le_refl _) item0c 0 (Below.refl w.heap.size w2)) (fun k h1 h2 => h2)) (fun k hk e => by omega))
  simp only [setAll, Nat.zero_add, Nat.reduceAdd] at B3 S3
  generalize World.setCell _ _ _ = W3 at *
  obtain ⟨l3, k3, f3⟩ := B3
  clear lx kx fx
  refine bodyPost_ret (v := .tuple #[item0, .int .i64 21]) (by simp [results, Try.results20, go_sem, k3, fillC]) rfl ⟨rfl, S3.out⟩

set_option maxRecDepth 100000 in
set_option maxHeartbeats 4000000 in
theorem sbatch_bad (m : DM) (b : Nat) (z : Int) (hz : (Lit.int .i64 z).wf = true) (K : Nat → Prop) (w : World) (D : DiskM w b m K) (h : m.trb = false) (hr : 0 ≤ z ∧ z < (m.Ls.length : Int)) (hl : (m.cur z).l.length ≤ 1000) (hg : goodB (m.cur z).l = false) (left ep sq : Int) :
    Calls Try.prog 18 #[.pointer (some ⟨b, 0, none⟩), .int .i64 z, .int .i64 left, .int .i64 ep, .int .i64 sq] w fun e w' => e = .returned (.tuple #[summ0, .bool false, .int .i64 0]) ∧ DiskM w' b m.after K ∧ Sole K w w' := by
  obtain ⟨W0, hW0⟩ : ∃ W0, (w.alloc (.cells #[.int .i64 0, .bool false, .slice none 0 0] 44)).alloc (.cells #[.int .i64 0, .bool false, .slice none 0 0] 44) = W0 := ⟨_, rfl⟩
  have hb0 : Below w.heap.size w W0 := by rw [← hW0]; exact (below_al1 _ _).trans ((below_al1 _ _).mono (by simp))
  have BX : Blk W0 w.heap.size #[.int .i64 0, .bool false, .slice none 0 0] := by
    rw [← hW0]
    exact (Blk.new w #[.int .i64 0, .bool false, .slice none 0 0] 44).more (below_al1 _ _)
  have BY : Blk W0 (w.heap.size + 1) #[.int .i64 0, .bool false, .slice none 0 0] := by
    rw [← hW0]
    have := Blk.new (w.alloc (.cells #[.int .i64 0, .bool false, .slice none 0 0] 44)) #[.int .i64 0, .bool false, .slice none 0 0] 44
    simpa using this
  have BY1 := ((BY.set 0 (.int .i64 0) (by simp)).set 1 (.bool false) (by simp)).set 2 (.slice none 0 0) (by simp)
  have SY := ((Sole.setCell (S := fun k => k = w.heap.size + 1) W0 (b := w.heap.size + 1) (o := 0) (.int .i64 0) rfl).trans (Sole.setCell _ (b := w.heap.size + 1) (o := 1) (.bool false) rfl)).trans (Sole.setCell _ (b := w.heap.size + 1) (o := 2) (.slice none 0 0) rfl)
  have BX1 := BX.sole SY (by omega)
  have hb1 := hb0.trans (SY.below (B := w.heap.size) hb0.size fun k e => by omega)
  have KR := hid (read_any m b z hz K _ (D.more hb1) h)
  have HBX := hid BX1
  have HBY := hid BY1
  have D0 := hid hb1
  have hKs := hid (fun k (hk : K k) => D.klt k hk)
  have hrh := hid hr
  have KN := hid (fun a cap t w h1 h2 O => ssum_bad (m.cur z).l a cap t h1 h2 w O hg)
  clear BX hb0 D hr hg BX1 BY1 SY hb1
  obtain ⟨l0, k0, f0⟩ := BY
  generalize (m.cur z).l = l at *
  go_enter Try.func18, Try.ntmps18
  go_wp2_with fail
  refine KR.out.mono ?_
  rintro e w1 ⟨h4, _, D1, S1⟩
  obtain ⟨v, rfl, a1, c1, rfl, O1⟩ := h4 hrh.out
  have HB1 := HBX.out.sole S1 (fun hk => by have := hKs.out _ hk; omega)
  have HY1 := HBY.out.sole S1 (fun hk => by have := hKs.out _ hk; omega)
  have hcc : l.length ≤ c1 ∧ c1 ≤ maxLen := by
    rcases O1.2 with ⟨e, h0⟩ | ⟨g, cap, cur, e, hb, hg, h1, h2, _⟩
    · simp only [Value.slice.injEq] at e; exact ⟨by omega, by rw [e.2.2]; exact Nat.zero_le _⟩
    · simp only [Value.slice.injEq] at e; obtain ⟨_, _, rfl⟩ := e; exact ⟨h1, h2⟩
  have KN1 := hid (KN.out a1 c1 ⟨ep, sq, 0⟩ w1 hcc.1 hcc.2 (Octs.of_own O1))
  have HB1h := hid HB1
  have HY1h := hid HY1
  have D1h := hid D1
  have S01 := hid ((Sole.made (S := K) D0.out).trans S1)
  have hw1 := hid (show w.heap.size ≤ w1.heap.size from S01.out.size)
  clear h4 S1 KR HBX HBY D0 hW0 O1 hcc KN HB1 HY1 D1
  generalize l.length = ll at *
  go_wp2_with fail
  refine KN1.out.mono ?_
  rintro e w2 ⟨rfl, hb2⟩
  have hb3 := below2 hb2 (below_al1 w2 (.cells #[.int .i64 0, .bool false, .slice none 0 0] 44)) hb2.size
  have HB2 := HB1h.out.more hb3
  have HY2 := HY1h.out.more hb3
  have S02 := hid (S01.out.trans (Sole.made hb3))
  have D2h := hid (D1h.out.more hb3)
  clear hb2 hb3 KN1 HB1h HY1h D1h
  obtain ⟨lx, kx, fx⟩ := HB2
  obtain ⟨ly, ky, fy⟩ := HY2
  go_wp2
  have B3 : Blk (setAll (w2.alloc (.cells #[.int .i64 0, .bool false, .slice none 0 0] 44)) w.heap.size 0 [.int .i64 0, .bool false, .slice none 0 0]) w.heap.size _ := Blk.fill [.int .i64 0, .bool false, .slice none 0 0] 0 ⟨lx, kx, fx⟩ (by simp)
  have SB := Sole.of_below (S := fun k => w.heap.size ≤ k) (below_fill (B := w.heap.size) (b := w.heap.size) (Nat.le_refl _) [.int .i64 0, .bool false, .slice none 0 0] 0 (Below.refl w.heap.size (w2.alloc (.cells #[.int .i64 0, .bool false, .slice none 0 0] 44)))) (fun k h1 h2 => h2)
  have S3 := hid (S02.out.trans' SB (fun k hk e => by omega))
  have D3 := hid (D2h.out.kept SB (fun k hk h => by have := hKs.out k hk; omega))
  clear SB
  simp only [setAll, Nat.zero_add, Nat.reduceAdd] at B3 S3 D3
  generalize World.setCell _ _ _ = W3 at *
  obtain ⟨l3, k3, f3⟩ := B3
  clear lx kx fx
  refine bodyPost_ret (v := .tuple #[summ0, .bool false, .int .i64 0]) (by simp [results, Try.results18, go_sem, k3, fillC]) rfl ⟨rfl, D3.out, S3.out⟩

theorem goodB_zeros : goodB (zerosN 256) = false := by
  unfold goodB
  rw [decide_eq_false (show ¬ (zerosN 256).take 2 = [67, 82] by decide), Bool.false_and, Bool.and_false]
set_option maxRecDepth 100000 in
set_option maxHeartbeats 4000000 in
theorem alive19 (w : World) : Calls Try.prog 15 #[] w fun e w' => e = .returned (.bool true) ∧ Below w.heap.size w w' := by
  have KN := hid (dnew_any 4 w)
  go_enter Try.func15, Try.ntmps15
  go_wp2_with fail
  refine KN.out.mono ?_
  rintro e w1 ⟨L, rfl, D1, N1, hb1⟩
  rw [show sectorsN 4 = 4 from rfl] at D1 N1
  have E1 := hid hb1
  have hcur : ((newM w.heap.size 4 L).cur 1).l = zerosN 256 := by
    show (ocA L 1).l = _
    exact N1.Z _ (ocA_mem L 1 (by have : L.length = 4 := N1.S; omega))
  have hlen := hid (show L.length = 4 from N1.S)
  have KB := hid (sbatch_bad (newM w.heap.size 4 L) _ 1 (by decide) _ w1 D1 rfl ⟨by omega, by rw [N1.S]; decide⟩ (by rw [hcur, zerosN_len]; omega) (by rw [hcur]; exact goodB_zeros) 3 1 0)
  have hch := hid hcur
  clear hb1 D1 N1 KN hcur
  generalize w.heap.size + 3 = bd at *
  go_wp2_with fail
  refine KB.out.mono ?_
  rintro e w2 ⟨rfl, D2, S2⟩
  have E2 := hid (E1.out.trans (S2.below (B := w.heap.size) E1.out.size fun k h => h.1))
  have hb3 := below_al1 w2 (.cells #[.int .i64 0, .bool false, .slice none 0 0] 44)
  have E3 := hid (E2.out.trans (hb3.mono E2.out.size))
  have KL := hid (sload_bad (newM w.heap.size 4 L).after bd 1 (by decide) _ _ (D2.more hb3) rfl ⟨by omega, by show (1 : Int) < (L.length : Int); rw [hlen.out]; decide⟩ (by show ((newM w.heap.size 4 L).cur 1).l.length ≤ 1000; rw [hch.out, zerosN_len]; omega) (by show goodB ((newM w.heap.size 4 L).cur 1).l = false; rw [hch.out]; exact goodB_zeros))
  clear hb3 D2 S2 KB
  go_wp2_with fail
  refine KL.out.mono ?_
  rintro e w4 ⟨rfl, S4⟩
  have E4 := hid (E3.out.trans (S4.below (B := w.heap.size) E3.out.size fun k h => h.1))
  have E5 := hid (E4.out.trans ((below_al1 w4 (.cells item0c.toArray 58)).mono E4.out.size))
  clear S4 KL
  go_wp2_with fail
  go_ret
  exact ⟨rfl, E5.out⟩
end Go.Proofs.Ytpgibngohbohdaa

/-
  What an argument that comes in is: a slice of slices of octets.
-/



namespace Go.Proofs.Ytpgibngohbohdaa
open Go.ChangeShapes Go.WideShapes Go.ChangeAt Go.RowKit Go.Joins Go.Deep
set_option linter.unusedVariables false

set_option maxRecDepth 100000 in
/-- Octets in a cell. -/
theorem oct_in {H : Type} {enc : TypeId × Value → H} {W : World} {v : Value} {fuel : Nat} {x : DataW H × List MemPlace} (hf : DataW.trod enc Try.prog W 0 (fun _ => true) true fuel 35 [v] = some x) :
    ∃ s : OcS, v = .slice s.a s.l.length s.cap ∧ s.there W := by
  rcases open_ints Try.underlying35 Try.underlying5 (by kernel_rfl) hf with ⟨hcs, _⟩ | ⟨a, len, cap, zs, hcs, _, hl, hm, hz, hx, hcell, hwz⟩
  · simp at hcs
    subst hcs
    exact ⟨⟨none, 0, []⟩, rfl, .inl rfl, Nat.le_refl _, Nat.zero_le _⟩
  · simp at hcs
    subst hcs
    simp only [if_true] at hz
    have hll : ((zs.take len).map fun z => UInt8.ofNat z.toNat).length = len := by rw [List.length_map, List.length_take]; omega
    refine ⟨⟨some a, cap, (zs.take len).map fun z => UInt8.ofNat z.toNat⟩, by show _ = Value.slice (some a) ((zs.take len).map fun z => UInt8.ofNat z.toNat).length cap; rw [hll], ?_, by show ((zs.take len).map fun z => UInt8.ofNat z.toNat).length ≤ cap; rw [hll]; exact hl, hm⟩
    show Octs W (some a) ((zs.take len).map fun z => UInt8.ofNat z.toNat)
    by_cases h0 : len = 0
    · subst h0; exact .inl (by simp)
    · have c0 := hcell 0 (by omega)
      have hsp : a.spot = none := by
        have := World.cell?_spot c0
        simpa [Addr.add] using this
      obtain ⟨b, o, sp⟩ := a
      simp only at hsp
      subst hsp
      have hadd : ∀ k, Addr.add ⟨b, o, none⟩ k = ⟨b, o + k, none⟩ := by
        intro k
        unfold Addr.add
        split
        · subst k; rfl
        · rfl
      refine .inr ⟨b, o, rfl, ?_, fun i hi => ?_⟩
      · have := cell_lt c0
        rwa [hadd] at this
      · rw [hll] at hi
        have hi' : i < zs.length := by omega
        have hc := hcell i hi'
        have hb := bounds_u8 (hwz zs[i] (List.getElem_mem hi'))
        rw [hadd] at hc
        rw [hc]
        have e1 : zs.getD i 0 = zs[i] := by simp [hi']
        rw [e1]
        simp only [List.getElem_map, List.getElem_take]
        rw [byte_ofNat]
        congr 2
        omega

set_option maxRecDepth 100000 in
/-- A slice of slices of octets that comes in. -/
theorem octll_of {H : Type} {enc : TypeId × Value → H} {W : World} {b0 : Nat} {v : Value} {d : DataW H} {p : List MemPlace} (hv : Value.okWide Try.prog W .any b0 26 v) (h : DataW.Trod enc Try.prog W 0 (fun _ => true) true 26 v d p) :
    ∃ (L : List OcS) (a : Option Addr) (cap : Nat), v = .slice a L.length cap ∧ L.length ≤ cap ∧ cap ≤ maxLen ∧ RowOf ocT W a L ∧ ∀ x ∈ L, x.there W := by
  obtain ⟨fuel, hf⟩ := h
  obtain ⟨a0, len, cap, rfl⟩ := okWide_slice Try.underlying26 hv
  rcases open_slice Try.underlying26 hf with ⟨h0, _⟩ | ⟨a, len', cap', m, n, D, Pl, hcs, hb, hl, hm, hmm, hx, hi⟩
  · simp [Value.cells] at h0
    obtain ⟨rfl, rfl, rfl⟩ := h0
    exact ⟨[], none, 0, rfl, Nat.le_refl _, Nat.zero_le _, .inl rfl, fun x hx => by cases hx⟩
  · simp [Value.cells] at hcs
    obtain ⟨rfl, rfl, rfl⟩ := hcs
    have hlm : len ≤ m := by rw [hmm]; split <;> omega
    have each : ∀ i, i < len → ∃ s : OcS, W.cell? (a.add i) = some (.slice s.a s.l.length s.cap) ∧ s.there W := by
      intro i hil
      obtain ⟨cs', hc, ht'⟩ := hi i (by omega)
      have hC : Try.prog.cellsOf 35 = 1 := by kernel_rfl
      rw [hC, Nat.mul_one] at hc
      obtain ⟨_, hcl, hat⟩ := World.cells?_some hc
      have hc0 := hat 0 (by omega)
      match cs', hcl, hc0, ht' with
      | [u], _, hc0, ht' =>
        obtain ⟨s, rfl, hs⟩ := oct_in ht'
        refine ⟨s, ?_, hs⟩
        have : Addr.add (a.add i) 0 = a.add i := by unfold Addr.add; simp
        rw [this] at hc0
        simpa using hc0
    have hg : ∃ g : Nat → OcS, ∀ i, i < len → W.cell? (a.add i) = some (.slice (g i).a (g i).l.length (g i).cap) ∧ (g i).there W := by
      haveI : Nonempty OcS := ⟨⟨none, 0, []⟩⟩
      exact ⟨fun i => Classical.epsilon fun s : OcS => W.cell? (a.add i) = some (.slice s.a s.l.length s.cap) ∧ s.there W, fun i hi => Classical.epsilon_spec (each i hi)⟩
    obtain ⟨g, hg⟩ := hg
    have hlen : ((List.range len).map g).length = len := by simp
    refine ⟨(List.range len).map g, some a, cap, by rw [hlen], by rw [hlen]; exact hl, hm, ?_, fun s hs => ?_⟩
    · by_cases h0 : len = 0
      · exact .inl (by rw [hlen]; exact h0)
      · have c0 := (hg 0 (by omega)).1
        have hsp : a.spot = none := by
          have := World.cell?_spot c0
          simpa [Addr.add] using this
        obtain ⟨b, o, sp⟩ := a
        simp only at hsp
        subst hsp
        have hadd : ∀ k, Addr.add ⟨b, o, none⟩ k = ⟨b, o + k, none⟩ := by
          intro k
          unfold Addr.add
          split
          · subst k; rfl
          · rfl
        refine .inr ⟨b, o, rfl, ?_, fun i hi j u hu => ?_⟩
        · have := cell_lt c0
          rwa [hadd] at this
        · rw [hlen] at hi
          have hj : j = 0 := by
            rcases j with _ | j
            · rfl
            · simp [ocT] at hu
          subst hj
          have e1 : atR ocT ((List.range len).map g) i = g i := by rw [atR_eq _ i (by rw [hlen]; exact hi)]; simp
          have hc := (hg i hi).1
          rw [hadd] at hc
          have hu2 : Value.slice (atR ocT ((List.range len).map g) i).a (atR ocT ((List.range len).map g) i).l.length (atR ocT ((List.range len).map g) i).cap = u := Option.some.inj hu
          show W.cell? ⟨b, o + i * 1 + 0, none⟩ = _
          rw [show o + i * 1 + 0 = o + i by omega, hc, ← hu2, e1]
    · obtain ⟨i, hi, rfl⟩ := List.mem_map.1 hs
      exact (hg i (List.mem_range.1 hi)).2
end Go.Proofs.Ytpgibngohbohdaa

/-
  Layer 19: what the disk tells is told.
-/




namespace Go.Proofs.Ytpgibngohbohdaa
open Go.RowKit Go.Maps
set_option linter.unusedVariables false
set_option linter.unusedSimpArgs false

theorem segC_other (N : Nat) (n z : Int) (Xs : List OcS) (k : Nat) (hk : k < 1000) : segC N n z Xs k = if (k : Int) = n then 20 else segC N 1000 z Xs k := by
  unfold segC
  rw [if_neg (show ¬ ((k : Int) = 1000) by omega)]
/-- A place of twenty, whatever the number. -/
theorem place_20 (c : Int) : ∃ k : Int, 0 ≤ k ∧ k < 20 ∧ wrap64 ((c.tmod 20) + 20) = c.tmod 20 + 20 ∧ ((c.tmod 20) + 20) % 20 = k ∧ ((c.tmod 20) + 20).tmod 20 = k ∧ 0 ≤ c.tmod 20 + 20 := by
  have h1 : -(20 : Int) < c.tmod 20 := by have := Int.tmod_lt_of_pos (-c) (show (0 : Int) < 20 by omega); rw [Int.neg_tmod] at this; omega
  have h2 : c.tmod 20 < 20 := Int.tmod_lt_of_pos c (by omega)
  have e : (c.tmod 20 + 20).tmod 20 = (c.tmod 20 + 20) % 20 := Int.tmod_eq_emod_of_nonneg (by omega)
  have e1 := Int.emod_nonneg (c.tmod 20 + 20) (show (20 : Int) ≠ 0 by omega)
  have e2 := Int.emod_lt_of_pos (c.tmod 20 + 20) (show (0 : Int) < 20 by omega)
  rw [e]
  exact ⟨(c.tmod 20 + 20) % 20, e1, e2, IntWalk.wrap64_in _ (by omega), rfl, rfl, by omega⟩

set_option maxRecDepth 100000 in
set_option maxHeartbeats 8000000 in
theorem seglogFails (L0 : List OcS) (p0 : Option Addr) (cap0 : Nat) (t : Int) (a : Int) (ha : 0 ≤ a) (ha' : a ≤ 255) (h10 : L0.length ≤ cap0) (h20 : cap0 ≤ maxLen) (w : World) (HR0 : RowOf ocT w p0 L0) (HT0 : ∀ x ∈ L0, x.there w) :
    Calls Try.prog 5 #[.slice p0 L0.length cap0, .int .i64 t, .int .u8 a] w fun e w' => e = .returned (.bool true) ∧ Below w.heap.size w w' := by
  have KA := hid (fun w => alive19 w)
  have KN16 := hid (fun w => dnew_any 16 w)
  have KN2 := hid (fun w => dnew_any 2 w)
  have hn0 : (L0.length : Int) ≤ 9223372036854775807 := by unfold maxLen at h20; omega
  obtain ⟨z, z0, z1, t1, t2, t3, t4⟩ := place_20 t
  obtain ⟨n, hn⟩ : ∃ n, a % 10 = n := ⟨_, rfl⟩
  have hnm : a.tmod 10 = n := by rw [Int.tmod_eq_emod_of_nonneg ha]; exact hn
  have n0 : 0 ≤ n := by omega
  have n1 : n < 10 := by omega
  go_enter Try.func5, Try.ntmps5
  go_wp2_with fail
  refine (KA.out _).mono ?_
  rintro e w0 ⟨rfl, hb0⟩
  have E0 := hid hb0
  clear hb0 KA
  go_upto_if 19 with (fail)
  go_cut [0] (fun v wx => wx = w0 ∧ ∃ (L : List OcS) (p : Option Addr) (cap : Nat), v = .slice p L.length cap ∧ L.length ≤ 8 ∧ RowOf ocT w p L ∧ (∀ s ∈ L, s.there w))
  case first =>
    by_cases h60 : 8 < L0.length
    · have h60' : decide ((8 : Int) < (L0.length : Int)) = true := decide_eq_true (by omega)
      have hcap : (8 : Int) ≤ (cap0 : Int) := by omega
      obtain ⟨b, o, rfl, R⟩ := RowP.row HR0 (by omega)
      have HR1 := hid (RowOf.take HR0 8 (by omega))
      have hlen : (L0.take 8).length = 8 := by rw [List.length_take]; omega
      have hF := hid (show ∀ s ∈ L0.take 8, s.there w from fun s hs => HT0 s (List.mem_of_mem_take hs))
      clear R HR0 HT0
      replace hlen := hid hlen
      go_wp2_with fail
      go_meet
      case rel => exact ⟨rfl, L0.take 8, some ⟨b, o, none⟩, cap0, by rw [hlen.out], by rw [hlen.out]; omega, HR1.out, hF.out⟩
    · have h60' : decide ((8 : Int) < (L0.length : Int)) = false := decide_eq_false (by omega)
      have HRh := hid HR0
      have hF := hid HT0
      clear HR0 HT0
      go_wp2_with fail
      go_meet
      case rel => exact ⟨rfl, L0, p0, cap0, rfl, by omega, HRh.out, hF.out⟩
  case rest =>
    obtain ⟨rfl, Xs, xp, xc, rfl, h8, HR, HT⟩ := hcut
    replace HR := hid HR
    replace HT := hid HT
    replace h8 := hid h8
    clear HR0 HT0 h10 hn0
    generalize hxn : Xs.length = xn at *
    replace hxn := hid hxn
    go_wp2_with fail
    refine (KN16.out _).mono ?_
    rintro e w1 ⟨Ld, rfl, D1, N1, hb1⟩
    rw [show sectorsN 16 = 16 from rfl] at D1 N1
    have E1 := hid (below2 E0.out hb1 E0.out.size)
    have D1h := hid D1
    have N1h := hid N1
    have hs0 := hid E0.out.size
    have hs1 := hid hb1.size
    generalize hbd : wc.heap.size + 3 = bd at *
    clear hb1 D1 N1 hbd
    go_wp2_with fail
    refine (KN16.out _).mono ?_
    rintro e w2 ⟨Lc, rfl, D2, N2, hb2⟩
    rw [show sectorsN 16 = 16 from rfl] at D2 N2
    have E2 := hid (below2 E1.out hb2 E1.out.size)
    have D2h := hid D2
    have N2h := hid N2
    have hs2 := hid hb2.size
    have KF := hid (fail_any _ bd _ _ (D1h.out.more hb2) n (by rw [show n = wrap64 n by unfold wrap64; omega]; exact wrap64_wf _))
    have hbd := hid (show wc.heap.size ≤ bd ∧ bd < w1.heap.size from D1h.out.kk _ (.inl rfl))
    generalize hbc : w1.heap.size + 3 = bc at *
    clear hb2 D2 N2 hbc KN16 D1h
    go_wp2_with fail
    refine KF.out.mono ?_
    rintro e w3 ⟨rfl, D3, S3⟩
    have D2' := hid (D2h.out.kept S3 (fun k hk e => by have := hbd.out.2; omega))
    have E3 := hid (E2.out.trans (S3.below (B := w.heap.size) E2.out.size fun k e => by have := hbd.out.1; have := hs0.out; omega))
    have TD := hid (show DTold _ 16 true n 0 from ⟨rfl, rfl, rfl, fun _ => rfl, N1h.out.S, by show ([] : List WtS).length ≤ 0; exact Nat.le_refl _, Nat.le_refl _⟩ : DTold { newM wc.heap.size 16 Ld with tf := true, fl := n } 16 true n 0)
    have TC := hid (show DTold _ 16 false ((1000 : Int) - ((0 : Nat) : Int)) 0 from ⟨rfl, rfl, rfl, (fun h => by cases h), N2h.out.S, by show ([] : List WtS).length ≤ 0; exact Nat.le_refl _, Nat.le_refl _⟩ : DTold (newM w1.heap.size 16 Lc) 16 false ((1000 : Int) - ((0 : Nat) : Int)) 0)
    have D3h := hid D3
    have hs3 := hid S3.size
    clear D3 S3 D2h N2h N1h KF
    go_wp2_with fail
    clear t1 t2 t3 t4 hn hnm
    generalize hmdd : ({ newM wc.heap.size 16 Ld with tf := true, fl := n } : DM) = md at *
    generalize newM w1.heap.size 16 Lc = mc0 at *
    clear hmdd
    go_loopw [10, 11] (fun v i wr => ∃ (k : Nat) (c : Int), k ≤ xn ∧ i = .int .i64 (k : Int) ∧ v = .int .i64 c ∧ Below w.heap.size w wr ∧ Sole (fun j => w1.heap.size ≤ j) w3 wr ∧ segE 16 n z Xs xn 0 = (if c = 0 then segE 16 n z Xs (xn - k) k else c) ∧ (c = 0 → ∃ mc Kc, (∀ j, Kc j → w1.heap.size ≤ j) ∧ DTold mc 16 false ((1000 : Int) - (k : Int)) k ∧ DiskM wr bc mc Kc)) (fun _ i _ => xn - (intOf i).toNat)
    case atStart => exact ⟨0, 0, by omega, rfl, rfl, E3.out, Sole.refl _ _, rfl, fun _ => ⟨mc0, _, fun j h => h.1, TC.out, D2'.out⟩⟩
    case round =>
      obtain ⟨k, c, hk, rfl, rfl, hbr, hSr, hE, hd⟩ := hrel
      replace hE := hid hE
      have hbrh := hid hbr
      have hSrh := hid hSr
      have hdh := hid hd
      clear hbr hSr hd
      by_cases hcont : k < xn ∧ c = 0
      · obtain ⟨hlt, rfl⟩ := hcont
        replace hE := hid (hE.out.trans (if_pos rfl))
        have hlt' : (k : Int) < (xn : Int) := by omega
        have hk8 : k < 8 := by have := h8.out; have := hxn.out; omega
        obtain ⟨mc, Kc, hKc, Tc, Dc⟩ := hdh.out rfl
        obtain ⟨b8, o8, hq8, r8⟩ := RowP.row HR.out (by rw [hxn.out]; omega)
        have c8 := (r8.below hbrh.out r8.lt).at0 (i := k) (by rw [hxn.out]; omega) (v := .slice (ocA Xs k).a (ocA Xs k).l.length (ocA Xs k).cap) rfl
        rw [show k * ocT.sz = k from Nat.mul_one k] at c8
        have hxk := HT.out _ (ocA_mem Xs k (by rw [hxn.out]; omega))
        have hxt : (ocA Xs k).there wr := hxk.more (by have := hbrh.out; exact ⟨this.os, this.tape, this.output, this.size, this.block⟩)
        have hw : wrap64 (z + (k : Int)) = z + (k : Int) := IntWalk.wrap64_in _ ⟨by omega, by omega⟩
        have hw1 : wrap64 ((k : Int) + 1) = ((k + 1 : Nat) : Int) := by
          rw [IntWalk.wrap64_in _ ⟨by omega, by omega⟩]
          rfl
        have KW := seg_step mc bc Kc wr Dc 16 1000 z (by omega) (by omega) Xs k (by omega) false (fun h => by cases h) (fun _ => by omega) Tc ⟨by omega, by omega⟩ (ocA Xs k) rfl hxt (fun b' o e hne hk' => by
          rcases hxk.1 with h0 | ⟨b2, o2, e2, h2, _⟩
          · exact hne h0
          · rw [e] at e2; cases e2; have := hKc _ hk'; have := E1.out.size; have := hs0.out; have := hs1.out; omega) (z + (k : Int)) rfl
        have hst := hid (segE_step 16 n z Xs xn k hlt)
        rw [segC_other 16 n z Xs k (by omega)] at hst
        have hmeas := hid (meas_up xn k hlt)
        have hs13 := hid (show w.heap.size ≤ w1.heap.size from by have := E1.out.size; exact this)
        have hKch := hid hKc
        replace KW := hid KW
        rw [hq8]
        clear hdh r8 hxk hxt Dc Tc hq8 hKc
        generalize ocA Xs k = x at *
        generalize segC 16 1000 z Xs k = c at *
        go_wp2_with fail
        refine KW.out.mono ?_
        rintro e w4 ⟨rfl, S4, m4, K4, D4, hK4, h0⟩
        have E4 := hid (hbrh.out.trans (S4.below (B := w.heap.size) hbrh.out.size fun j h => Nat.le_trans hs13.out (hKch.out j h)))
        have S4h := hid (hSrh.out.trans' S4 fun j hj h => hKch.out j h)
        have hK4h := hid (fun j (h : K4 j) => show w1.heap.size ≤ j from (hK4 j h).elim (hKch.out j) fun r => by have := hSrh.out.size; have := hs2.out; have := hs3.out; omega)
        have D4h := hid D4
        have h0h := hid h0
        clear S4 hK4 D4 h0 KW
        by_cases hkn : (k : Int) = n
        · have hkq : ((k : Int) == n) = true := by rw [beq_iff_eq]; exact hkn
          have hEE := hid (show segE 16 n z Xs xn 0 = 20 by rw [hE.out, hst.out, if_pos hkn]; rfl)
          clear hkn hst h0h hw
          go_wp2_with fail
          exact ⟨⟨k + 1, 20, by omega, rfl, rfl, E4.out, S4h.out, hEE.out, fun h => by cases h⟩, hmeas.out _ rfl⟩
        · have hkq : ((k : Int) == n) = false := by rw [beq_eq_false_iff_ne]; exact hkn
          have hEE := hid (show segE 16 n z Xs xn 0 = if c = 0 then segE 16 n z Xs (xn - (k + 1)) (k + 1) else c by rw [hE.out, hst.out, if_neg hkn])
          have hN := hid (fun (h : c = 0) => show ∃ mc Kc, (∀ j, Kc j → w1.heap.size ≤ j) ∧ DTold mc 16 false ((1000 : Int) - ((k + 1 : Nat) : Int)) (k + 1) ∧ DiskM w4 bc mc Kc from ⟨m4, K4, hK4h.out, (h0h.out h).1, D4h.out⟩)
          clear hkn hst h0h hw
          go_wp2_with fail
          exact ⟨⟨k + 1, c, by omega, rfl, rfl, E4.out, S4h.out, hEE.out, hN.out⟩, hmeas.out _ rfl⟩
      · have hEE := hid (show segE 16 n z Xs xn 0 = c by
          rw [hE.out]
          by_cases h0 : c = 0
          · rw [if_pos h0, h0]
            obtain rfl : k = xn := by
              by_cases h1 : k < xn
              · exact absurd ⟨h1, h0⟩ hcont
              · omega
            exact segE_end _ _ _ _ _
          · rw [if_neg h0])
        have DD := D3h.out.kept hSrh.out (fun j hj h => by have := hj.2; omega)
        have hx8 := h8.out
        have hxn' := hxn.out
        have KS := swrite_any md bd _ wr DD 16 n z n0 (by omega) ⟨by omega, by omega⟩ TD.out xp xc Xs (by omega) (RowOf.more HR.out (by have := hbrh.out; exact ⟨this.os, this.tape, this.output, this.size, this.block⟩)) (fun b' o e hne hk' => by
            rcases HR.out with h0 | ⟨b2, o2, e2, R2⟩
            · exact hne h0
            · rw [e] at e2; cases e2; have := R2.lt; have := hs0.out; have := hk'.1; omega)
          (fun x hx => ⟨(HT.out x hx).more (by have := hbrh.out; exact ⟨this.os, this.tape, this.output, this.size, this.block⟩), fun b' o e hne hk' => by
            rcases (HT.out x hx).1 with h0 | ⟨b2, o2, e2, hlt, _⟩
            · exact hne h0
            · rw [e] at e2; cases e2; have := hs0.out; have := hk'.1; omega⟩)
        rw [hxn', hEE.out] at KS
        replace KS := hid KS
        clear hx8 hxn' DD hdh
        have hways : (¬ (k : Int) < (xn : Int)) ∨ ((k : Int) < (xn : Int) ∧ (c == 0) = false) := by
          by_cases h1 : k < xn
          · exact .inr ⟨by omega, by rw [beq_eq_false_iff_ne]; exact fun h => hcont ⟨h1, h⟩⟩
          · exact .inl (by omega)
        clear hcont
        rcases hways with hlt' | ⟨hlt', hc0⟩
        all_goals
          go_wp2_with fail
          refine KS.out.mono ?_
          rintro e w5 ⟨rfl, S5⟩
          have E5 := hid (hbrh.out.trans (S5.below (B := w.heap.size) hbrh.out.size fun j h => Nat.le_trans hs0.out h.1))
          clear S5 KS
          go_wp2_with fail
          refine (KN2.out _).mono ?_
          rintro e w6 ⟨L2, rfl, D6, N6, hb6⟩
          rw [show sectorsN 2 = 2 from rfl] at D6 N6
          have E6 := hid (below2 E5.out hb6 E5.out.size)
          have KL := hid (load_far _ _ 5 (by decide) _ w6 D6 rfl (by rw [N6.S]; omega))
          have h56 := hid E5.out.size
          clear hb6 D6 N6
          go_wp2_with fail
          refine KL.out.mono ?_
          rintro e w7 ⟨rfl, S7⟩
          have E7 := hid (E6.out.trans (S7.below (B := w.heap.size) E6.out.size fun j h => Nat.le_trans h56.out h.1))
          clear S7 KL
          have E8 := hid (E7.out.trans ((below_al1 w7 (.cells item0c.toArray 58)).mono E7.out.size))
          go_wp2_with fail
          go_ret
          exact ⟨rfl, E8.out⟩
end Go.Proofs.Ytpgibngohbohdaa

namespace Go.Proofs.Ytpgibngohbohdaa
open Go.ChangeShapes Go.WideShapes Go.ChangeAt Go.RowKit
set_option linter.unusedVariables false
set_option maxRecDepth 100000

theorem seglogFails_lifted (os : Os) (started : os.Started) (H : Type) (enc : TypeId × Value → H) :
    ReturnsInHanded {} Try.checked os 5 .any (Rows.seglogFailsSpec.pre6 enc Try.prog Try.f5 [] false) (Rows.seglogFailsSpec.post enc Try.prog Try.f5 false true false false) :=
  lift (C := Try.checked) (s := Rows.seglogFailsSpec) own (by kernel_rfl) Try.func5 laidOut rfl rfl Try.underlying4 (by kernel_rfl)
    (fun H ds hd => by match ds, hd with | [d1, d2, d3], _ => rfl) os started H enc
    (ChangeSpec.witness6 (enc := enc) (C := Try.checked) false ⟨#[], #[.slice none 0 0, .int .i64 0, .int .u8 0], []⟩ 8 (by kernel_rfl) (by kernel_rfl) (by kernel_rfl) (by kernel_rfl))
    (fun W base args ds ps hval0 hA0 => by
      have hval : ∀ (j : Nat) t v, Try.f5.params[j]? = some t → args[j]? = some v → Value.okWide Try.prog W .any base t v := hval0
      have hA : DataW.TrodAll enc Try.prog W 0 (fun _ => true) true Try.f5.params.toList args.toList ds ps := hA0
      rw [Try.params5] at hA hval
      obtain ⟨v0, s0, d0, e0, p0, q0, g0, h0, r0⟩ := args_cons hA
      obtain ⟨v1, s1, d1, e1, p1, q1, rfl, h1, r1⟩ := args_cons r0
      obtain ⟨v2, s2, d2, e2, p2, q2, rfl, h2, r2⟩ := args_cons r1
      obtain ⟨rfl, _, _⟩ := trodAll_nil r2
      obtain rfl : args = #[v0, v1, v2] := by cases args; simp_all
      obtain ⟨L, lp, lcap, rfl, l1, l2, RL, TL⟩ := octll_of (hval 0 26 v0 rfl rfl) h0
      obtain ⟨z, rfl, hz, hz'⟩ := open_i64 Try.underlying3 (hval 1 3 v1 rfl rfl) h1
      obtain ⟨a, rfl, _, _, wa⟩ := open_int Try.underlying5 (hval 2 5 v2 rfl rfl) h2
      have ba := bounds_u8 wa
      exact seglogFails L lp lcap z a ba.1 ba.2 l1 l2 W RL TL)

theorem seglogFails_holds : Rows.SeglogFailsSaid :=
  OpenClaim.holds_of_wide 5 Try.f5 rfl rfl rfl rfl rfl rfl rfl ⟨rfl, rfl, rfl, rfl, rfl⟩ rfl rfl rfl rfl rfl (by kernel_rfl) Try.func5 (by kernel_rfl)
    (of_decide_eq_true (by kernel_rfl)) (by unfold Func.isWrapper; rw [if_neg (of_decide_eq_false (by kernel_rfl))]; exact ⟨rfl, rfl⟩)
    (fun os started H enc _ => seglogFails_lifted os started H enc)
#print axioms seglogFails_holds
end Go.Proofs.Ytpgibngohbohdaa
