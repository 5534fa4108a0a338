/-
  Package frame: Seal.
-/
import Derived.Test.YtdagddahpccnkaaFrameMath
import Derived.Test.YtdagddahpccnkaaRefPoint
namespace Go.Proofs.Ytdagddahpccnkaa
open Go.RowKit
set_option linter.unusedVariables false
set_option linter.unusedSimpArgs false

def fitB (n most : Int) : Bool := decide (0 ≤ n) && decide (n ≤ most)
theorem fits_any (n most : Int) (w : World) : Calls Try.prog 38 #[.int .i64 n, .int .i64 most] w fun e w' => e = .returned (.bool (fitB n most)) ∧ w' = w := by
  unfold fitB
  by_cases h1 : 0 ≤ n
  · by_cases h2 : n ≤ most
    · go_enter Try.func38, Try.ntmps38
      go_wp2
      go_ret
      exact ⟨by simp [h1, h2], rfl⟩
    · have g2 := decide_eq_false h2
      go_enter Try.func38, Try.ntmps38
      go_wp2
      go_ret
      exact ⟨by simp [h1, h2], rfl⟩
  · have g1 := decide_eq_false h1
    go_enter Try.func38, Try.ntmps38
    go_wp2
    go_ret
    exact ⟨by simp [h1], rfl⟩
theorem fitB_true {n most : Int} : fitB n most = true ↔ 0 ≤ n ∧ n ≤ most := by simp [fitB]

/-- Why a sector can't be, by what is asked first. -/
theorem seal_ways (kind : Int) (t : Stp) (n : Nat) : (fitB kind 255 = false ∧ sealC kind t n = 4 ∧ ¬ stFits kind t) ∨ (fitB kind 255 = true ∧ fitB t.e 4294967295 = false ∧ sealC kind t n = 4 ∧ ¬ stFits kind t) ∨
    (fitB kind 255 = true ∧ fitB t.e 4294967295 = true ∧ fitB t.s 4294967295 = false ∧ sealC kind t n = 4 ∧ ¬ stFits kind t) ∨
    (fitB kind 255 = true ∧ fitB t.e 4294967295 = true ∧ fitB t.s 4294967295 = true ∧ fitB t.a 65535 = false ∧ sealC kind t n = 4 ∧ ¬ stFits kind t) ∨
    (fitB kind 255 = true ∧ fitB t.e 4294967295 = true ∧ fitB t.s 4294967295 = true ∧ fitB t.a 65535 = true ∧ stFits kind t) := by
  have bad : ∀ h : ¬ stFits kind t, sealC kind t n = 4 := fun h => by unfold sealC; rw [if_neg h]
  cases h1 : fitB kind 255 with
  | false =>
    have hn : ¬ stFits kind t := fun h => by have := fitB_true.2 ⟨h.1, h.2.1⟩; rw [h1] at this; cases this
    exact .inl ⟨rfl, bad hn, hn⟩
  | true =>
    cases h2 : fitB t.e 4294967295 with
    | false =>
      have hn : ¬ stFits kind t := fun h => by have := fitB_true.2 ⟨h.2.2.1, h.2.2.2.1⟩; rw [h2] at this; cases this
      exact .inr (.inl ⟨rfl, rfl, bad hn, hn⟩)
    | true =>
      cases h3 : fitB t.s 4294967295 with
      | false =>
        have hn : ¬ stFits kind t := fun h => by have := fitB_true.2 ⟨h.2.2.2.2.1, h.2.2.2.2.2.1⟩; rw [h3] at this; cases this
        exact .inr (.inr (.inl ⟨rfl, rfl, rfl, bad hn, hn⟩))
      | true =>
        cases h4 : fitB t.a 65535 with
        | false =>
          have hn : ¬ stFits kind t := fun h => by have := fitB_true.2 ⟨h.2.2.2.2.2.2.1, h.2.2.2.2.2.2.2⟩; rw [h4] at this; cases this
          exact .inr (.inr (.inr (.inl ⟨rfl, rfl, rfl, rfl, bad hn, hn⟩)))
        | true =>
          have a1 := fitB_true.1 h1
          have a2 := fitB_true.1 h2
          have a3 := fitB_true.1 h3
          have a4 := fitB_true.1 h4
          exact .inr (.inr (.inr (.inr ⟨rfl, rfl, rfl, rfl, a1.1, a1.2, a2.1, a2.2, a3.1, a3.2, a4.1, a4.2⟩)))

/-- No octets: of nothing. -/
theorem Fresh.none {w w' : World} (hb : Below w.heap.size w w') : Fresh w w' (.slice Option.none 0 0) [] := ⟨Option.none, 0, rfl, World.ownsRow_nil _ _ _ _, hb⟩
def SealPost (kind : Int) (t : Stp) (l : List UInt8) (w : World) (e : Ending) (w' : World) : Prop := ∃ v, e = .returned (.tuple #[v, .int .i64 (sealC kind t l.length)]) ∧ Fresh w w' v (sealL kind t l)

set_option maxRecDepth 100000 in
set_option maxHeartbeats 8000000 in
theorem seal_bad (kind : Int) (t : Stp) (l : List UInt8) (a : Option Addr) (cap : Nat) (hl : l.length ≤ 9223372036854775807) (h : ¬ (stFits kind t ∧ l.length ≤ 238)) (w : World) :
    Calls Try.prog 30 #[.int .i64 kind, sval t, .slice a l.length cap] w (SealPost kind t l w) := by
  have E : Hid (∀ c, c = sealC kind t l.length → SealPost kind t l w (.returned (.tuple #[.slice none 0 0, .int .i64 c])) (w.alloc (.cells (scells t) 54))) := hid (fun c hc =>
    ⟨.slice none 0 0, by rw [hc], by unfold sealL; rw [if_neg h]; exact Fresh.none ((Below.refl _ _).alloc (Nat.le_refl _) _)⟩)
  have K1 := fun w => fits_any kind 255 w
  have K2 := fun w => fits_any t.e 4294967295 w
  have K3 := fun w => fits_any t.s 4294967295 w
  have K4 := fun w => fits_any t.a 65535 w
  rcases seal_ways kind t l.length with ⟨g1, hc, _⟩ | ⟨g1, g2, hc, _⟩ | ⟨g1, g2, g3, hc, _⟩ | ⟨g1, g2, g3, g4, hc, _⟩ | ⟨g1, g2, g3, g4, hf⟩
  · rw [g1] at K1
    rw [hc] at E
    replace K1 := hid K1
    clear K2 K3 K4 g1 hc h
    go_enter Try.func30, Try.ntmps30
    go_wp2_with fail
    refine (K1.out _).mono ?_
    rintro e w1 ⟨rfl, rfl⟩
    go_wp2_with fail
    go_ret2
    exact E.out 4 rfl
  · rw [g1] at K1
    rw [g2] at K2
    rw [hc] at E
    replace K1 := hid K1
    replace K2 := hid K2
    clear K3 K4 g1 g2 hc h
    go_enter Try.func30, Try.ntmps30
    go_wp2_with fail
    refine (K1.out _).mono ?_
    rintro e w1 ⟨rfl, rfl⟩
    go_wp2_with fail
    refine (K2.out _).mono ?_
    rintro e w1 ⟨rfl, rfl⟩
    go_wp2_with fail
    go_ret2
    exact E.out 4 rfl
  · rw [g1] at K1
    rw [g2] at K2
    rw [g3] at K3
    rw [hc] at E
    replace K1 := hid K1
    replace K2 := hid K2
    replace K3 := hid K3
    clear K4 g1 g2 g3 hc h
    go_enter Try.func30, Try.ntmps30
    go_wp2_with fail
    refine (K1.out _).mono ?_
    rintro e w1 ⟨rfl, rfl⟩
    go_wp2_with fail
    refine (K2.out _).mono ?_
    rintro e w1 ⟨rfl, rfl⟩
    go_wp2_with fail
    refine (K3.out _).mono ?_
    rintro e w1 ⟨rfl, rfl⟩
    go_wp2_with fail
    go_ret2
    exact E.out 4 rfl
  · rw [g1] at K1
    rw [g2] at K2
    rw [g3] at K3
    rw [g4] at K4
    rw [hc] at E
    replace K1 := hid K1
    replace K2 := hid K2
    replace K3 := hid K3
    replace K4 := hid K4
    clear g1 g2 g3 g4 hc h
    go_enter Try.func30, Try.ntmps30
    go_wp2_with fail
    refine (K1.out _).mono ?_
    rintro e w1 ⟨rfl, rfl⟩
    go_wp2_with fail
    refine (K2.out _).mono ?_
    rintro e w1 ⟨rfl, rfl⟩
    go_wp2_with fail
    refine (K3.out _).mono ?_
    rintro e w1 ⟨rfl, rfl⟩
    go_wp2_with fail
    refine (K4.out _).mono ?_
    rintro e w1 ⟨rfl, rfl⟩
    go_wp2_with fail
    go_ret2
    exact E.out 4 rfl
  · have hlong : 238 < (l.length : Int) := by
      have : ¬ l.length ≤ 238 := fun hh => h ⟨hf, hh⟩
      omega
    have hc : sealC kind t l.length = 5 := by unfold sealC; rw [if_pos hf, if_neg (by omega)]
    rw [g1] at K1
    rw [g2] at K2
    rw [g3] at K3
    rw [g4] at K4
    rw [hc] at E
    replace K1 := hid K1
    replace K2 := hid K2
    replace K3 := hid K3
    replace K4 := hid K4
    have hl' : (l.length : Int) ≤ 9223372036854775807 := by omega
    clear g1 g2 g3 g4 hc h hf hl
    go_enter Try.func30, Try.ntmps30
    go_wp2_with fail
    refine (K1.out _).mono ?_
    rintro e w1 ⟨rfl, rfl⟩
    go_wp2_with fail
    refine (K2.out _).mono ?_
    rintro e w1 ⟨rfl, rfl⟩
    go_wp2_with fail
    refine (K3.out _).mono ?_
    rintro e w1 ⟨rfl, rfl⟩
    go_wp2_with fail
    refine (K4.out _).mono ?_
    rintro e w1 ⟨rfl, rfl⟩
    go_wp2_with fail
    go_ret2
    exact E.out 5 rfl

set_option maxRecDepth 100000 in
set_option maxHeartbeats 8000000 in
theorem seal_ok (kind : Int) (t : Stp) (l : List UInt8) (a : Option Addr) (cap : Nat) (hf : stFits kind t) (hl : l.length ≤ 238) (w : World) (O : Octs w a l) :
    Calls Try.prog 30 #[.int .i64 kind, sval t, .slice a l.length cap] w (SealPost kind t l w) := by
  obtain ⟨W0, hW0⟩ : ∃ W0, w.alloc (.cells (scells t) 54) = W0 := ⟨_, rfl⟩
  have hb0 : Below w.heap.size w W0 := by rw [← hW0]; exact (Below.refl _ _).alloc (Nat.le_refl _) _
  have hsz0 : W0.heap.size = w.heap.size + 1 := by rw [← hW0]; simp
  have BX : Blk W0 w.heap.size (scells t) := by rw [← hW0]; exact Blk.new w _ _
  have O0 := hid (O.more hb0)
  have E : Hid (∀ v w1 w', Below w.heap.size w w1 → Fresh w1 w' v (sealB kind t l) → SealPost kind t l w (.returned (.tuple #[v, .int .i64 0])) w') := hid (fun v w1 w' hb F => by
    refine ⟨v, by unfold sealC; rw [if_pos hf, if_pos hl], ?_⟩
    unfold sealL
    rw [if_pos ⟨hf, hl⟩]
    obtain ⟨xa, xc, hv, OX, hb'⟩ := F
    exact ⟨xa, xc, hv, own_base OX hb.size, below2 hb hb' hb.size⟩)
  obtain ⟨k0, k1, e0, e1, s0, s1, a0, a1⟩ := hf
  have K1 := hid (fun w => fits_any kind 255 w)
  have K2 := hid (fun w => fits_any t.e 4294967295 w)
  have K3 := hid (fun w => fits_any t.s 4294967295 w)
  have K4 := hid (fun w => fits_any t.a 65535 w)
  rw [fitB_true.2 ⟨k0, k1⟩] at K1
  rw [fitB_true.2 ⟨e0, e1⟩] at K2
  rw [fitB_true.2 ⟨s0, s1⟩] at K3
  rw [fitB_true.2 ⟨a0, a1⟩] at K4
  have KN := hid (fun w => ws_new 256 256 rfl w)
  have hlI : (l.length : Int) ≤ 238 := by omega
  have cl := hid (crcN_lt (bodyB kind t l))
  have bl := hid (bodyB_length kind t l hl)
  have hsB := hid (show bodyB kind t l = [] ++ [67, 82] ++ leB kind.toNat 1 ++ leB t.e.toNat 4 ++ leB t.s.toNat 4 ++ leB t.a.toNat 2 ++ leB (l.length : Int).toNat 1 ++ l ++ List.replicate (238 - l.length) 0 by simp [bodyB, headB, List.append_assoc])
  have HBX := hid BX
  replace hb0 := hid hb0
  clear BX O
  go_enter Try.func30, Try.ntmps30
  go_wp2_with fail
  refine (K1.out _).mono ?_
  rintro e w1 ⟨rfl, hw1⟩
  rw [hw1]
  clear hw1 w1 hW0
  obtain ⟨lx, kx, fx⟩ := HBX.out
  go_wp2_with fail
  refine (K2.out _).mono ?_
  rintro e w1 ⟨rfl, hw1⟩
  rw [hw1]
  clear hw1 w1
  go_wp2_with fail
  refine (K3.out _).mono ?_
  rintro e w1 ⟨rfl, hw1⟩
  rw [hw1]
  clear hw1 w1
  go_wp2_with fail
  refine (K4.out _).mono ?_
  rintro e w1 ⟨rfl, hw1⟩
  rw [hw1]
  clear hw1 w1
  clear K1 K2 K3 K4
  go_wp2_with fail
  refine (KN.out _).mono ?_
  rintro e w1 ⟨rfl, S⟩
  obtain ⟨p, hp⟩ : ∃ p, W0.heap.size = p := ⟨_, rfl⟩
  rw [hp] at S
  simp only [hp]
  have hgp : w.heap.size < p := by omega
  have HB0 := hid (fun (wx : World) (m : List UInt8) (S : WS W0 p 256 wx m) => HBX.out.below S.below hgp)
  have HO := hid (fun (wx : World) (m : List UInt8) (S : WS W0 p 256 wx m) => O0.out.more (w' := wx) (by rw [hp]; exact S.below))
  have HW := hid (fun (wx : World) (m : List UInt8) (S : WS W0 p 256 wx m) => hb0.out.trans (S.below.mono (Nat.le_of_lt hgp)))
  clear KN hb0 O0 HBX lx kx fx hsz0
  generalize w.heap.size = g at *
  have B1 := HB0.out _ _ S
  obtain ⟨lx, kx, fx⟩ := B1
  have K := hid (ws_text S (by omega) (by omega) ⟨#[67, 82]⟩ (by decide))
  replace S := hid S
  go_wp2_with fail
  refine K.out.mono ?_
  rintro e w2 ⟨rfl, S2⟩
  clear lx kx fx K S
  have S := S2
  clear S2
  have B2 := HB0.out _ _ S
  obtain ⟨lx, kx, fx⟩ := B2
  have K := hid (ws_num S (by omega) (by omega) kind 1 1 rfl k0 (by omega) (by simp))
  replace S := hid S
  go_wp2_with fail
  refine K.out.mono ?_
  rintro e w3 ⟨rfl, S3⟩
  clear lx kx fx K S
  have S := S3
  clear S3
  have B3 := HB0.out _ _ S
  obtain ⟨lx, kx, fx⟩ := B3
  have K := hid (ws_num S (by omega) (by omega) t.e 4 4 rfl e0 (by omega) (by simp [leB_length]))
  replace S := hid S
  go_wp2_with fail
  refine K.out.mono ?_
  rintro e w4 ⟨rfl, S4⟩
  clear lx kx fx K S
  have S := S4
  clear S4
  have B4 := HB0.out _ _ S
  obtain ⟨lx, kx, fx⟩ := B4
  have K := hid (ws_num S (by omega) (by omega) t.s 4 4 rfl s0 (by omega) (by simp [leB_length]))
  replace S := hid S
  go_wp2_with fail
  refine K.out.mono ?_
  rintro e w5 ⟨rfl, S5⟩
  clear lx kx fx K S
  have S := S5
  clear S5
  have B5 := HB0.out _ _ S
  obtain ⟨lx, kx, fx⟩ := B5
  have K := hid (ws_num S (by omega) (by omega) t.a 2 2 rfl a0 (by omega) (by simp [leB_length]))
  replace S := hid S
  go_wp2_with fail
  refine K.out.mono ?_
  rintro e w6 ⟨rfl, S6⟩
  clear lx kx fx K S
  have S := S6
  clear S6
  have B6 := HB0.out _ _ S
  obtain ⟨lx, kx, fx⟩ := B6
  have K := hid (ws_num S (by omega) (by omega) l.length 1 1 rfl (by omega) (by omega) (by simp [leB_length]))
  replace S := hid S
  go_wp2_with fail
  refine K.out.mono ?_
  rintro e w7 ⟨rfl, S7⟩
  clear lx kx fx K S
  have S := S7
  clear S7
  have B7 := HB0.out _ _ S
  have kc := conv_octs (HO.out _ _ S) cap
  obtain ⟨lx, kx, fx⟩ := B7
  have K := hid (ws_text S (by omega) (by omega) (textOf l) (by rw [show (textOf l).size = l.length by simp [ByteArray.size]]; simp [leB_length]; omega))
  replace S := hid S
  go_wp2_with fail
  refine K.out.mono ?_
  rintro e w8 ⟨rfl, S8⟩
  clear lx kx fx K S
  have S := S8
  clear S8
  clear kc
  have B8 := HB0.out _ _ S
  obtain ⟨lx, kx, fx⟩ := B8
  have K := hid (ws_pad S (by omega) (by omega) 252 (by omega))
  replace S := hid S
  go_wp2_with fail
  refine K.out.mono ?_
  rintro e w9 ⟨rfl, S9⟩
  clear lx kx fx K S
  have S := S9
  clear S9
  replace S : WS W0 p 256 w9 (bodyB kind t l) := by
    refine cast (congrArg (WS W0 p 256 w9) ?_) S
    rw [hsB.out]
    congr 2
    simp [leB_length]
    omega
  clear hsB
  have KD := hid (ws_done S (by rw [bl.out]; omega))
  replace S := hid S
  clear HB0 HO
  go_wp2_with fail
  refine KD.out.mono ?_
  rintro e w10 ⟨v, rfl, ⟨xa, xc, rfl, OX, hb10⟩, S10⟩
  have hown := OX
  have O10 := Octs.of_own OX
  have hcap : (bodyB kind t l).length ≤ xc ∧ xc ≤ maxLen := by
    rcases OX.2 with ⟨_, h0⟩ | ⟨g', cap', cur, hv, _, _, q1, q2, _⟩
    · rw [bl.out] at h0; cases h0
    · cases hv; exact ⟨q1, q2⟩
  have hbA : Below w10.heap.size w10 (w10.alloc (.cells #[.slice xa (bodyB kind t l).length xc] 33)) := (Below.refl _ _).alloc (Nat.le_refl _) _
  have KC := hid (crc_one (bodyB kind t l) xa xc w10.heap.size hcap.1 hcap.2 _ (O10.more hbA) (by simp) (by simp))
  rw [bl.out] at KC
  have S11 := S10.more hbA
  rw [bl.out] at S11
  replace S11 := hid S11
  have hw0 := hid (S10.below)
  clear OX hb10 hown O10 S10 S KD hbA
  have cl0 : 0 ≤ (crcN (bodyB kind t l) : Int) ∧ (crcN (bodyB kind t l) : Int) ≤ 4294967295 := by have := cl.out; omega
  generalize hbd : bodyB kind t l = body at *
  have bl' := bl.out
  go_wp2_with fail
  refine KC.out.mono ?_
  rintro e w12 ⟨rfl, hb12⟩
  have S12 := S11.out.more hb12
  have KN := hid (ws_num S12 (by omega) (by omega) (crcN body) 4 4 rfl cl0.1 (by omega) (by rw [bl']; decide))
  replace S12 := hid S12
  clear hb12 KC
  go_wp2_with fail
  refine KN.out.mono ?_
  rintro e w13 ⟨rfl, S13⟩
  have KD := hid (ws_done S13 (by simp [leB_length, bl']))
  have hb13 := hid (HW.out _ _ S13)
  clear S12 S11 KN S13
  go_wp2_with fail
  refine KD.out.mono ?_
  rintro e w14 ⟨v, rfl, F, _⟩
  have E2 := hid (E.out v w13 w14 hb13.out (by show Fresh w13 w14 v (sealB kind t l); unfold sealB; rw [hbd]; exact F))
  clear F
  go_wp2_with fail
  go_ret2
  exact E2.out
theorem seal_any (kind : Int) (t : Stp) (l : List UInt8) (a : Option Addr) (cap : Nat) (hl : l.length ≤ 9223372036854775807) (w : World) (O : Octs w a l) :
    Calls Try.prog 30 #[.int .i64 kind, sval t, .slice a l.length cap] w (SealPost kind t l w) := by
  by_cases h : stFits kind t ∧ l.length ≤ 238
  · exact seal_ok kind t l a cap h.1 h.2 w O
  · exact seal_bad kind t l a cap hl h w
end Go.Proofs.Ytdagddahpccnkaa
