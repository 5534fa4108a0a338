/-
  Package super: Put, Read.
-/
import Derived.Test.YtgnnikjpnmalmaaFrameIs
import Derived.Test.YtgnnikjpnmalmaaFrameRefRead
namespace Go.Proofs.Ytgnnikjpnmalmaa
open Go.RowKit
set_option linter.unusedVariables false
set_option linter.unusedSimpArgs false

@[go_sem high] theorem neq_st (a b c a' b' c' : Int) (w : World) : (binOp .neq 75 (.agg #[.int .i64 a, .int .i64 b, .int .i64 c]) (.agg #[.int .i64 a', .int .i64 b', .int .i64 c'])).run Try.prog w = .ok (.bool (!stEq a b c a' b' c')) w := by
  rw [run_neq_struct]
  by_cases h1 : a = a' <;> by_cases h2 : b = b' <;> by_cases h3 : c = c' <;> simp [go_sem, stEq, h1, h2, h3]

abbrev ggeo (n z : Int) : Value := .agg #[.int .i64 n, .int .i64 z]
def gokB (n z : Int) : Bool := decide (6 ≤ n) && decide (n ≤ 32) && decide (4 ≤ z) && decide (z ≤ 32)
theorem gok_iff {n z : Int} : gokB n z = true ↔ 6 ≤ n ∧ n ≤ 32 ∧ 4 ≤ z ∧ z ≤ 32 := by
  simp only [gokB, Bool.and_eq_true, decide_eq_true_eq]; omega
theorem layCheck_any (n z : Int) (w : World) :
    Calls Try.prog 95 #[ggeo n z] w fun e w' => e = .returned (.int .i64 (if gokB n z then 0 else 4)) ∧ Below w.heap.size w w' := by
  have ways : (∃ _ : Hid (gokB n z = true), ¬ n < 6 ∧ ¬ 32 < n ∧ ¬ z < 4 ∧ ¬ 32 < z) ∨ (∃ _ : Hid (gokB n z = false), n < 6) ∨ (∃ _ : Hid (gokB n z = false), ¬ n < 6 ∧ 32 < n) ∨ (∃ _ : Hid (gokB n z = false), ¬ n < 6 ∧ ¬ 32 < n ∧ z < 4) ∨ (∃ _ : Hid (gokB n z = false), ¬ n < 6 ∧ ¬ 32 < n ∧ ¬ z < 4 ∧ 32 < z) := by
    have h := gok_iff (n := n) (z := z)
    cases hb : gokB n z
    · have : ¬ (6 ≤ n ∧ n ≤ 32 ∧ 4 ≤ z ∧ z ≤ 32) := fun x => by rw [h.2 x] at hb; cases hb
      by_cases h1 : n < 6
      · exact .inr (.inl ⟨hid rfl, h1⟩)
      · by_cases h2 : 32 < n
        · exact .inr (.inr (.inl ⟨hid rfl, h1, h2⟩))
        · by_cases h3 : z < 4
          · exact .inr (.inr (.inr (.inl ⟨hid rfl, h1, h2, h3⟩)))
          · exact .inr (.inr (.inr (.inr ⟨hid rfl, h1, h2, h3, by omega⟩)))
    · have := h.1 hb
      exact .inl ⟨hid rfl, by omega, by omega, by omega, by omega⟩
  rcases ways with ⟨e, h1, h2, h3, h4⟩ | ⟨e, h1⟩ | ⟨e, h1, h2⟩ | ⟨e, h1, h2, h3⟩ | ⟨e, h1, h2, h3, h4⟩
  all_goals
    rw [e.out]
    clear e
    go_enter Try.func95, Try.ntmps95
    go_wp2
    go_ret
    exact ⟨rfl, (Below.refl _ _).alloc (Nat.le_refl _) _⟩

/-- A head's text. -/
def headT (n z : Int) : List UInt8 := leB n.toNat 1 ++ leB z.toNat 1
theorem headT_length (n z : Int) : (headT n z).length = 2 := by simp [headT, leB_length]
def supL (n z : Int) : List UInt8 := if gokB n z then sealB 1 ⟨0, 0, 0⟩ (headT n z) else []
def supC (n z : Int) : Int := if gokB n z then 0 else 4

set_option maxRecDepth 100000 in
set_option maxHeartbeats 4000000 in
theorem superPut_any (n z : Int) (w : World) :
    Calls Try.prog 64 #[ggeo n z] w fun e w' => ∃ v, e = .returned (.tuple #[v, .int .i64 (supC n z)]) ∧ Fresh w w' v (supL n z) := by
  obtain ⟨W0, hW0⟩ : ∃ W0, w.alloc (.cells #[.int .i64 n, .int .i64 z] 101) = W0 := ⟨_, rfl⟩
  have hb0 : Below w.heap.size w W0 := by rw [← hW0]; exact (Below.refl _ _).alloc (Nat.le_refl _) _
  have BX : Blk W0 w.heap.size #[.int .i64 n, .int .i64 z] := by rw [← hW0]; exact Blk.new w _ _
  have KC := fun w => layCheck_any n z w
  have HBX := hid BX
  replace hb0 := hid hb0
  unfold supC supL
  cases hg : gokB n z with
  | false =>
    rw [hg] at KC
    simp only [Bool.false_eq_true, if_false] at KC ⊢
    replace KC := hid KC
    clear BX hg
    obtain ⟨lx, kx, fx⟩ := HBX.out
    go_enter Try.func64, Try.ntmps64
    go_wp2_with fail
    refine (KC.out _).mono ?_
    rintro e w1 ⟨rfl, hb1⟩
    have E := hid (below2 hb0.out hb1 hb0.out.size)
    clear hb1
    go_wp2_with fail
    go_ret2
    exact ⟨_, rfl, Fresh.none E.out⟩
  | true =>
    obtain ⟨n1, n2, z1, z2⟩ := gok_iff.1 hg
    rw [hg] at KC
    simp only [if_true] at KC ⊢
    replace KC := hid KC
    have KN := hid (fun w => ws_new 2 2 rfl w)
    have hT := hid (show headT n z = [] ++ leB n.toNat 1 ++ leB z.toNat 1 by simp [headT])
    have KS := fun (a : Option Addr) (c : Nat) w O => seal_ok 1 ⟨0, 0, 0⟩ (headT n z) a c (by decide) (by rw [headT_length]; omega) w O
    unfold SealPost at KS
    have hfit : stFits 1 ⟨0, 0, 0⟩ := by decide
    rw [headT_length, show sealC 1 ⟨0, 0, 0⟩ 2 = 0 from by decide, show sealL 1 ⟨0, 0, 0⟩ (headT n z) = sealB 1 ⟨0, 0, 0⟩ (headT n z) by unfold sealL; rw [if_pos ⟨hfit, by rw [headT_length]; omega⟩]] at KS
    replace KS := hid KS
    have hTl := hid (headT_length n z)
    clear BX hg hfit
    obtain ⟨lx, kx, fx⟩ := HBX.out
    go_enter Try.func64, Try.ntmps64
    go_wp2_with fail
    refine (KC.out _).mono ?_
    rintro e w1 ⟨rfl, hb1⟩
    have HB1 := hid (HBX.out.more hb1)
    have D1 := hid (below2 hb0.out hb1 hb0.out.size)
    clear hb1 lx kx fx HBX hb0 hW0 KC
    obtain ⟨lx, kx, fx⟩ := HB1.out
    go_wp2_with fail
    refine (KN.out _).mono ?_
    rintro e w2 ⟨rfl, S⟩
    have HB := hid (fun (wx : World) (m : List UInt8) (S : WS w1 w1.heap.size 2 wx m) => HB1.out.below S.below HB1.out.lt)
    have HW := hid (fun (wx : World) (m : List UInt8) (S : WS w1 w1.heap.size 2 wx m) => D1.out.trans (S.below.mono D1.out.size))
    clear lx kx fx
    obtain ⟨lx, kx, fx⟩ := HB.out _ _ S
    have K := hid (ws_num S (by omega) (by omega) n 1 1 rfl (by omega) (by omega) (by simp))
    replace S := hid S
    go_wp2_with fail
    refine K.out.mono ?_
    rintro e w3 ⟨rfl, S3⟩
    clear lx kx fx K S
    obtain ⟨lx, kx, fx⟩ := HB.out _ _ S3
    have K := hid (ws_num S3 (by omega) (by omega) z 1 1 rfl (by omega) (by omega) (by simp [leB_length]))
    replace S3 := hid S3
    go_wp2_with fail
    refine K.out.mono ?_
    rintro e w4 ⟨rfl, S4⟩
    rw [← hT.out] at S4
    have KD := hid (ws_done S4 (by rw [headT_length]; omega))
    clear lx kx fx K S3 S4
    go_wp2_with fail
    refine KD.out.mono ?_
    rintro e w5 ⟨v, rfl, ⟨xa, xc, rfl, OX, hb5⟩, S5⟩
    have X5 := hid (Octs.of_own OX)
    have D5 := hid (HW.out _ _ S5)
    rw [hTl.out]
    clear OX hb5 S5 KD
    go_wp2_with fail
    refine (KS.out xa xc _ X5.out).mono ?_
    rintro e w6 ⟨v, rfl, ya, yc, rfl, OY, hb6⟩
    have E := hid (show Fresh w w6 (.slice ya (sealB 1 ⟨0, 0, 0⟩ (headT n z)).length yc) (sealB 1 ⟨0, 0, 0⟩ (headT n z)) from ⟨ya, yc, rfl, own_base OY D5.out.size, below2 D5.out hb6 D5.out.size⟩)
    clear OY hb6
    go_wp2_with fail
    go_ret2
    exact ⟨_, rfl, E.out⟩

/-- Is it a head? -/
def supB (l : List UInt8) : Bool := goodB l && (openK l == 1 && (stEq (openS l).e (openS l).s (openS l).a 0 0 0 && (decide ((openT l).length = 2) && gokB (byteAt (openT l) 0) (byteAt (openT l) 1))))
def supN (l : List UInt8) : Int := if supB l then byteAt (openT l) 0 else 0
def supZ (l : List UInt8) : Int := if supB l then byteAt (openT l) 1 else 0
def supE (l : List UInt8) : Int := if supB l then 0 else 16
def SupPost (l : List UInt8) (w : World) (e : Ending) (w' : World) : Prop := e = .returned (.tuple #[ggeo (supN l) (supZ l), .int .i64 (supE l)]) ∧ Below w.heap.size w w'

set_option maxRecDepth 100000 in
set_option maxHeartbeats 8000000 in
theorem superRead_any (l : List UInt8) (a : Option Addr) (cap : Nat) (h1 : l.length ≤ cap) (h2 : cap ≤ maxLen) (w : World) (O : Octs w a l) :
    Calls Try.prog 65 #[.slice a l.length cap] w (SupPost l w) := by
  obtain ⟨W0, hW0⟩ : ∃ W0, w.alloc (.cells #[.int .i64 0, .int .i64 0] 101) = W0 := ⟨_, rfl⟩
  have hb0 : Below w.heap.size w W0 := by rw [← hW0]; exact (Below.refl _ _).alloc (Nat.le_refl _) _
  have BX : Blk W0 w.heap.size #[.int .i64 0, .int .i64 0] := by rw [← hW0]; exact Blk.new w _ _
  have KO := fopen_any l a cap h1 h2 W0 (O.more hb0)
  unfold OpenPost at KO
  have EB : Hid (∀ w', supB l = false → Below w.heap.size w w' → SupPost l w (.returned (.tuple #[.agg #[.int .i64 0, .int .i64 0], .int .i64 16])) w') := hid (fun w' hs hb => by
    refine ⟨?_, hb⟩
    unfold supN supZ supE
    rw [hs]; rfl)
  have EG : Hid (∀ w', supB l = true → Below w.heap.size w w' → SupPost l w (.returned (.tuple #[.agg #[.int .i64 (byteAt (openT l) 0), .int .i64 (byteAt (openT l) 1)], .int .i64 0])) w') := hid (fun w' hs hb => by
    refine ⟨?_, hb⟩
    unfold supN supZ supE
    rw [hs]; rfl)
  have hB : Hid (supB l = (goodB l && (openK l == 1 && (stEq (openS l).e (openS l).s (openS l).a 0 0 0 && (decide ((openT l).length = 2) && gokB (byteAt (openT l) 0) (byteAt (openT l) 1)))))) := hid rfl
  have hE : Hid (openE l = if goodB l then 0 else 16) := hid rfl
  have hT238 : Hid ((openT l).length ≤ 255) := hid (by
    unfold openT
    have := txtN_lt l
    by_cases h : goodB l = true
    · rw [if_pos h, List.length_take]; omega
    · rw [if_neg h]; simp)
  have HBX := hid BX
  replace hb0 := hid hb0
  generalize goodB l = G at *
  generalize openK l = K at *
  generalize openS l = S at *
  generalize openT l = T at *
  generalize openE l = E at *
  replace KO := hid KO
  clear BX O h1 h2
  obtain ⟨lx, kx, fx⟩ := HBX.out
  go_enter Try.func65, Try.ntmps65
  go_wp2_with fail
  refine KO.out.mono ?_
  rintro e w1 ⟨v, rfl, V, hb1⟩
  have hbA : Below w1.heap.size w1 (w1.alloc (.cells #[.int .i64 S.e, .int .i64 S.s, .int .i64 S.a] 75)) := (Below.refl _ _).alloc (Nat.le_refl _) _
  have BS := Blk.new w1 #[.int .i64 S.e, .int .i64 S.s, .int .i64 S.a] 75
  have hb1' := below2 hb1 hbA hb1.size
  have HB1 := hid (HBX.out.more hb1')
  have HB0 := hid (HBX.out.more hb1)
  have D0 := hid (below2 hb0.out hb1 hb0.out.size)
  have D1 := hid (below2 hb0.out hb1' hb0.out.size)
  have V1 := V.more hbA
  have hgl : w.heap.size < w1.heap.size := Nat.lt_of_lt_of_le HBX.out.lt hb1.size
  clear hb1 hbA hb1' V lx kx fx HBX hb0 hW0 KO
  obtain ⟨ls, ks, fs⟩ := BS
  obtain ⟨ta, tc, rfl, OT, tc1, _⟩ := V1
  replace OT := hid OT
  obtain ⟨lx, kx, fx⟩ := HB0.out
  have hTl := hT238.out
  have HBx := HB1
  have Dx := D1
  cases hG : G with
  | false =>
    subst hG
    have hbad := hid (show supB l = false by rw [hB.out]; rfl)
    rw [hE.out, if_neg (by simp)]
    go_wp2_with fail
    have B2 := (Blk.fill [.int .i64 0, .int .i64 0] 0 HB0.out (by simp)).alloc (.cells #[.int .i64 S.e, .int .i64 S.s, .int .i64 S.a] 75)
    have hb2 := hid ((below_fill (b := w.heap.size) (Nat.le_refl _) [.int .i64 0, .int .i64 0] 0 D0.out).alloc (by rw [size_setAll]; exact D0.out.size) (.cells #[.int .i64 S.e, .int .i64 S.s, .int .i64 S.a] 75))
    show bodyPost _ _ _ _ _ ((setAll w1 w.heap.size 0 [.int .i64 0, .int .i64 0]).alloc (.cells #[.int .i64 S.e, .int .i64 S.s, .int .i64 S.a] 75))
    generalize (setAll w1 w.heap.size 0 _).alloc _ = w7x at *
    obtain ⟨l7, k7, f7⟩ := B2
    refine bodyPost_ret (v := .tuple #[.agg #[.int .i64 0, .int .i64 0], .int .i64 16]) (by simp [results, Try.results65, go_sem, k7, fillC]) rfl ?_
    exact EB.out w7x hbad.out hb2.out
  | true =>
    subst hG
    rw [hE.out, if_pos rfl]
    cases hk : (K == 1) with
    | false =>
      have hbad := hid (show supB l = false by rw [hB.out, hk]; rfl)
      have hk' : (K != 1) = true := by simp [bne, hk]
      clear hk
      go_wp2_with fail
      have B2 := (Blk.fill [.int .i64 0, .int .i64 0] 0 HB0.out (by simp)).alloc (.cells #[.int .i64 S.e, .int .i64 S.s, .int .i64 S.a] 75)
      have hb2 := hid ((below_fill (b := w.heap.size) (Nat.le_refl _) [.int .i64 0, .int .i64 0] 0 D0.out).alloc (by rw [size_setAll]; exact D0.out.size) (.cells #[.int .i64 S.e, .int .i64 S.s, .int .i64 S.a] 75))
      show bodyPost _ _ _ _ _ ((setAll w1 w.heap.size 0 [.int .i64 0, .int .i64 0]).alloc (.cells #[.int .i64 S.e, .int .i64 S.s, .int .i64 S.a] 75))
      generalize (setAll w1 w.heap.size 0 _).alloc _ = w7x at *
      obtain ⟨l7, k7, f7⟩ := B2
      refine bodyPost_ret (v := .tuple #[.agg #[.int .i64 0, .int .i64 0], .int .i64 16]) (by simp [results, Try.results65, go_sem, k7, fillC]) rfl ?_
      exact EB.out w7x hbad.out hb2.out
    | true =>
      obtain rfl : K = 1 := by simpa using hk
      cases hs : stEq S.e S.s S.a 0 0 0 with
      | false =>
        have hbad := hid (show supB l = false by rw [hB.out, hs]; rfl)
        clear hk
        go_wp2_with fail
        have B2 := (Blk.fill [.int .i64 0, .int .i64 0] 0 HB0.out (by simp)).alloc (.cells #[.int .i64 S.e, .int .i64 S.s, .int .i64 S.a] 75)
        have hb2 := hid ((below_fill (b := w.heap.size) (Nat.le_refl _) [.int .i64 0, .int .i64 0] 0 D0.out).alloc (by rw [size_setAll]; exact D0.out.size) (.cells #[.int .i64 S.e, .int .i64 S.s, .int .i64 S.a] 75))
        show bodyPost _ _ _ _ _ ((setAll w1 w.heap.size 0 [.int .i64 0, .int .i64 0]).alloc (.cells #[.int .i64 S.e, .int .i64 S.s, .int .i64 S.a] 75))
        generalize (setAll w1 w.heap.size 0 _).alloc _ = w7x at *
        obtain ⟨l7, k7, f7⟩ := B2
        refine bodyPost_ret (v := .tuple #[.agg #[.int .i64 0, .int .i64 0], .int .i64 16]) (by simp [results, Try.results65, go_sem, k7, fillC]) rfl ?_
        exact EB.out w7x hbad.out hb2.out
      | true =>
        by_cases ht : T.length = 2
        · have hB2 := hid (show supB l = gokB (byteAt T 0) (byteAt T 1) by rw [hB.out, hs, ht]; rfl)
          have c0 := byteAt_lt T 0
          have c1 := byteAt_lt T 1
          have KOp := hid (fun wx O => rs_open T ta tc wx O (by omega))
          have n0 : numOf (T.take 1) = byteAt T 0 := one_at T 0 (by omega)
          have n1 : numOf ((T.drop 1).take 1) = byteAt T 1 := one_at T 1 (by omega)
          rw [ht] at KOp ⊢
          have tc2 : (2 : Int) ≤ (tc : Int) := by omega
          clear hk hB hTl
          go_wp2_with fail
          refine (KOp.out _ OT.out).mono ?_
          rintro e w2 ⟨q, rfl, hq, R2, hb2⟩
          have hq2 : w.heap.size < q := by rw [World.size_alloc] at hq; omega
          have HB2 := HB1.out.more hb2
          have D2 := below2 D1.out hb2 D1.out.size
          have K1 := rs_nums 1 1 rfl q T w2 R2 (by omega)
          rw [n0] at K1
          replace K1 := hid K1
          replace HB2 := hid HB2
          replace D2 := hid D2
          clear lx kx fx ls ks fs hb2 hq OT KOp R2
          go_wp2_with fail
          refine K1.out.mono ?_
          rintro e w3 ⟨rfl, R3, S3⟩
          have HB3 := hid (HB2.out.sole S3 (fun h => by have h' : w.heap.size = q := h; omega))
          have D3 := hid (D2.out.trans (S3.below (B := w.heap.size) D2.out.size fun i hi => by omega))
          have K2 := rs_nums 1 1 rfl q (T.drop 1) w3 R3 (by rw [List.length_drop]; omega)
          rw [n1] at K2
          replace K2 := hid K2
          clear K1 S3 HB2 D2 R3
          go_wp2_with fail
          refine K2.out.mono ?_
          rintro e w4 ⟨rfl, R4, S4⟩
          have HB4 := hid (HB3.out.sole S4 (fun h => by have h' : w.heap.size = q := h; omega))
          have D4 := hid (D3.out.trans (S4.below (B := w.heap.size) D3.out.size fun i hi => by omega))
          clear K2 S4 HB3 D3 R4 n0 n1
          generalize byteAt T 0 = x0 at *
          generalize byteAt T 1 = x1 at *
          have hbG : Below w4.heap.size w4 (w4.alloc (.cells #[.int .i64 x0, .int .i64 x1] 101)) := (Below.refl _ _).alloc (Nat.le_refl _) _
          have BG := Blk.new w4 #[.int .i64 x0, .int .i64 x1] 101
          have HB5 := hid (HB4.out.more hbG)
          have D5 := hid (below2 D4.out hbG D4.out.size)
          have hg4 : w.heap.size < w4.heap.size := HB4.out.lt
          have HBG := hid BG
          obtain ⟨lg, kg, fg⟩ := BG
          have KC := fun w => layCheck_any (x0 : Int) (x1 : Int) w
          clear hbG HB4 D4
          cases hgk : gokB (x0 : Int) (x1 : Int) with
          | false =>
            rw [hgk] at hB2 KC
            have hbad := hB2
            simp only [Bool.false_eq_true, if_false] at KC
            replace KC := hid KC
            go_wp2_with fail
            refine (KC.out _).mono ?_
            rintro e w6 ⟨rfl, hb6⟩
            have HBx := hid (HB5.out.more hb6)
            have Dx := hid (below2 D5.out hb6 D5.out.size)
            clear hb6 lg kg fg
            obtain ⟨lx, kx, fx⟩ := HBx.out
            go_wp2_with fail
            have B2 := Blk.fill [.int .i64 0, .int .i64 0] 0 HBx.out (by simp)
            have hb2 := hid (below_fill (b := w.heap.size) (Nat.le_refl _) [.int .i64 0, .int .i64 0] 0 Dx.out)
            show bodyPost _ _ _ _ _ (setAll w6 w.heap.size 0 [.int .i64 0, .int .i64 0])
            generalize setAll w6 w.heap.size 0 _ = w7x at *
            obtain ⟨l7, k7, f7⟩ := B2
            refine bodyPost_ret (v := .tuple #[.agg #[.int .i64 0, .int .i64 0], .int .i64 16]) (by simp [results, Try.results65, go_sem, k7, fillC]) rfl ?_
            exact EB.out w7x hbad.out hb2.out
          | true =>
            rw [hgk] at hB2 KC
            simp only [if_true] at KC
            replace KC := hid KC
            go_wp2_with fail
            refine (KC.out _).mono ?_
            rintro e w6 ⟨rfl, hb6⟩
            have HBx := hid (HB5.out.more hb6)
            have HGx := hid (HBG.out.more hb6)
            have Dx := hid (below2 D5.out hb6 D5.out.size)
            clear hb6 lg kg fg
            obtain ⟨lx, kx, fx⟩ := HBx.out
            obtain ⟨lg, kg, fg⟩ := HGx.out
            go_wp2_with fail
            have B2 := Blk.fill [.int .i64 x0, .int .i64 x1] 0 HBx.out (by simp)
            have hb2 := hid (below_fill (b := w.heap.size) (Nat.le_refl _) [.int .i64 x0, .int .i64 x1] 0 Dx.out)
            show bodyPost _ _ _ _ _ (setAll w6 w.heap.size 0 [.int .i64 x0, .int .i64 x1])
            generalize setAll w6 w.heap.size 0 _ = w7x at *
            obtain ⟨l7, k7, f7⟩ := B2
            refine bodyPost_ret (v := .tuple #[.agg #[.int .i64 x0, .int .i64 x1], .int .i64 0]) (by simp [results, Try.results65, go_sem, k7, fillC]) rfl ?_
            exact EG.out w7x hB2.out hb2.out
        · have hbad := hid (show supB l = false by rw [hB.out, hs, decide_eq_false ht]; rfl)
          have ht' : ((T.length : Int) != 2) = true := by simp; omega
          have hTI : (T.length : Int) ≤ 255 := by omega
          clear hk ht hTl
          go_wp2_with fail
          have B2 := (Blk.fill [.int .i64 0, .int .i64 0] 0 HB0.out (by simp)).alloc (.cells #[.int .i64 S.e, .int .i64 S.s, .int .i64 S.a] 75)
          have hb2 := hid ((below_fill (b := w.heap.size) (Nat.le_refl _) [.int .i64 0, .int .i64 0] 0 D0.out).alloc (by rw [size_setAll]; exact D0.out.size) (.cells #[.int .i64 S.e, .int .i64 S.s, .int .i64 S.a] 75))
          show bodyPost _ _ _ _ _ ((setAll w1 w.heap.size 0 [.int .i64 0, .int .i64 0]).alloc (.cells #[.int .i64 S.e, .int .i64 S.s, .int .i64 S.a] 75))
          generalize (setAll w1 w.heap.size 0 _).alloc _ = w7x at *
          obtain ⟨l7, k7, f7⟩ := B2
          refine bodyPost_ret (v := .tuple #[.agg #[.int .i64 0, .int .i64 0], .int .i64 16]) (by simp [results, Try.results65, go_sem, k7, fillC]) rfl ?_
          exact EB.out w7x hbad.out hb2.out
end Go.Proofs.Ytgnnikjpnmalmaa
