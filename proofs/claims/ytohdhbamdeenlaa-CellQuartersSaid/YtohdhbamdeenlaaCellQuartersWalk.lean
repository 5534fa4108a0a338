/-
  Layer 4: a cell is its four quarters. The walk of CellQuarters.
-/
import Derived.Test.YtohdhbamdeenlaaCellQuarters
import Derived.Test.YtohdhbamdeenlaaAidMore
import Derived.LoopTactic
import Derived.Deep.DeepCutAuto
namespace Go.Proofs.Ytohdhbamdeenlaa
open Go.RowKit
set_option linter.unusedVariables false
set_option linter.unusedSimpArgs false

set_option maxRecDepth 100000 in
set_option maxHeartbeats 16000000 in
theorem cq_some (cx cy l x y q X Y L X1 Y1 A1 B1 qv : Int) (A B : Int → Int) (hb : Int → Bool) (hc : Bool) (K : Qs X Y L x y q A B hb hc qv X1 Y1 A1 B1) (h0 : 0 ≤ L) (h1 : L < 32) (hL : (L == 32) = false)
    (KA : ∀ w : World, Calls Try.prog 36 #[.int .u32 cx, .int .u32 cy, .int .i64 l] w fun e w' => e = .returned (cl X Y L) ∧ Below w.heap.size w w') (w : World) :
    Calls Try.prog 8 #[cl cx cy l, .int .u32 x, .int .u32 y, .int .i64 q] w fun e w' => e = .returned (.bool true) ∧ Below w.heap.size w w' := by
  replace KA := hid KA
  replace K := hid K
  have l1 : IntKind.i64.wrap (L + 1 - L) = 1 := by rw [show L + 1 - L = 1 by omega]; decide
  go_enter Try.func8, Try.ntmps8
  go_wp2_with fail
  refine (alive4 _).mono ?_
  rintro e w1 ⟨rfl, hb1⟩
  obtain ⟨B0, H⟩ := boxed1 hb1
  have HB0 := hid B0
  have H1 := hid H
  obtain ⟨l0, k0, f0⟩ := B0
  clear hb1 H
  go_wp2_with fail
  refine (KA.out _).mono ?_
  rintro e w2 ⟨rfl, hb2⟩
  have HB1 := hid (HB0.out.more hb2)
  have H2 := hid (below2 H1.out hb2 H1.out.size)
  clear l0 k0 f0 HB0 H1 hb2
  obtain ⟨l0, k0, f0⟩ := HB1.out
  go_wp2_with fail
  have B2 := ((HB1.out.set 0 (.int .u32 X) (by simp)).set 1 (.int .u32 Y) (by simp)).set 2 (.int .i64 L) (by simp)
  have D := Below.setCell (p := ⟨w.heap.size, 2, none⟩) (Below.setCell (p := ⟨w.heap.size, 1, none⟩) (Below.setCell (p := ⟨w.heap.size, 0, none⟩) H2.out (Nat.le_refl _) (.int .u32 X)) (Nat.le_refl _) (.int .u32 Y)) (Nat.le_refl _) (.int .i64 L)
  generalize hW : World.setCell _ _ _ = W
  have HC := hid (show Blk W w.heap.size #[.int .u32 X, .int .u32 Y, .int .i64 L] from by rw [← hW]; exact B2)
  have H3 : Hid (Below w.heap.size w W) := hid (by rw [← hW]; exact D)
  clear hW B2 D l0 k0 f0 HB1 H2
  obtain ⟨l0, k0, f0⟩ := HC.out
  refine (K.out.kid _ _).mono ?_
  rintro e w3 ⟨rfl, hb3⟩
  have HC1 := hid (HC.out.more hb3)
  have H4 := hid (below2 H3.out hb3 H3.out.size)
  clear l0 k0 f0 HC H3 hb3
  obtain ⟨l0, k0, f0⟩ := HC1.out
  have KR2 := hid K.out.rectk
  have LE := hid K.out.le
  have A3 := hid K.out.and3
  generalize hA : A q = Aq at *
  generalize hB : B q = Bq at *
  replace hA := hid hA
  replace hB := hid hB
  go_upto_if 28 with (fail)
  have HK := hid (Blk.new w3 #[.int .u32 Aq, .int .u32 Bq, .int .i64 (L + 1)] 64)
  have HC2 := hid (HC1.out.alloc (.cells #[.int .u32 Aq, .int .u32 Bq, .int .i64 (L + 1)] 64))
  have H5 := hid (Below.alloc H4.out H4.out.size (.cells #[.int .u32 Aq, .int .u32 Bq, .int .i64 (L + 1)] 64))
  generalize w3.alloc (.cells #[.int .u32 Aq, .int .u32 Bq, .int .i64 (L + 1)] 64) = w4 at *
  have hk9 : w.heap.size < w3.heap.size := HC1.out.lt
  generalize w3.heap.size = b9 at *
  clear l0 k0 f0 HC1 H4
  go_wp2_with fail
  go_loopw [10, 11] (fun a b wr => ∃ i : Nat, i ≤ 4 ∧ a = .int .i64 (cnt hb i) ∧ b = .int .i64 (i : Int) ∧ Blk wr w.heap.size #[.int .u32 X, .int .u32 Y, .int .i64 L] ∧ Blk wr b9 #[.int .u32 Aq, .int .u32 Bq, .int .i64 (L + 1)] ∧ Below w.heap.size w wr) (fun _ b _ => 4 - (intOf b).toNat)
  case atStart => exact ⟨0, by omega, rfl, rfl, HC2.out, HK.out, H5.out⟩
  case round =>
    clear HC2 HK H5
    obtain ⟨i, hi, rfl, rfl, RC, RK, RW⟩ := hrel
    have HC := hid RC
    have HK := hid RK
    have H := hid RW
    clear RC RK RW
    have cb := cnt_bd hb i
    by_cases hlt : i < 4
    · obtain ⟨l0, k0, f0⟩ := HC.out
      have cs : cnt hb (i + 1) = cnt hb i + if hb (i : Int) = true then 1 else 0 := rfl
      have CS := hid cs
      clear cs
      go_wp2_with fail
      refine (K.out.kid _ _).mono ?_
      rintro e v1 ⟨rfl, g1⟩
      have HC1 := hid (HC.out.more g1)
      have HK1 := hid (HK.out.more g1)
      have G1 := hid (below2 H.out g1 H.out.size)
      clear l0 k0 f0 HC HK H g1
      go_wp2_with fail
      refine (K.out.has _ _).mono ?_
      rintro e v2 ⟨rfl, g2⟩
      have HC2 := hid (HC1.out.more g2)
      have HK2 := hid (HK1.out.more g2)
      have G2 := hid (below2 G1.out g2 G1.out.size)
      clear HC1 HK1 G1 g2
      cases hh : hb (i : Int)
      all_goals
        have HH := hid hh
        clear hh
        go_wp2_with fail
        go_roundw
        case rel => exact ⟨i + 1, by omega, by (rw [CS.out, HH.out]; try (first | rfl | go_num | simp)), by go_num, HC2.out, HK2.out, G2.out⟩
        case measure => simp [intOf]; omega
    · have : i = 4 := by omega
      subst this
      go_wp2_with fail
      refine wp_region_late_alloc 4 [#[.int .u32 0, .int .u32 0, .int .u32 0, .int .u32 0], #[.int .u32 0, .int .u32 0, .int .u32 0, .int .u32 0]] ?A (by kernel_rfl) (by kernel_rfl) ?hz ?walk ?rest
      case hz =>
        rintro (_ | _ | i) z h
        · simp at h; subst h; exact ⟨_, rfl, rc_makes _ _ _ _⟩
        · simp at h; subst h; exact ⟨_, rfl, rc_makes _ _ _ _⟩
        · simp at h
      case walk =>
        intro S hS hN
        have q0 := fun u : LaterC wr S => LaterC.blk HC.out u
        have q1 := fun u : LaterC wr S => LaterC.blk HK.out u
        simp only [List.take_succ_cons, List.take_zero, List.drop_succ_cons, List.drop_zero]
        repeat (go_big_quiet_step (first
          | (go_at_call 40; (with_reducible exact latec_call hS (K.out.rectc _)))
          | (go_at_call 40; (with_reducible exact latec_call hS (KR2.out _)))))
        refine wpQuiet_nil ?_
        rfl
      case rest =>
        intro β w5 hb5 hnew hne
        obtain ⟨g4, B4⟩ := hnew 0 _ rfl
        obtain ⟨g5, B5⟩ := hnew 1 _ rfl
        have hne := hne 0 1 (by simp) (by simp) (by omega)
        simp only [laid, puts, List.range', List.foldl_cons, List.foldl_nil, List.length_cons, List.length_nil]
        simp only [Nat.add_zero, Nat.reduceAdd] at g4 B4 g5 B5 hne ⊢
        generalize β 4 = p at *
        generalize β 5 = r at *
        have HC1 := HC.out.more hb5
        have HK1 := HK.out.more hb5
        have cC := HC1.lt
        have lC := HC.out.lt
        have lK := HK.out.lt
        have B4' := hid B4
        have B5' := hid B5
        obtain ⟨l4, k4, f4⟩ := B4
        obtain ⟨l5, k5, f5⟩ := B5
        have H5 := below2 H.out hb5 H.out.size
        have sz := H.out.size
        replace HC1 := hid HC1
        replace HK1 := hid HK1
        replace H5 := hid H5
        clear hnew
        go_wp2_with fail
        generalize hW : World.setCell _ _ _ = W6
        have C6 := hid (show Blk W6 w.heap.size #[.int .u32 X, .int .u32 Y, .int .i64 L] from by rw [← hW]; exact Blk.past (by omega) [_, _, _, _] 0 (Blk.past (by omega) [_, _, _, _] 0 HC1.out))
        have K6 := hid (show Blk W6 b9 #[.int .u32 Aq, .int .u32 Bq, .int .i64 (L + 1)] from by rw [← hW]; exact Blk.past (by omega) [_, _, _, _] 0 (Blk.past (by omega) [_, _, _, _] 0 HK1.out))
        have P6 := hid (show Blk W6 p #[.int .u32 X, .int .u32 Y, .int .u32 X1, .int .u32 Y1] from by rw [← hW]; exact Blk.past (by omega) [_, _, _, _] 0 (Blk.fill [_, _, _, _] 0 B4'.out (by simp)))
        have R6 := hid (show Blk W6 r #[.int .u32 Aq, .int .u32 Bq, .int .u32 A1, .int .u32 B1] from by rw [← hW]; exact Blk.fill [_, _, _, _] 0 (Blk.past (by omega) [_, _, _, _] 0 B5'.out) (by simp))
        have H6 := hid (show Below w.heap.size w W6 from by rw [← hW]; exact below_fill (by omega) [_, _, _, _] 0 (below_fill (by omega) [_, _, _, _] 0 H5.out))
        clear hW l4 k4 f4 l5 k5 f5 HC HK H HC1 HK1 H5 B4' B5' hb5 cC lC lK sz g4 g5 hne
        obtain ⟨q1, q2, q3, q4⟩ := LE.out
        have d1 : decide (Aq < X) = false := decide_eq_false (by omega)
        have d2 : decide (X1 < A1) = false := decide_eq_false (by omega)
        have d3 : decide (Bq < Y) = false := decide_eq_false (by omega)
        have d4 : decide (Y1 < B1) = false := decide_eq_false (by omega)
        have e3 := A3.out.1
        have es : eq3 Aq Bq (L + 1) Aq Bq (L + 1) = true := by simp [eq3]
        have KQ := fun w => K.out.kid (q % 4) w
        rw [A3.out.2.1, A3.out.2.2] at KQ
        replace KQ := hid KQ
        have c1 := fun u : Later W6 => u.blk C6.out
        have c2 := fun u : Later W6 => u.blk K6.out
        have c3 := fun u : Later W6 => u.blk P6.out
        have c4 := fun u : Later W6 => u.blk R6.out
        clear q1 q2 q3 q4
        refine wp_region_late 41 (by kernel_rfl) (by kernel_rfl) ?_
        simp only [List.take_succ_cons, List.take_zero, List.drop_succ_cons, List.drop_zero]
        repeat (go_big_quiet_step ((go_at_call 37; (with_reducible exact late_call (KQ.out _)))))
        refine wpQuiet_nil ?_
        intro w7 h7'
        have h7 := late_out h7'
        clear h7' c1 c2 c3 c4 d1 d2 d3 d4 e3 es KQ
        have C7 := hid (C6.out.more h7)
        have H7 := hid (below2 H6.out h7 H6.out.size)
        clear C6 K6 P6 R6 H6 h7
        obtain ⟨l0, k0, f0⟩ := C7.out
        go_wp2_with fail
        refine (K.out.hasc _).mono ?_
        rintro e w8 ⟨rfl, hb8⟩
        have C8 := hid (C7.out.more hb8)
        have H8 := hid (below2 H7.out hb8 H7.out.size)
        clear l0 k0 f0 C7 H7 hb8
        obtain ⟨l0, k0, f0⟩ := C8.out
        rcases K.out.ways with ⟨rfl, hn⟩ | ⟨rfl, hn, hq⟩
        · rw [hn]
          clear hn
          go_wp2
          go_ret
          exact ⟨by simp, H8.out⟩
        · rw [hn]
          replace hq := hid hq
          clear hn
          go_upto_region 18 with (fail)
          clear l0 k0 f0
          have c1 := fun u : Later w8 => u.blk C8.out
          have KH := fun w => K.out.has qv w
          rw [hq.out] at KH
          replace KH := hid KH
          refine wp_region_late 12 (by kernel_rfl) (by kernel_rfl) ?_
          simp only [List.take_succ_cons, List.take_zero, List.drop_succ_cons, List.drop_zero]
          repeat (go_big_quiet_step (first
            | (go_at_call 38; (with_reducible exact late_call (K.out.quarter _)))
            | (go_at_call 37; (with_reducible exact late_call (K.out.kid _ _)))
            | (go_at_call 39; (with_reducible exact late_call (KH.out _)))))
          refine wpQuiet_nil ?_
          intro w9 h9'
          have h9 := late_out h9'
          clear h9' c1
          go_wp2
          go_ret
          exact ⟨by simp, below2 H8.out h9 H8.out.size⟩
end Go.Proofs.Ytohdhbamdeenlaa
