/-
  Layer 30: CodeJoins.
-/
import Derived.Test.YtngfhbclapadoaaCodeAlive
namespace Go.Proofs.Ytngfhbclapadoaa
open Go.RowKit
set_option linter.unusedVariables false
set_option linter.unusedSimpArgs false

theorem textOf_append (l m : List UInt8) : textOf (l ++ m) = textOf l ++ textOf m := by
  apply ByteArray.ext
  rw [ByteArray.data_append]
  simp

set_option maxRecDepth 100000 in
set_option maxHeartbeats 8000000 in
theorem codejoins_any (A B : List Sp) (pa pb : Option Addr) (ca cb : Nat) (hA : ∀ s ∈ A, s.ok) (a1 : A.length ≤ ca) (a2 : ca ≤ maxLen) (hB : ∀ s ∈ B, s.ok) (b1 : B.length ≤ cb) (b2 : cb ≤ maxLen) (w : World) (RA : RowOf spT w pa A) (TA : ∀ s ∈ A, s.there w) (RB : RowOf spT w pb B) (TB : ∀ s ∈ B, s.there w) :
    Calls Try.prog 7 #[.slice pa A.length ca, .slice pb B.length cb] w fun e w' => e = .returned (.bool true) ∧ Below w.heap.size w w' := by
  have KA := hid (alive30 w)
  have hna : (A.length : Int) ≤ 9223372036854775807 := by unfold maxLen at a2; omega
  have hnb : (B.length : Int) ≤ 9223372036854775807 := by unfold maxLen at b2; omega
  by_cases g1 : 30 < A.length
  · have g1' : decide ((30 : Int) < (A.length : Int)) = true := decide_eq_true (by omega)
    clear hA hB RA TA RB TB
    go_enter Try.func7, Try.ntmps7
    go_wp2_with fail
    refine KA.out.mono ?_
    rintro e W ⟨rfl, hb⟩
    replace hb := hid hb
    go_wp2
    go_ret
    exact ⟨rfl, hb.out⟩
  · have g1' : decide ((30 : Int) < (A.length : Int)) = false := decide_eq_false (by omega)
    by_cases g2 : 30 < B.length
    · have g2' : decide ((30 : Int) < (B.length : Int)) = true := decide_eq_true (by omega)
      clear hA hB RA TA RB TB
      go_enter Try.func7, Try.ntmps7
      go_wp2_with fail
      refine KA.out.mono ?_
      rintro e W ⟨rfl, hb⟩
      replace hb := hid hb
      go_wp2
      go_ret
      exact ⟨rfl, hb.out⟩
    · have g2' : decide ((30 : Int) < (B.length : Int)) = false := decide_eq_false (by omega)
      have KPA := hid (fun (wx : World) (hb : Below w.heap.size w wx) => codeput_any A pa ca hA (by omega) a1 a2 wx (RowOf.more RA hb) (fun s hs => (TA s hs).more hb))
      have KPB := hid (fun (wx : World) (hb : Below w.heap.size w wx) => codeput_any B pb cb hB (by omega) b1 b2 wx (RowOf.more RB hb) (fun s hs => (TB s hs).more hb))
      have KPC := hid (fun (wx : World) (hb : Below w.heap.size w wx) (p : Option Addr) (c : Nat) (h1 : (A ++ B).length ≤ c) (h2 : c ≤ maxLen) (R : RowOf spT wx p (A ++ B)) => codeput_any (A ++ B) p c (fun s hs => (List.mem_append.1 hs).elim (hA s) (hB s)) (by rw [List.length_append]; omega) h1 h2 wx R (fun s hs => (List.mem_append.1 hs).elim (fun h => (TA s h).more hb) (fun h => (TB s h).more hb)))
      have RAh := hid RA
      have RBh := hid RB
      have hEc := hid (spE_append A B)
      have hOc := hid (spO_append A B)
      have la := hid (spO_length A)
      have lb := hid (spO_length B)
      have hAl : A.length ≤ 30 := by omega
      have hBl : B.length ≤ 30 := by omega
      clear hA hB RA TA RB TB
      go_enter Try.func7, Try.ntmps7
      go_wp2_with fail
      refine KA.out.mono ?_
      rintro e W ⟨rfl, hb⟩
      replace hb := hid hb
      clear KA
      go_wp2_with fail
      refine (KPA.out _ hb.out).mono ?_
      rintro e w1 ⟨v1, rfl, F1⟩
      have hb1 := hid (show Below w.heap.size w w1 by obtain ⟨_, _, _, _, h⟩ := F1; exact below2 hb.out h hb.out.size)
      replace F1 := hid F1
      clear KPA
      go_wp2_with fail
      refine (KPB.out _ hb1.out).mono ?_
      rintro e w2 ⟨v2, rfl, F2⟩
      have hb12 := hid (show Below w1.heap.size w1 w2 by obtain ⟨_, _, _, _, h⟩ := F2; exact h)
      have hb2 := hid (below2 hb1.out hb12.out hb1.out.size)
      replace F2 := hid F2
      clear KPB
      have OM := World.ownsRow_made (size := 8) (e := 49) (base := w2.heap.size) w2 #[] 0 (Nat.le_refl _) (Nat.zero_le _) rfl
      have hbn : Below w2.heap.size w2 (w2.alloc (.cells #[] 49)) := Below.alloc (Below.refl _ _) (Nat.le_refl _) _
      obtain ⟨v3, w3, hr3, R3, gr3, mv3⟩ := append_row spOk w2.heap.size 45 (w2.alloc (.cells #[] 49)) _ [] OM pa ca A (RowOf.more (RowOf.more RAh.out hb2.out) hbn) (by show (0 + A.length) * 72 ≤ _; omega) (by unfold maxLen; simp; omega) (by simp)
      have hb3 := Below.grown hbn gr3 (by simp) fun k hk => (OM.lt k hk).1
      rw [List.nil_append] at R3
      obtain ⟨v4, w4, hr4, R4, gr4, mv4⟩ := append_row spOk w2.heap.size 45 w3 v3 A R3 pb cb B (RowOf.more (RowOf.more RBh.out hb2.out) hb3) (by show (A.length + B.length) * 72 ≤ _; omega) (by unfold maxLen; omega) hb3.size
      have hb4 := hid (Below.grown hb3 gr4 hb3.size fun k hk => (R3.within k hk).1)
      have hb40 := hid (hb2.out.trans (hb4.out.mono hb2.out.size))
      obtain ⟨p5, c5, rfl, d1, d2, RC⟩ := R4.open spOk
      have KC := hid (KPC.out w4 hb40.out p5 c5 d1 d2 RC)
      rw [List.length_append] at KC hr4 d1
      clear KPC OM hbn R3 gr3 mv3 hb3 R4 gr4 mv4 RC
      go_wp2_with (first | (at_builtin; refine Lib.wpList_append_run _ rfl _ _ _ _ rfl _ _ rfl rfl _ _ hr3 ?_) | (at_builtin; refine Lib.wpList_append_run _ rfl _ _ _ _ rfl _ _ rfl rfl _ _ hr4 ?_))
      refine KC.out.mono ?_
      rintro e w5 ⟨v5, rfl, F5⟩
      have hb45 := hid (show Below w4.heap.size w4 w5 by obtain ⟨_, _, _, _, h⟩ := F5; exact h)
      have hb5 := hid (below2 hb40.out hb45.out hb40.out.size)
      replace F5 := hid F5
      clear KC hr3 hr4
      have F1' := F1.out
      have F2' := F2.out
      have F5' := F5.out
      rw [hEc.out] at F5' ⊢
      rw [hOc.out] at F5'
      have la' := la.out
      have lb' := lb.out
      generalize spE A = EA at *
      generalize spE B = EB at *
      generalize spO A = XA at *
      generalize spO B = XB at *
      clear F1 F2 F5 hEc hOc la lb RAh RBh
      by_cases ha : EA = 0
      · subst ha
        rw [if_pos rfl] at F1' F5' ⊢
        by_cases hb0 : EB = 0
        · subst hb0
          rw [if_pos rfl] at F2' F5'
          obtain ⟨xa, xc, rfl, OX, _⟩ := F1'
          obtain ⟨ya, yc, rfl, OY, _⟩ := F2'
          obtain ⟨za, zc, rfl, OZ, _⟩ := F5'
          have hb25 := hb4.out.trans (hb45.out.mono hb4.out.size)
          have hb15 := hb12.out.trans (hb25.mono hb12.out.size)
          have k1 := conv_octs (Octs.of_own OZ) zc
          have k2 := conv_octs ((Octs.of_own OX).more hb15) xc
          have k3 := conv_octs ((Octs.of_own OY).more hb25) yc
          rw [textOf_append, List.length_append] at k1
          rw [List.length_append]
          have u1 : IntKind.i64.wrap ((XA.length : Int) + (XB.length : Int)) = (XA.length : Int) + (XB.length : Int) := IntWalk.i64_in _ ⟨by omega, by omega⟩
          have hle : decide ((65536 : Int) < (XA.length : Int) + (XB.length : Int)) = false := decide_eq_false (by omega)
          have hmax : ¬ 9223372036854775807 < XA.length + XB.length := by omega
          clear OX OY OZ hb25 hb15 la' lb'
          go_wp2
          go_ret
          exact ⟨rfl, hb5.out⟩
        · rw [if_neg hb0] at F2' F5'
          have e1 : (EB != 0) = true := by simpa using hb0
          obtain ⟨xa, xc, rfl, OX, _⟩ := F1'
          obtain ⟨ya, yc, rfl, OY, _⟩ := F2'
          obtain ⟨za, zc, rfl, OZ, _⟩ := F5'
          clear OX OY OZ la' lb'
          go_wp2
          go_ret
          exact ⟨rfl, hb5.out⟩
      · rw [if_neg ha] at F1' F5' ⊢
        rw [if_neg ha] at F5'
        have e1 : (EA != 0) = true := by simpa using ha
        generalize (if EB = 0 then XB else []) = YB at F2'
        obtain ⟨xa, xc, rfl, OX, _⟩ := F1'
        obtain ⟨ya, yc, rfl, OY, _⟩ := F2'
        obtain ⟨za, zc, rfl, OZ, _⟩ := F5'
        clear OX OY OZ la' lb'
        go_wp2
        go_ret
        exact ⟨rfl, hb5.out⟩
end Go.Proofs.Ytngfhbclapadoaa
