/-
  Package node: which nodes may be.
-/
import Derived.Test.YtghboanmiggcnaaNodeDef
import Derived.Test.YtghboanmiggcnaaSlices
import Derived.Test.YtghboanmiggcnaaRegion
import Derived.Deep.QuietTactic
import Derived.BigQuiet
import Derived.Outline
namespace Go.Proofs.Ytghboanmiggcnaa
open Go.RowKit
set_option linter.unusedVariables false
set_option linter.unusedSimpArgs false

theorem less_any (P Q : Pt) (w : World) : Calls Try.prog 71 #[pval P, pval Q] w fun e w' => e = .returned (.bool (decide (P.id < Q.id))) ∧ Below w.heap.size w w' := by
  have hb0 : Below w.heap.size w ((w.alloc (.cells #[.int .i64 P.id, .int .u32 P.x, .int .u32 P.y, .string P.d] 53)).alloc (.cells #[.int .i64 Q.id, .int .u32 Q.x, .int .u32 Q.y, .string Q.d] 53)) := ((Below.refl _ _).alloc (Nat.le_refl _) _).alloc (by simp) _
  go_enter Try.func71, Try.ntmps71
  go_wp2
  go_ret
  exact ⟨rfl, hb0⟩

set_option maxRecDepth 100000 in
set_option maxHeartbeats 8000000 in
theorem other_any (lf : Bool) (p : Option Addr) (n cap : Nat) (nx : Int) (k c : Nat → Int) (h1 : n ≤ cap) (h2 : cap ≤ maxLen) (w : World) :
    Calls Try.prog 55 #[ndval lf (.slice p n cap) nx k c] w fun e w' => e = .returned (.bool (otherB n nx k c)) ∧ Below w.heap.size w w' := by
  have hb0 : Below w.heap.size w (w.alloc (.cells (ndcells lf (.slice p n cap) nx k c) 29)) := (Below.refl _ _).alloc (Nat.le_refl _) _
  have BX := Blk.new w (ndcells lf (.slice p n cap) nx k c) 29
  have D0 := hid hb0
  have HBX := hid BX
  unfold maxLen at h2
  clear hb0 BX
  by_cases g1 : 0 < (n : Int)
  · have hB : otherB n nx k c = false := by unfold otherB; rw [decide_eq_false (show ¬ n = 0 by omega)]; rfl
    go_enter Try.func55, Try.ntmps55
    replace hB := hid hB
    go_wp2_with fail
    go_ret
    exact ⟨by rw [hB.out]; rfl, D0.out⟩
  · obtain rfl : n = 0 := by omega
    by_cases g2 : nx = 0
    · subst g2
      have hB : otherB 0 0 k c = allQ k c 4 := by unfold otherB; simp
      generalize otherB 0 0 k c = B at *
      replace hB := hid hB
      have kf : Hid (∀ q, q < 4 → (ndcells lf (.slice p 0 cap) 0 k c)[3 + q]? = some (.int .i64 (k q))) := hid (fun q hq => by
        match q, hq with
        | 0, _ => rfl
        | 1, _ => rfl
        | 2, _ => rfl
        | 3, _ => rfl)
      have cf : Hid (∀ q, q < 4 → (ndcells lf (.slice p 0 cap) 0 k c)[7 + q]? = some (.int .i64 (c q))) := hid (fun q hq => by
        match q, hq with
        | 0, _ => rfl
        | 1, _ => rfl
        | 2, _ => rfl
        | 3, _ => rfl)
      clear g1
      obtain ⟨lx, kx, fx⟩ := HBX.out
      go_enter Try.func55, Try.ntmps55
      go_wp2_with fail
      go_loopw [15, 3, 4, 5] (fun i z3 z4 z5 wx => ∃ q : Nat, q ≤ 4 ∧ i = .int .i64 (q : Int) ∧ allQ k c q = true ∧ Below (w.alloc (.cells (ndcells lf (.slice p 0 cap) 0 k c) 29)).heap.size (w.alloc (.cells (ndcells lf (.slice p 0 cap) 0 k c) 29)) wx) (fun i _ _ _ _ => 4 - (intOf i).toNat)
      case atStart => exact ⟨0, by omega, rfl, rfl, Below.refl _ _⟩
      case round =>
        obtain ⟨q, hq, rfl, ha, hb⟩ := hrel
        have HB := HBX.out.more hb
        have D1 := hid (below2 D0.out hb D0.out.size)
        clear lx kx fx
        obtain ⟨lx, kx, fx⟩ := HB
        by_cases hlt : q < 4
        · have z0 := (kx (3 + q)).trans (kf.out q hlt)
          have z1 := (kx (7 + q)).trans (cf.out q hlt)
          have ways := quarter_ways (k q) (c q)
          have hbad := hid (fun h => allQ_bad k c (i := q) h 4 hlt)
          have hst : allQ k c (q + 1) = (allQ k c q && goodQ (k q) (c q)) := rfl
          rw [ha, Bool.true_and] at hst
          replace hst := hid hst
          replace hb := hid hb
          generalize k q = kq at *
          generalize c q = cq at *
          clear lx kx fx
          go_wp2_with fail
          go_region
          rcases ways with ⟨hg, g1⟩ | ⟨hg, g1, g2⟩ | ⟨hg, g1, g2, g3⟩ | ⟨hg, g1, g2, g3, g4⟩ | ⟨hg, g1, g2, g3, g4, g5, g6⟩ | ⟨hg, g1, g2, g3, g4, g5, g6⟩ | ⟨hg, g1, g2, g3, g4, g5, g6⟩ | ⟨hg, g1, g2, g3, g4, g5, g6⟩
          iterate 6
           focus
            have hBf := hid (show B = false by rw [hB.out]; exact hbad.out hg)
            replace hg := hid hg
            go_wp2_with fail
            go_ret
            exact ⟨by rw [hBf.out]; rfl, D1.out.drew⟩
          all_goals
            have hs := hid (show allQ k c (q + 1) = true by rw [hst.out, hg])
            replace hg := hid hg
            go_wp2_with fail
            go_roundw
            case rel => exact ⟨q + 1, by omega, by go_num, hs.out, hb.out.drew⟩
            case measure => simp [intOf]; omega
        · obtain rfl : q = 4 := by omega
          have hBt := hid (show B = true by rw [hB.out]; exact ha)
          replace ha := hid ha
          replace hb := hid hb
          go_wp2
          go_ret
          exact ⟨by rw [hBt.out]; rfl, D1.out⟩
    · have hB : otherB 0 nx k c = false := by unfold otherB; rw [decide_eq_false g2]; rfl
      have g2' : (nx != 0) = true := by simpa using g2
      replace hB := hid hB
      go_enter Try.func55, Try.ntmps55
      go_wp2_with fail
      go_ret
      exact ⟨by rw [hB.out]; rfl, D0.out⟩

set_option maxRecDepth 100000 in
set_option maxHeartbeats 16000000 in
theorem leaf_any (lf : Bool) (p : Option Addr) (n cap : Nat) (f : Nat → Pt) (hf : ∀ i, i < n → (f i).ok) (nx : Int) (k c : Nat → Int) (h1 : n ≤ cap) (h2 : cap ≤ maxLen) (w : World) (HR : RowP w p 4 n (fun i => pcells (f i))) :
    Calls Try.prog 54 #[ndval lf (.slice p n cap) nx k c] w fun e w' => e = .returned (.bool (leafB n f nx k c)) ∧ Below w.heap.size w w' := by
  have hb0 : Below w.heap.size w (w.alloc (.cells (ndcells lf (.slice p n cap) nx k c) 29)) := (Below.refl _ _).alloc (Nat.le_refl _) _
  have BX := Blk.new w (ndcells lf (.slice p n cap) nx k c) 29
  have D0 := hid hb0
  have HBX := hid BX
  have HR0 := hid HR
  have HF := hid hf
  have hB : leafB n f nx k c = (decide (n ≤ 4) && (decide (0 ≤ nx) && (decide (nx ≤ 255) && (zeroA k && (zeroA c && allL f n))))) := rfl
  generalize leafB n f nx k c = B at *
  unfold maxLen at h2
  clear hb0 BX HR hf
  by_cases g1 : 4 < (n : Int)
  · rw [decide_eq_false (show ¬ n ≤ 4 by omega), Bool.false_and] at hB
    replace hB := hid hB
    go_enter Try.func54, Try.ntmps54
    go_wp2_with fail
    go_ret
    exact ⟨by rw [hB.out]; rfl, D0.out⟩
  by_cases g2 : nx < 0
  · rw [decide_eq_false (show ¬ 0 ≤ nx by omega), Bool.false_and, Bool.and_false] at hB
    replace hB := hid hB
    replace g1 := decide_eq_false g1
    go_enter Try.func54, Try.ntmps54
    go_wp2_with fail
    go_ret
    exact ⟨by rw [hB.out]; rfl, D0.out⟩
  by_cases g3 : 255 < nx
  · rw [decide_eq_false (show ¬ nx ≤ 255 by omega), Bool.false_and, Bool.and_false, Bool.and_false] at hB
    replace hB := hid hB
    replace g1 := decide_eq_false g1
    replace g2 := decide_eq_false g2
    go_enter Try.func54, Try.ntmps54
    go_wp2_with fail
    go_ret
    exact ⟨by rw [hB.out]; rfl, D0.out⟩
  have n4 : n ≤ 4 := by omega
  rw [decide_eq_true n4, decide_eq_true (show 0 ≤ nx by omega), decide_eq_true (show nx ≤ 255 by omega), Bool.true_and, Bool.true_and, Bool.true_and] at hB
  replace g1 := decide_eq_false g1
  replace g2 := decide_eq_false g2
  replace g3 := decide_eq_false g3
  unfold zeroA at hB
  cases g4 : eqA (k 0) (k 1) (k 2) (k 3) 0 0 0 0 with
  | false =>
    rw [g4, Bool.false_and] at hB
    replace hB := hid hB
    go_enter Try.func54, Try.ntmps54
    go_wp2_with fail
    go_ret
    exact ⟨by rw [hB.out]; rfl, D0.out⟩
  | true =>
    cases g5 : eqA (c 0) (c 1) (c 2) (c 3) 0 0 0 0 with
    | false =>
      rw [g4, g5, Bool.false_and, Bool.and_false] at hB
      replace hB := hid hB
      go_enter Try.func54, Try.ntmps54
      go_wp2_with fail
      go_ret
      exact ⟨by rw [hB.out]; rfl, D0.out⟩
    | true =>
      rw [g4, g5, Bool.true_and, Bool.true_and] at hB
      replace hB := hid hB
      go_enter Try.func54, Try.ntmps54
      go_wp2_with fail
      clear g1 g2 g3 g4 g5
      go_loopw [34, 3, 4] (fun i z3 z4 wx => ∃ q : Nat, q ≤ n ∧ i = .int .i64 (q : Int) ∧ allL f q = true ∧ Below (w.alloc (.cells (ndcells lf (.slice p n cap) nx k c) 29)).heap.size (w.alloc (.cells (ndcells lf (.slice p n cap) nx k c) 29)) wx) (fun i _ _ _ => n - (intOf i).toNat)
      case atStart => exact ⟨0, by omega, rfl, rfl, Below.refl _ _⟩
      case round =>
        obtain ⟨q, hq, rfl, ha, hb⟩ := hrel
        have HB := hid (HBX.out.more hb)
        have D1 := hid (below2 D0.out hb D0.out.size)
        by_cases hlt : q < n
        · obtain ⟨b, o, rfl, R0⟩ := HR0.out.row (by omega)
          have R := R0.more D1.out
          have z0 := R.at0 hlt (v := .int .i64 (f q).id) rfl
          have z1 := R.at1 hlt (v := .int .u32 (f q).x) rfl
          have z2 := R.at2 hlt (v := .int .u32 (f q).y) rfl
          have z3 := R.at3 hlt (v := .string (f q).d) rfl
          have hst : allL f (q + 1) = (allL f q && goodL f q) := rfl
          rw [ha, Bool.true_and] at hst
          have hbad := hid (fun h => allL_bad f (i := q) h n hlt)
          have hok := hid (HF.out q hlt)
          have KC := hid (check_any (f q) (HF.out q hlt))
          have hc := check_may (f q)
          have hgl : goodL f q = (decide (f q).may && (decide (q = 0) || decide ((f (q - 1)).id < (f q).id))) := rfl
          go_wp2_with fail
          generalize hW1 : World.alloc _ (.cells #[.int .i64 (f q).id, .int .u32 (f q).x, .int .u32 (f q).y, .string (f q).d] 53) = W1
          have hbA : Below wr.heap.size wr W1 := by rw [← hW1]; exact (Below.refl _ _).alloc (Nat.le_refl _) _
          have BP : Blk W1 wr.heap.size #[.int .i64 (f q).id, .int .u32 (f q).x, .int .u32 (f q).y, .string (f q).d] := by rw [← hW1]; exact Blk.new _ _ _
          have HB1 := HB.out.more hbA
          have D2 := hid (below2 D1.out hbA D1.out.size)
          have hb2 := hid (below2 hb hbA hb.size)
          have RR := R0.more D2.out
          have q0 := fun u : Later W1 => u.blk BP
          have q1 := fun u : Later W1 => u.blk HB1
          clear hW1 hbA z0 z1 z2 z3 R R0 HB hb
          by_cases hm : (f q).may
          · have hc0 : checkC (f q) = 0 := hc.2 hm
            rw [decide_eq_true hm, Bool.true_and] at hgl
            rw [hc0] at KC
            by_cases hpos : 0 < (q : Int)
            · obtain ⟨j, hj⟩ : ∃ j, q = j + 1 := ⟨q - 1, by omega⟩
              have uq : IntKind.i64.wrap ((q : Int) - 1) = (j : Int) := by rw [IntWalk.i64_in _ (by omega)]; omega
              have hjn : j < n := by omega
              have hp2 : 0 < q := by omega
              rw [decide_eq_false (show ¬ q = 0 by omega), Bool.false_or, show q - 1 = j by omega] at hgl
              have y0 := RR.at0 hjn (v := .int .i64 (f j).id) rfl
              have y1 := RR.at1 hjn (v := .int .u32 (f j).x) rfl
              have y2 := RR.at2 hjn (v := .int .u32 (f j).y) rfl
              have y3 := RR.at3 hjn (v := .string (f j).d) rfl
              have q2 := fun u : Later W1 => (u.cell b (o + j * 4) RR.lt).trans y0
              have q3 := fun u : Later W1 => (u.cell b (o + j * 4 + 1) RR.lt).trans y1
              have q4 := fun u : Later W1 => (u.cell b (o + j * 4 + 2) RR.lt).trans y2
              have q5 := fun u : Later W1 => (u.cell b (o + j * 4 + 3) RR.lt).trans y3
              have KL := hid (less_any (f j) (f q))
              replace hj := hid hj
              rw [hgl] at hst
              replace hgl := hid hgl
              replace hc0 := hid hc0
              replace ha := hid ha
              clear hc hm y0 y1 y2 y3 RR
              cases hlq : decide ((f j).id < (f q).id) with
              | true =>
                rw [hlq] at hst KL
                have hs := hid hst
                clear hst hlq
                refine wp_region_late 17 (by kernel_rfl) (by kernel_rfl) ?_
                simp only [List.take_succ_cons, List.take_zero, List.drop_succ_cons, List.drop_zero]
                repeat (go_big_quiet_step ((first | (go_at_call 36; (with_reducible exact late_call (KC.out _))) | (go_at_call 71; (with_reducible exact late_call (KL.out _))))))
                refine wpQuiet_nil ?_
                intro w7 h7'
                have h7 := late_out h7'
                have hb7 := hid (below2 hb2.out h7 hb2.out.size)
                clear h7' h7 q0 q1 q2 q3 q4 q5
                go_wp2_with fail
                go_roundw
                case rel => exact ⟨q + 1, by omega, by go_num, hs.out, hb7.out⟩
                case measure => simp [intOf]; omega
              | false =>
                rw [hlq] at hgl KL
                have hBf := hid (show B = false by rw [hB.out]; exact hbad.out hgl.out)
                clear hst hlq hgl
                refine wp_region_late 17 (by kernel_rfl) (by kernel_rfl) ?_
                simp only [List.take_succ_cons, List.take_zero, List.drop_succ_cons, List.drop_zero]
                repeat (go_big_quiet_step ((first | (go_at_call 36; (with_reducible exact late_call (KC.out _))) | (go_at_call 71; (with_reducible exact late_call (KL.out _))))))
                refine wpQuiet_nil ?_
                intro w7 h7'
                have h7 := late_out h7'
                have D7 := hid (below2 D2.out h7 D2.out.size)
                clear h7' h7 q0 q1 q2 q3 q4 q5
                go_wp2_with fail
                go_ret
                exact ⟨by rw [hBf.out]; rfl, D7.out⟩
            · have q00 : q = 0 := by omega
              rw [show (decide (q = 0) || decide ((f (q - 1)).id < (f q).id)) = true by simp [q00]] at hgl
              have hs := hid (show allL f (q + 1) = true by rw [hst, hgl])
              have hp' : decide (0 < (q : Int)) = false := decide_eq_false hpos
              have hp2 : decide (0 < q) = false := decide_eq_false (by omega)
              replace q00 := hid q00
              replace hst := hid hst
              replace hgl := hid hgl
              replace hc0 := hid hc0
              replace ha := hid ha
              clear hc hm hpos RR
              refine wp_region_late 17 (by kernel_rfl) (by kernel_rfl) ?_
              simp only [List.take_succ_cons, List.take_zero, List.drop_succ_cons, List.drop_zero]
              repeat (go_big_quiet_step (((go_at_call 36; (with_reducible exact late_call (KC.out _))))))
              refine wpQuiet_nil ?_
              intro w7 h7'
              have h7 := late_out h7'
              have hb7 := hid (below2 hb2.out h7 hb2.out.size)
              clear h7' h7 q0 q1
              go_wp2_with fail
              go_roundw
              case rel => exact ⟨q + 1, by omega, by go_num, hs.out, hb7.out⟩
              case measure => simp [intOf]; omega
          · have hcn : (checkC (f q) != 0) = true := by
              have : checkC (f q) ≠ 0 := fun h => hm (hc.1 h)
              simpa using this
            rw [decide_eq_false hm, Bool.false_and] at hgl
            have hBf := hid (show B = false by rw [hB.out]; exact hbad.out hgl)
            generalize checkC (f q) = C at *
            replace hgl := hid hgl
            replace hst := hid hst
            replace ha := hid ha
            clear hc hm RR
            refine wp_region_late 17 (by kernel_rfl) (by kernel_rfl) ?_
            simp only [List.take_succ_cons, List.take_zero, List.drop_succ_cons, List.drop_zero]
            repeat (go_big_quiet_step (((go_at_call 36; (with_reducible exact late_call (KC.out _))))))
            refine wpQuiet_nil ?_
            intro w7 h7'
            have h7 := late_out h7'
            have D7 := hid (below2 D2.out h7 D2.out.size)
            clear h7' h7 q0 q1
            go_wp2_with fail
            go_ret
            exact ⟨by rw [hBf.out]; rfl, D7.out⟩
        · obtain rfl : q = n := by omega
          have hBt := hid (show B = true by rw [hB.out]; exact ha)
          replace ha := hid ha
          replace hb := hid hb
          go_wp2
          go_ret
          exact ⟨by rw [hBt.out]; rfl, D1.out⟩
end Go.Proofs.Ytghboanmiggcnaa
