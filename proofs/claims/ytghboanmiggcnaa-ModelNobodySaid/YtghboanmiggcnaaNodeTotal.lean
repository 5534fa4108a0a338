/-
  Package node: Total, Same.
-/
import Derived.Test.YtghboanmiggcnaaNodeSame
import Derived.Test.YtghboanmiggcnaaNodePutAll
namespace Go.Proofs.Ytghboanmiggcnaa
open Go.RowKit
set_option linter.unusedVariables false
set_option linter.unusedSimpArgs false

set_option maxRecDepth 100000 in
set_option maxHeartbeats 4000000 in
theorem eqPts_any (p p' : Option Addr) (n n' cap cap' : Nat) (f g : Nat → Pt) (h1 : n ≤ cap) (h2 : cap ≤ maxLen) (h3 : n' ≤ cap') (h4 : cap' ≤ maxLen) (w : World) (HR : RowP w p 4 n (fun i => pcells (f i))) (HQ : RowP w p' 4 n' (fun i => pcells (g i))) :
    Calls Try.prog 51 #[.slice p n cap, .slice p' n' cap'] w fun e w' => e = .returned (.bool (decide (n = n') && allP f g n)) ∧ Below w.heap.size w w' := by
  have hR0 := hid HR
  have hQ0 := hid HQ
  unfold maxLen at h2 h4
  clear HR HQ
  by_cases hn : n = n'
  · subst hn
    have hB2 := hid (show (decide (n = n) && allP f g n) = allP f g n by simp)
    generalize (decide (n = n) && allP f g n) = B at *
    go_enter Try.func51, Try.ntmps51
    go_wp2_with fail
    go_loopw [5, 13] (fun z i wx => ∃ k : Nat, k ≤ n ∧ i = .int .i64 (k : Int) ∧ allP f g k = true ∧ Below w.heap.size w wx) (fun _ i _ => n - (intOf i).toNat)
    case atStart => exact ⟨0, by omega, rfl, rfl, Below.refl _ _⟩
    case round =>
      obtain ⟨k, hk, rfl, ha, hb⟩ := hrel
      by_cases hlt : k < n
      · obtain ⟨b, o, rfl, R0⟩ := hR0.out.row (by omega)
        obtain ⟨b', o', rfl, Q0⟩ := hQ0.out.row (by omega)
        have R := R0.more hb
        have Q := Q0.more hb
        have z0 := R.at0 hlt (v := .int .i64 (f k).id) rfl
        have z1 := R.at1 hlt (v := .int .u32 (f k).x) rfl
        have z2 := R.at2 hlt (v := .int .u32 (f k).y) rfl
        have z3 := R.at3 hlt (v := .string (f k).d) rfl
        have y0 := Q.at0 hlt (v := .int .i64 (g k).id) rfl
        have y1 := Q.at1 hlt (v := .int .u32 (g k).x) rfl
        have y2 := Q.at2 hlt (v := .int .u32 (g k).y) rfl
        have y3 := Q.at3 hlt (v := .string (g k).d) rfl
        have hst : allP f g (k + 1) = (allP f g k && ptEq (f k) (g k)) := rfl
        have hbad := hid (allP_bad f g (k := k))
        clear R R0 Q Q0
        replace hb := hid hb
        cases he : ptEq (f k) (g k) with
        | false =>
          have hBf := hid (show B = false by rw [hB2.out]; exact hbad.out he n hlt)
          unfold ptEq at he
          replace ha := hid ha
          replace hst := hid hst
          go_wp2_with fail
          go_quiet (fail)
          go_wp2_with fail
          go_ret
          exact ⟨by rw [hBf.out]; rfl, ⟨hb.out.os, hb.out.tape, hb.out.output, hb.out.size, hb.out.block⟩⟩
        | true =>
          rw [he, ha] at hst
          unfold ptEq at he
          replace ha := hid ha
          replace hst := hid hst
          go_wp2_with fail
          go_quiet (fail)
          go_wp2_with fail
          go_roundw
          case rel => exact ⟨k + 1, by omega, by go_num, hst.out, ⟨hb.out.os, hb.out.tape, hb.out.output, hb.out.size, hb.out.block⟩⟩
          case measure => simp [intOf]; omega
      · obtain rfl : k = n := by omega
        have hBt := hid (show B = true by rw [hB2.out]; exact ha)
        replace ha := hid ha
        replace hb := hid hb
        go_wp2
        go_ret
        exact ⟨by rw [hBt.out]; rfl, hb.out⟩
  · have hn3 : ((n : Int) != (n' : Int)) = true := by simp; omega
    have hB2 := hid (show (decide (n = n') && allP f g n) = false by rw [decide_eq_false hn]; rfl)
    clear hn
    go_enter Try.func51, Try.ntmps51
    go_wp2_with fail
    go_ret
    exact ⟨by rw [hB2.out]; rfl, Below.refl _ _⟩

set_option maxRecDepth 100000 in
set_option maxHeartbeats 16000000 in
theorem nsame_any (lf lf' : Bool) (p p' : Option Addr) (n n' cap cap' : Nat) (f g : Nat → Pt) (nx nx' : Int) (k k' c c' : Nat → Int) (h1 : n ≤ cap) (h2 : cap ≤ maxLen) (h3 : n' ≤ cap') (h4 : cap' ≤ maxLen) (w : World) (HR : RowP w p 4 n (fun i => pcells (f i))) (HQ : RowP w p' 4 n' (fun i => pcells (g i))) :
    Calls Try.prog 32 #[ndval lf (.slice p n cap) nx k c, ndval lf' (.slice p' n' cap') nx' k' c'] w fun e w' => e = .returned (.bool (nSame lf lf' n n' f g nx nx' k k' c c')) ∧ Below w.heap.size w w' := by
  obtain ⟨W0, hW0, hb0, BX, BY⟩ := box2n w (ndcells lf (.slice p n cap) nx k c) (ndcells lf' (.slice p' n' cap') nx' k' c')
  have hB : nSame lf lf' n n' f g nx nx' k k' c c' = ((lf == lf') && ((nx == nx') && (eqA (k 0) (k 1) (k 2) (k 3) (k' 0) (k' 1) (k' 2) (k' 3) && (eqA (c 0) (c 1) (c 2) (c 3) (c' 0) (c' 1) (c' 2) (c' 3) && (decide (n = n') && allP f g n))))) := rfl
  have KE := hid (eqPts_any p p' n n' cap cap' f g h1 h2 h3 h4 W0 (HR.more hb0) (HQ.more hb0))
  have D0 := hid hb0
  have HBX := hid BX
  have HBY := hid BY
  unfold maxLen at h2 h4
  generalize nSame lf lf' n n' f g nx nx' k k' c c' = B at *
  clear HR HQ hb0 BX BY
  obtain ⟨lx, kx, fx⟩ := HBX.out
  obtain ⟨ly, ky, fy⟩ := HBY.out
  cases g1 : (lf == lf') with
  | false =>
    rw [g1, Bool.false_and] at hB
    replace hB := hid hB
    go_enter Try.func32, Try.ntmps32
    go_wp2_with fail
    go_ret
    exact ⟨by rw [hB.out]; rfl, D0.out⟩
  | true =>
    cases g2 : (nx == nx') with
    | false =>
      rw [g2, Bool.false_and, Bool.and_false] at hB
      replace hB := hid hB
      go_enter Try.func32, Try.ntmps32
      go_wp2_with fail
      go_ret
      exact ⟨by rw [hB.out]; rfl, D0.out⟩
    | true =>
      rw [g1, g2, Bool.true_and, Bool.true_and] at hB
      cases g3 : eqA (k 0) (k 1) (k 2) (k 3) (k' 0) (k' 1) (k' 2) (k' 3) with
      | false =>
        rw [g3, Bool.false_and] at hB
        replace hB := hid hB
        go_enter Try.func32, Try.ntmps32
        go_wp2_with fail
        go_ret
        exact ⟨by rw [hB.out]; rfl, D0.out⟩
      | true =>
        cases g4 : eqA (c 0) (c 1) (c 2) (c 3) (c' 0) (c' 1) (c' 2) (c' 3) with
        | false =>
          rw [g3, g4, Bool.false_and, Bool.and_false] at hB
          replace hB := hid hB
          go_enter Try.func32, Try.ntmps32
          go_wp2_with fail
          go_ret
          exact ⟨by rw [hB.out]; rfl, D0.out⟩
        | true =>
          rw [g3, g4, Bool.true_and, Bool.true_and] at hB
          rw [← hB] at KE
          clear hB
          go_enter Try.func32, Try.ntmps32
          go_wp2_with fail
          refine KE.out.mono ?_
          rintro e w1 ⟨rfl, hb1⟩
          have D1 := hid (below2 D0.out hb1 D0.out.size)
          clear hb1
          go_wp2_with fail
          go_ret
          exact ⟨rfl, D1.out⟩

end Go.Proofs.Ytghboanmiggcnaa
