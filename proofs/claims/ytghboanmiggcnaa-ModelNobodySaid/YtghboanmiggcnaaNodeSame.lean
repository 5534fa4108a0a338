/-
  The document's own: are two nodes alike?
-/
import Derived.Test.YtghboanmiggcnaaNodeDef
import Derived.Test.YtghboanmiggcnaaSlices
import Derived.Deep.QuietTactic
import Derived.BigQuiet
namespace Go.Proofs.Ytghboanmiggcnaa
open Go.RowKit
set_option linter.unusedVariables false
set_option linter.unusedSimpArgs false

def eqP (i x y : Int) (d : ByteArray) (i' x' y' : Int) (d' : ByteArray) : Bool := decide (i = i') && (decide (x = x') && (decide (y = y') && (d.toList == d'.toList)))
@[go_sem high] theorem eql_pt (i x y i' x' y' : Int) (d d' : ByteArray) (w : World) : (binOp .eql 53 (.agg #[.int .i64 i, .int .u32 x, .int .u32 y, .string d]) (.agg #[.int .i64 i', .int .u32 x', .int .u32 y', .string d'])).run Try.prog w = .ok (.bool (eqP i x y d i' x' y' d')) w := by
  rw [run_eql_struct]
  by_cases h1 : i = i' <;> by_cases h2 : x = x' <;> by_cases h3 : y = y' <;> cases h4 : (d.toList == d'.toList) <;> simp [go_sem, eqP, h1, h2, h3, h4]
@[go_sem high] theorem neq_pt (i x y i' x' y' : Int) (d d' : ByteArray) (w : World) : (binOp .neq 53 (.agg #[.int .i64 i, .int .u32 x, .int .u32 y, .string d]) (.agg #[.int .i64 i', .int .u32 x', .int .u32 y', .string d'])).run Try.prog w = .ok (.bool (!eqP i x y d i' x' y' d')) w := by
  rw [run_neq_struct]
  by_cases h1 : i = i' <;> by_cases h2 : x = x' <;> by_cases h3 : y = y' <;> cases h4 : (d.toList == d'.toList) <;> simp [go_sem, eqP, h1, h2, h3, h4]
def ptEq (P Q : Pt) : Bool := eqP P.id P.x P.y P.d Q.id Q.x Q.y Q.d
theorem ptEq_self (P : Pt) : ptEq P P = true := by simp [ptEq, eqP]
def allP (f g : Nat → Pt) : Nat → Bool
  | 0 => true
  | k + 1 => allP f g k && ptEq (f k) (g k)
theorem allP_bad (f g : Nat → Pt) {k : Nat} (h : ptEq (f k) (g k) = false) : ∀ n, k < n → allP f g n = false
  | 0, hk => absurd hk (Nat.not_lt_zero _)
  | n + 1, hk => by
    by_cases e : k = n
    · subst e; simp [allP, h]
    · simp [allP, allP_bad f g h n (by omega)]
theorem allP_self (f g : Nat → Pt) : ∀ n, (∀ i, i < n → g i = f i) → allP f g n = true
  | 0, _ => rfl
  | n + 1, h => by
    simp only [allP]
    rw [allP_self f g n fun i hi => h i (by omega), h n (by omega), ptEq_self]; rfl
def nSame (lf lf' : Bool) (n n' : Nat) (f g : Nat → Pt) (nx nx' : Int) (k k' c c' : Nat → Int) : Bool :=
  (lf == lf') && ((nx == nx') && (eqA (k 0) (k 1) (k 2) (k 3) (k' 0) (k' 1) (k' 2) (k' 3) && (eqA (c 0) (c 1) (c 2) (c 3) (c' 0) (c' 1) (c' 2) (c' 3) && (decide (n = n') && allP f g n))))
theorem eqA_self (a b c d : Int) : eqA a b c d a b c d = true := by simp [eqA]
theorem box2n (w : World) (c c' : Array Value) : ∃ W0, (w.alloc (.cells c 29)).alloc (.cells c' 29) = W0 ∧ Below w.heap.size w W0 ∧ Blk W0 w.heap.size c ∧ Blk W0 (w.heap.size + 1) c' := by
  refine ⟨_, rfl, ((Below.refl _ _).alloc (Nat.le_refl _) _).alloc (by simp) _, (Blk.new w _ _).alloc _, ?_⟩
  have := Blk.new (w.alloc (.cells c 29)) c' 29
  rwa [World.size_alloc] at this

set_option maxRecDepth 100000 in
set_option maxHeartbeats 16000000 in
theorem refSame_any (lf lf' : Bool) (p p' : Option Addr) (n n' cap cap' : Nat) (f g : Nat → Pt) (nx nx' : Int) (k k' c c' : Nat → Int) (h1 : n ≤ cap) (h2 : cap ≤ maxLen) (h3 : n' ≤ cap') (h4 : cap' ≤ maxLen) (w : World) (HR : RowP w p 4 n (fun i => pcells (f i))) (HQ : RowP w p' 4 n' (fun i => pcells (g i))) :
    Calls Try.prog 11 #[ndval lf (.slice p n cap) nx k c, ndval lf' (.slice p' n' cap') nx' k' c'] w fun e w' => e = .returned (.bool (nSame lf lf' n n' f g nx nx' k k' c c')) ∧ Below w.heap.size w w' := by
  obtain ⟨W0, hW0, hb0, BX, BY⟩ := box2n w (ndcells lf (.slice p n cap) nx k c) (ndcells lf' (.slice p' n' cap') nx' k' c')
  have hB : nSame lf lf' n n' f g nx nx' k k' c c' = ((lf == lf') && ((nx == nx') && (eqA (k 0) (k 1) (k 2) (k 3) (k' 0) (k' 1) (k' 2) (k' 3) && (eqA (c 0) (c 1) (c 2) (c 3) (c' 0) (c' 1) (c' 2) (c' 3) && (decide (n = n') && allP f g n))))) := rfl
  have D0 := hid hb0
  have HBX := hid BX
  have HBY := hid BY
  have hR0 := hid HR
  have hQ0 := hid HQ
  unfold maxLen at h2 h4
  generalize nSame lf lf' n n' f g nx nx' k k' c c' = B at *
  clear HR HQ hb0 BX BY
  obtain ⟨lx, kx, fx⟩ := HBX.out
  obtain ⟨ly, ky, fy⟩ := HBY.out
  by_cases g1 : lf = lf'
  rotate_left
  · have g1' : (lf == lf') = false := by simpa using g1
    rw [g1', Bool.false_and] at hB
    replace hB := hid hB
    clear g1
    go_enter Try.func11, Try.ntmps11
    go_wp2_with fail
    go_ret
    exact ⟨by rw [hB.out]; rfl, D0.out⟩
  subst g1
  by_cases g2 : nx = nx'
  rotate_left
  · have g2' : (nx == nx') = false := by simpa using g2
    have g2n : (nx != nx') = true := by simpa using g2
    rw [g2', Bool.false_and, Bool.and_false] at hB
    replace hB := hid hB
    clear g2
    go_enter Try.func11, Try.ntmps11
    go_wp2_with fail
    go_ret
    exact ⟨by rw [hB.out]; rfl, D0.out⟩
  subst g2
  rw [show (lf == lf) = true by simp, show (nx == nx) = true by simp, Bool.true_and, Bool.true_and] at hB
  have n1 : (nx != nx) = false := by simp
  cases g3 : eqA (k 0) (k 1) (k 2) (k 3) (k' 0) (k' 1) (k' 2) (k' 3) with
  | false =>
    rw [g3, Bool.false_and] at hB
    replace hB := hid hB
    go_enter Try.func11, Try.ntmps11
    go_wp2_with fail
    go_ret
    exact ⟨by rw [hB.out]; rfl, D0.out⟩
  | true =>
    cases g4 : eqA (c 0) (c 1) (c 2) (c 3) (c' 0) (c' 1) (c' 2) (c' 3) with
    | false =>
      rw [g3, g4, Bool.false_and, Bool.and_false] at hB
      replace hB := hid hB
      go_enter Try.func11, Try.ntmps11
      go_wp2_with fail
      go_ret
      exact ⟨by rw [hB.out]; rfl, D0.out⟩
    | true =>
      rw [g3, g4, Bool.true_and, Bool.true_and] at hB
      by_cases g5 : n = n'
      rotate_left
      · have g5' : ((n : Int) != (n' : Int)) = true := by simp; omega
        rw [decide_eq_false g5, Bool.false_and] at hB
        replace hB := hid hB
        clear g5
        go_enter Try.func11, Try.ntmps11
        go_wp2_with fail
        go_ret
        exact ⟨by rw [hB.out]; rfl, D0.out⟩
      subst g5
      rw [show decide (n = n) = true by simp, Bool.true_and] at hB
      have n2 : ((n : Int) != (n : Int)) = false := by simp
      replace hB := hid hB
      go_enter Try.func11, Try.ntmps11
      go_wp2_with fail
      go_loopw [5] (fun i wx => ∃ j : Nat, j ≤ n ∧ i = .int .i64 (j : Int) ∧ allP f g j = true ∧ Below W0.heap.size W0 wx) (fun i _ => n - (intOf i).toNat)
      case atStart => exact ⟨0, by omega, rfl, rfl, Below.refl _ _⟩
      case round =>
        obtain ⟨j, hj, rfl, ha, hb⟩ := hrel
        have BX1 := HBX.out.more hb
        have BY1 := HBY.out.more hb
        clear lx kx fx ly ky fy
        obtain ⟨lx, kx, fx⟩ := BX1
        obtain ⟨ly, ky, fy⟩ := BY1
        have D1 := D0.out.trans (hb.mono (by have h := D0.out.size; omega))
        by_cases hlt : j < n
        · obtain ⟨b, o, rfl, R0⟩ := hR0.out.row (by omega)
          obtain ⟨b', o', rfl, Q0⟩ := hQ0.out.row (by omega)
          have R := R0.more D1
          have Q := Q0.more D1
          have z0 := R.at0 hlt (v := .int .i64 (f j).id) rfl
          have z1 := R.at1 hlt (v := .int .u32 (f j).x) rfl
          have z2 := R.at2 hlt (v := .int .u32 (f j).y) rfl
          have z3 := R.at3 hlt (v := .string (f j).d) rfl
          have y0 := Q.at0 hlt (v := .int .i64 (g j).id) rfl
          have y1 := Q.at1 hlt (v := .int .u32 (g j).x) rfl
          have y2 := Q.at2 hlt (v := .int .u32 (g j).y) rfl
          have y3 := Q.at3 hlt (v := .string (g j).d) rfl
          have hst : allP f g (j + 1) = (allP f g j && ptEq (f j) (g j)) := rfl
          have hbad := allP_bad f g (k := j)
          clear R R0 Q Q0
          replace hb := hid hb
          replace D1 := hid D1
          replace hbad := hid hbad
          cases he : ptEq (f j) (g j) with
          | false =>
            have hBf := hid (show B = false by rw [hB.out]; exact hbad.out he n hlt)
            unfold ptEq at he
            replace ha := hid ha
            replace hst := hid hst
            go_wp2_with fail
            go_quiet (fail)
            go_wp2_with fail
            go_ret
            exact ⟨by rw [hBf.out]; rfl, ⟨D1.out.os, D1.out.tape, D1.out.output, D1.out.size, D1.out.block⟩⟩
          | true =>
            rw [he, ha] at hst
            unfold ptEq at he
            replace ha := hid ha
            replace hst := hid hst
            go_wp2_with fail
            go_quiet (fail)
            go_wp2_with fail
            go_roundw
            case rel => exact ⟨j + 1, by omega, by go_num, hst.out, ⟨hb.out.os, hb.out.tape, hb.out.output, hb.out.size, hb.out.block⟩⟩
            case measure => simp [intOf]; omega
        · obtain rfl : j = n := by omega
          have hBt := hid (show B = true by rw [hB.out]; exact ha)
          replace ha := hid ha
          replace hb := hid hb
          replace D1 := hid D1
          go_wp2
          go_ret
          exact ⟨by rw [hBt.out]; rfl, D1.out⟩
end Go.Proofs.Ytghboanmiggcnaa
