/-
  Package batch: Same; the law's own.
-/
import Derived.Test.YtgnnikjpnmalmaaBatch
import Derived.Deep.QuietTactic
import Derived.BigQuiet
namespace Go.Proofs.Ytgnnikjpnmalmaa
open Go.RowKit
set_option linter.unusedVariables false
set_option linter.unusedSimpArgs false

def enEq (a b a' b' : Int) : Bool := decide (a = a') && decide (b = b')
@[go_sem high] theorem eql_en (a b a' b' : Int) (w : World) : (binOp .eql 93 (.agg #[.int .i64 a, .int .i64 b]) (.agg #[.int .i64 a', .int .i64 b'])).run Try.prog w = .ok (.bool (enEq a b a' b')) w := by
  rw [run_eql_struct]
  by_cases h1 : a = a' <;> by_cases h2 : b = b' <;> simp [go_sem, enEq, h1, h2]
@[go_sem high] theorem neq_en (a b a' b' : Int) (w : World) : (binOp .neq 93 (.agg #[.int .i64 a, .int .i64 b]) (.agg #[.int .i64 a', .int .i64 b'])).run Try.prog w = .ok (.bool (!enEq a b a' b')) w := by
  rw [run_neq_struct]
  by_cases h1 : a = a' <;> by_cases h2 : b = b' <;> simp [go_sem, enEq, h1, h2]
def allE (f g : Nat → En) : Nat → Bool
  | 0 => true
  | k + 1 => allE f g k && enEq (f k).k (f k).i (g k).k (g k).i
theorem allE_bad (f g : Nat → En) {k : Nat} (h : enEq (f k).k (f k).i (g k).k (g k).i = false) : ∀ n, k < n → allE f g n = false
  | 0, hk => absurd hk (Nat.not_lt_zero _)
  | n + 1, hk => by
    by_cases e : k = n
    · subst e; simp [allE, h]
    · simp [allE, allE_bad f g h n (by omega)]
def bSame (nx nx' : Int) (la la' : Bool) (n n' : Nat) (f g : Nat → En) : Bool := (nx == nx') && ((la == la') && ((decide (n = n')) && allE f g n))

set_option maxRecDepth 100000 in
set_option maxHeartbeats 4000000 in
theorem bsame_law (nx nx' : Int) (la la' : Bool) (p p' : Option Addr) (n n' cap cap' : Nat) (f g : Nat → En) (h1 : n ≤ cap) (h2 : cap ≤ maxLen) (h3 : n' ≤ cap') (h4 : cap' ≤ maxLen) (w : World) (HR : RowP w p 2 n (fun i => ecells (f i))) (HQ : RowP w p' 2 n' (fun i => ecells (g i))) :
    Calls Try.prog 61 #[smval nx la p n cap, smval nx' la' p' n' cap'] w fun e w' => e = .returned (.bool (bSame nx nx' la la' n n' f g)) ∧ Below w.heap.size w w' := by
  obtain ⟨W0, hW0⟩ : ∃ W0, (w.alloc (.cells (smcells nx la p n cap) 90)).alloc (.cells (smcells nx' la' p' n' cap') 90) = W0 := ⟨_, rfl⟩
  have hb0 : Below w.heap.size w W0 := by rw [← hW0]; exact ((Below.refl _ _).alloc (Nat.le_refl _) _).alloc (by simp) _
  have BX : Blk W0 w.heap.size (smcells nx la p n cap) := by rw [← hW0]; exact (Blk.new w _ _).alloc _
  have BY : Blk W0 (w.heap.size + 1) (smcells nx' la' p' n' cap') := by
    rw [← hW0]
    have := Blk.new (w.alloc (.cells (smcells nx la p n cap) 90)) (smcells nx' la' p' n' cap') 90
    rwa [World.size_alloc] at this
  have hB : bSame nx nx' la la' n n' f g = ((nx == nx') && ((la == la') && ((decide (n = n')) && allE f g n))) := rfl
  have hR0 := hid HR
  have hQ0 := hid HQ
  have D0 := hid hb0
  have HBX := hid BX
  have HBY := hid BY
  unfold maxLen at h2 h4
  generalize bSame nx nx' la la' n n' f g = B at *
  clear HR HQ hb0 BX BY
  obtain ⟨lx, kx, fx⟩ := HBX.out
  obtain ⟨ly, ky, fy⟩ := HBY.out
  cases hnx : (nx == nx') with
  | false =>
    rw [hnx] at hB
    replace hB := hid hB
    have hnx' : (nx != nx') = true := by simp [bne, hnx]
    clear hnx
    go_enter Try.func61, Try.ntmps61
    go_wp2_with fail
    go_ret
    exact ⟨by rw [hB.out]; rfl, D0.out⟩
  | true =>
    obtain rfl : nx = nx' := by simpa using hnx
    cases hla : (la == la') with
    | false =>
      rw [hla] at hB
      replace hB := hid hB
      have hn2 : (nx != nx) = false := by simp
      clear hnx
      go_enter Try.func61, Try.ntmps61
      go_wp2_with fail
      go_ret
      exact ⟨by rw [hB.out]; simp, D0.out⟩
    | true =>
      obtain rfl : la = la' := by simpa using hla
      by_cases hn : n = n'
      · subst hn
        have hB2 := hid (show B = allE f g n by rw [hB]; simp)
        have hn2 : (nx != nx) = false := by simp
        have hl2 : (la != la) = false := by simp
        clear hla hnx hB
        go_enter Try.func61, Try.ntmps61
        go_wp2_with fail
        go_loopw [5] (fun i wx => ∃ k : Nat, k ≤ n ∧ i = .int .i64 (k : Int) ∧ allE f g k = true ∧ Below W0.heap.size W0 wx) (fun i _ => n - (intOf i).toNat)
        case atStart => exact ⟨0, by omega, rfl, rfl, Below.refl _ _⟩
        case round =>
          obtain ⟨k, hk, rfl, ha, hb⟩ := hrel
          have BX1 := HBX.out.more hb
          have BY1 := HBY.out.more hb
          clear lx kx fx ly ky fy
          obtain ⟨lx, kx, fx⟩ := BX1
          obtain ⟨ly, ky, fy⟩ := BY1
          have D1 := D0.out.trans (hb.mono (by have h := D0.out.size; omega))
          by_cases hlt : k < n
          · obtain ⟨b, o, rfl, R0⟩ := hR0.out.row (by omega)
            obtain ⟨b', o', rfl, Q0⟩ := hQ0.out.row (by omega)
            have R := R0.more D1
            have Q := Q0.more D1
            have z0 := R.at0 hlt (v := .int .i64 (f k).k) rfl
            have z1 := R.at1 hlt (v := .int .i64 (f k).i) rfl
            have y0 := Q.at0 hlt (v := .int .i64 (g k).k) rfl
            have y1 := Q.at1 hlt (v := .int .i64 (g k).i) rfl
            have hst : allE f g (k + 1) = (allE f g k && enEq (f k).k (f k).i (g k).k (g k).i) := rfl
            have hbad := allE_bad f g (k := k)
            clear R R0 Q Q0
            replace hb := hid hb
            replace D1 := hid D1
            replace hbad := hid hbad
            cases he : enEq (f k).k (f k).i (g k).k (g k).i with
            | false =>
              have hBf := hid (show B = false by rw [hB2.out]; exact hbad.out he n hlt)
              replace ha := hid ha
              replace hst := hid hst
              go_wp2_with fail
              go_quiet (fail)
              go_wp2_with fail
              go_ret
              exact ⟨by rw [hBf.out]; rfl, ⟨D1.out.os, D1.out.tape, D1.out.output, D1.out.size, D1.out.block⟩⟩
            | true =>
              rw [he, ha] at hst
              replace ha := hid ha
              replace hst := hid hst
              go_wp2_with fail
              go_quiet (fail)
              go_wp2_with fail
              go_roundw
              case rel => exact ⟨k + 1, by omega, by go_num, hst.out, ⟨hb.out.os, hb.out.tape, hb.out.output, hb.out.size, hb.out.block⟩⟩
              case measure => simp [intOf]; omega
          · obtain rfl : k = n := by omega
            have hBt := hid (show B = true by rw [hB2.out]; exact ha)
            replace ha := hid ha
            replace hb := hid hb
            replace D1 := hid D1
            go_wp2
            go_ret
            exact ⟨by rw [hBt.out]; rfl, D1.out⟩
      · have hn3 : ((n : Int) != (n' : Int)) = true := by simp; omega
        have hB2 := hid (show B = false by rw [hB, decide_eq_false hn]; simp)
        have hn2 : (nx != nx) = false := by simp
        have hl2 : (la != la) = false := by simp
        clear hla hnx hB hn
        go_enter Try.func61, Try.ntmps61
        go_wp2_with fail
        go_ret
        exact ⟨by rw [hB2.out]; rfl, D0.out⟩

set_option maxRecDepth 100000 in
set_option maxHeartbeats 4000000 in
theorem eqEntries_any (p p' : Option Addr) (n n' cap cap' : Nat) (f g : Nat → En) (h1 : n ≤ cap) (h2 : cap ≤ maxLen) (h3 : n' ≤ cap') (h4 : cap' ≤ maxLen) (w : World) (HR : RowP w p 2 n (fun i => ecells (f i))) (HQ : RowP w p' 2 n' (fun i => ecells (g i))) :
    Calls Try.prog 94 #[.slice p n cap, .slice p' n' cap'] w fun e w' => e = .returned (.bool (decide (n = n') && allE f g n)) ∧ Below w.heap.size w w' := by
  have hR0 := hid HR
  have hQ0 := hid HQ
  unfold maxLen at h2 h4
  clear HR HQ
  by_cases hn : n = n'
  · subst hn
    have hB2 := hid (show (decide (n = n) && allE f g n) = allE f g n by simp)
    generalize (decide (n = n) && allE f g n) = B at *
    go_enter Try.func94, Try.ntmps94
    go_wp2_with fail
    go_loopw [5, 13] (fun z i wx => ∃ k : Nat, k ≤ n ∧ i = .int .i64 (k : Int) ∧ allE f g k = true ∧ Below w.heap.size w wx) (fun _ i _ => n - (intOf i).toNat)
    case atStart => exact ⟨0, by omega, rfl, rfl, Below.refl _ _⟩
    case round =>
      obtain ⟨k, hk, rfl, ha, hb⟩ := hrel
      by_cases hlt : k < n
      · obtain ⟨b, o, rfl, R0⟩ := hR0.out.row (by omega)
        obtain ⟨b', o', rfl, Q0⟩ := hQ0.out.row (by omega)
        have R := R0.more hb
        have Q := Q0.more hb
        have z0 := R.at0 hlt (v := .int .i64 (f k).k) rfl
        have z1 := R.at1 hlt (v := .int .i64 (f k).i) rfl
        have y0 := Q.at0 hlt (v := .int .i64 (g k).k) rfl
        have y1 := Q.at1 hlt (v := .int .i64 (g k).i) rfl
        have hst : allE f g (k + 1) = (allE f g k && enEq (f k).k (f k).i (g k).k (g k).i) := rfl
        have hbad := hid (allE_bad f g (k := k))
        clear R R0 Q Q0
        replace hb := hid hb
        cases he : enEq (f k).k (f k).i (g k).k (g k).i with
        | false =>
          have hBf := hid (show B = false by rw [hB2.out]; exact hbad.out he n hlt)
          replace ha := hid ha
          replace hst := hid hst
          go_wp2_with fail
          go_quiet (fail)
          go_wp2_with fail
          go_ret
          exact ⟨by rw [hBf.out]; rfl, ⟨hb.out.os, hb.out.tape, hb.out.output, hb.out.size, hb.out.block⟩⟩
        | true =>
          rw [he, ha] at hst
          replace ha := hid ha
          replace hst := hid hst
          go_wp2_with fail
          go_quiet (fail)
          go_wp2_with fail
          go_roundw
          case rel => exact ⟨k + 1, by omega, by go_num, hst.out, ⟨hb.out.os, hb.out.tape, hb.out.output, hb.out.size, hb.out.block⟩⟩
          case measure => simp [intOf]; omega
      · obtain rfl : k = n := by omega
        have hBt := hid (show B = true by rw [hB2.out]; exact ha)
        replace ha := hid ha
        replace hb := hid hb
        go_wp2
        go_ret
        exact ⟨by rw [hBt.out]; rfl, hb.out⟩
  · have hn3 : ((n : Int) != (n' : Int)) = true := by simp; omega
    have hB2 := hid (show (decide (n = n') && allE f g n) = false by rw [decide_eq_false hn]; rfl)
    clear hn
    go_enter Try.func94, Try.ntmps94
    go_wp2_with fail
    go_ret
    exact ⟨by rw [hB2.out]; rfl, Below.refl _ _⟩

set_option maxRecDepth 100000 in
set_option maxHeartbeats 4000000 in
theorem bsame_any (nx nx' : Int) (la la' : Bool) (p p' : Option Addr) (n n' cap cap' : Nat) (f g : Nat → En) (h1 : n ≤ cap) (h2 : cap ≤ maxLen) (h3 : n' ≤ cap') (h4 : cap' ≤ maxLen) (w : World) (HR : RowP w p 2 n (fun i => ecells (f i))) (HQ : RowP w p' 2 n' (fun i => ecells (g i))) :
    Calls Try.prog 60 #[smval nx la p n cap, smval nx' la' p' n' cap'] w fun e w' => e = .returned (.bool (bSame nx nx' la la' n n' f g)) ∧ Below w.heap.size w w' := by
  obtain ⟨W0, hW0⟩ : ∃ W0, (w.alloc (.cells (smcells nx la p n cap) 90)).alloc (.cells (smcells nx' la' p' n' cap') 90) = W0 := ⟨_, rfl⟩
  have hb0 : Below w.heap.size w W0 := by rw [← hW0]; exact ((Below.refl _ _).alloc (Nat.le_refl _) _).alloc (by simp) _
  have BX : Blk W0 w.heap.size (smcells nx la p n cap) := by rw [← hW0]; exact (Blk.new w _ _).alloc _
  have BY : Blk W0 (w.heap.size + 1) (smcells nx' la' p' n' cap') := by
    rw [← hW0]
    have := Blk.new (w.alloc (.cells (smcells nx la p n cap) 90)) (smcells nx' la' p' n' cap') 90
    rwa [World.size_alloc] at this
  have hB : bSame nx nx' la la' n n' f g = ((nx == nx') && ((la == la') && ((decide (n = n')) && allE f g n))) := rfl
  have KE := hid (eqEntries_any p p' n n' cap cap' f g h1 h2 h3 h4 W0 (HR.more hb0) (HQ.more hb0))
  have D0 := hid hb0
  have HBX := hid BX
  have HBY := hid BY
  unfold maxLen at h2 h4
  generalize bSame nx nx' la la' n n' f g = B at *
  clear HR HQ hb0 BX BY
  obtain ⟨lx, kx, fx⟩ := HBX.out
  obtain ⟨ly, ky, fy⟩ := HBY.out
  cases hnx : (nx == nx') with
  | false =>
    rw [hnx] at hB
    replace hB := hid hB
    go_enter Try.func60, Try.ntmps60
    go_wp2_with fail
    go_ret
    exact ⟨by rw [hB.out]; rfl, D0.out⟩
  | true =>
    rw [hnx] at hB
    cases hla : (la == la') with
    | false =>
      rw [hla] at hB
      replace hB := hid hB
      go_enter Try.func60, Try.ntmps60
      go_wp2_with fail
      go_ret
      exact ⟨by rw [hB.out]; simp, D0.out⟩
    | true =>
      rw [hla, Bool.true_and, Bool.true_and] at hB
      rw [← hB] at KE
      clear hB
      go_enter Try.func60, Try.ntmps60
      go_wp2_with fail
      refine KE.out.mono ?_
      rintro e w1 ⟨rfl, hb1⟩
      have D1 := hid (below2 D0.out hb1 D0.out.size)
      clear hb1
      go_wp2_with fail
      go_ret
      exact ⟨rfl, D1.out⟩
end Go.Proofs.Ytgnnikjpnmalmaa
