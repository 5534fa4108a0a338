/-
  Package frame: Is; the example of layer 9.
-/
import Derived.Test.YtgnnikjpnmalmaaFrameOpen
import Derived.Test.YtgnnikjpnmalmaaFrameSeal
import Derived.WalkSpells
namespace Go.Proofs.Ytgnnikjpnmalmaa
open Go.RowKit
set_option linter.unusedVariables false
set_option linter.unusedSimpArgs false

def stEq (a b c a' b' c' : Int) : Bool := decide (a = a') && decide (b = b') && decide (c = c')
@[go_sem high] theorem eql_st (a b c a' b' c' : Int) (w : World) : (binOp .eql 75 (.agg #[.int .i64 a, .int .i64 b, .int .i64 c]) (.agg #[.int .i64 a', .int .i64 b', .int .i64 c'])).run Try.prog w = .ok (.bool (stEq a b c a' b' c')) w := by
  rw [run_eql_struct]
  by_cases h1 : a = a' <;> by_cases h2 : b = b' <;> by_cases h3 : c = c' <;> simp [go_sem, stEq, h1, h2, h3]
def isB (l : List UInt8) (kind : Int) (t : Stp) : Bool := goodB l && (openK l == kind && stEq (openS l).e (openS l).s (openS l).a t.e t.s t.a)
theorem stEq_iff (s t : Stp) : stEq s.e s.s s.a t.e t.s t.a = true ↔ s = t := by
  cases s; cases t
  simp [stEq, and_assoc]

set_option maxRecDepth 100000 in
set_option maxHeartbeats 4000000 in
theorem is_any (l : List UInt8) (a : Option Addr) (cap : Nat) (h1 : l.length ≤ cap) (h2 : cap ≤ maxLen) (kind : Int) (t : Stp) (w : World) (O : Octs w a l) :
    Calls Try.prog 54 #[.slice a l.length cap, .int .i64 kind, sval t] w fun e w' => e = .returned (.bool (isB l kind t)) ∧ Below w.heap.size w w' := by
  obtain ⟨W0, hW0⟩ : ∃ W0, w.alloc (.cells (scells t) 75) = W0 := ⟨_, rfl⟩
  have hb0 : Below w.heap.size w W0 := by rw [← hW0]; exact (Below.refl _ _).alloc (Nat.le_refl _) _
  have BX : Blk W0 w.heap.size (scells t) := by rw [← hW0]; exact Blk.new w _ _
  have KO := fopen_any l a cap h1 h2 W0 (O.more hb0)
  unfold OpenPost at KO
  replace KO := hid KO
  have hE : Hid (isB l kind t = (goodB l && (openK l == kind && stEq (openS l).e (openS l).s (openS l).a t.e t.s t.a))) := hid rfl
  have hC : Hid (openE l = if goodB l then 0 else 16) := hid rfl
  have HBX := hid BX
  replace hb0 := hid hb0
  clear BX O h1 h2
  generalize isB l kind t = R at *
  generalize openK l = K at *
  generalize openS l = S at *
  obtain ⟨lx, kx, fx⟩ := HBX.out
  go_enter Try.func54, Try.ntmps54
  go_wp2_with fail
  refine KO.out.mono ?_
  rintro e w1 ⟨v, rfl, _, hb1⟩
  have HB1 := hid (HBX.out.more hb1)
  have D1 := hid (below2 hb0.out hb1 hb0.out.size)
  clear hb1 lx kx fx KO hW0 hb0 HBX
  have D2 := hid (D1.out.alloc D1.out.size (.cells (scells S) 75))
  have hlt : w.heap.size < w1.heap.size := HB1.out.lt
  obtain ⟨lx, kx, fx⟩ := HB1.out
  cases hg : goodB l with
  | false =>
    rw [hg] at hE hC
    rw [hC.out, if_neg (by simp)]
    clear hg
    go_wp2_with fail
    go_ret
    exact ⟨by rw [hE.out]; rfl, D2.out⟩
  | true =>
    rw [hg] at hE hC
    rw [hC.out, if_pos rfl]
    clear hg
    cases hk : (K == kind) with
    | false =>
      rw [hk] at hE
      go_wp2_with fail
      go_ret
      exact ⟨by rw [hE.out]; rfl, D2.out⟩
    | true =>
      rw [hk] at hE
      go_wp2_with fail
      go_ret
      exact ⟨by rw [hE.out]; rfl, D2.out⟩
end Go.Proofs.Ytgnnikjpnmalmaa
