/-
  poly.between and poly.on: is a place on a side?
-/
import Derived.Test.YtahdhgaoofpefaaPolyLaw
namespace Go.Proofs.Ytahdhgaoofpefaa
open Go.RowKit
set_option linter.unusedVariables false
set_option linter.unusedSimpArgs false

/-- A place. -/
structure P2 where
  x : Int
  y : Int
def P2.ok (p : P2) : Prop := 0 ≤ p.x ∧ p.x ≤ 4294967295 ∧ 0 ≤ p.y ∧ p.y ≤ 4294967295
abbrev pl (p : P2) : Value := plc p.x p.y
def tn (a b c : P2) : Int := turnI a.x a.y b.x b.y c.x c.y
def btw (n a b : Int) : Int := min (max n (min a b)) (max a b)
def onB (a b p : P2) : Bool := ((p.x == btw p.x a.x b.x) && (p.y == btw p.y a.y b.y)) && (tn a b p == 0)

theorem turn2 (a b p : P2) (ha : a.ok) (hb : b.ok) (hp : p.ok) (w : World) : Calls Try.prog 45 #[pl a, pl b, pl p] w fun e w' => e = .returned (.int .i64 (tn a b p)) ∧ Below w.heap.size w w' :=
  turn_any a.x a.y b.x b.y p.x p.y ha.1 ha.2.1 ha.2.2.1 ha.2.2.2 hb.1 hb.2.1 hb.2.2.1 hb.2.2.2 hp.1 hp.2.1 hp.2.2.1 hp.2.2.2 w
theorem of2 (id : Int) (p : P2) (d : Value) (w : World) : Calls Try.prog 50 #[pt id p.x p.y d] w fun e w' => e = .returned (pl p) ∧ Below w.heap.size w w' := of_any id p.x p.y d w

theorem pbetween_any (n a b : Int) (w : World) : Calls Try.prog 51 #[.int .u32 n, .int .u32 a, .int .u32 b] w fun e w' => e = .returned (.int .u32 (btw n a b)) ∧ w' = w := by
  unfold btw
  go_enter Try.func51, Try.ntmps51
  go_wp2
  go_ret
  exact ⟨rfl, rfl⟩

def eq2 (a b a' b' : Int) : Bool := (a == a') && (b == b')
@[go_sem high] theorem eql_plc (a b a' b' : Int) (w : World) : (binOp .eql 82 (.agg #[.int .u32 a, .int .u32 b]) (.agg #[.int .u32 a', .int .u32 b'])).run Try.prog w = .ok (.bool (eq2 a b a' b')) w := by
  rw [run_eql_struct]
  by_cases h1 : a = a' <;> by_cases h2 : b = b' <;> simp [go_sem, eq2, h1, h2]

set_option maxRecDepth 100000 in
set_option maxHeartbeats 4000000 in
theorem on_any (a b p : P2) (ha : a.ok) (hb : b.ok) (hp : p.ok) (w : World) : Calls Try.prog 43 #[pl a, pl b, pl p] w fun e w' => e = .returned (.bool (onB a b p)) ∧ Below w.heap.size w w' := by
  have K1 := hid (fun w => pbetween_any p.x a.x b.x w)
  have K2 := hid (fun w => pbetween_any p.y a.y b.y w)
  have KT := hid (fun w => turn2 a b p ha hb hp w)
  have ways : (eq2 p.x p.y (btw p.x a.x b.x) (btw p.y a.y b.y) = false ∧ onB a b p = false) ∨ (eq2 p.x p.y (btw p.x a.x b.x) (btw p.y a.y b.y) = true ∧ (tn a b p == 0) = true ∧ onB a b p = true) ∨ (eq2 p.x p.y (btw p.x a.x b.x) (btw p.y a.y b.y) = true ∧ (tn a b p == 0) = false ∧ onB a b p = false) := by
    unfold onB eq2
    cases (p.x == btw p.x a.x b.x) && (p.y == btw p.y a.y b.y) <;> cases tn a b p == 0 <;> simp
  clear ha hb hp
  generalize btw p.x a.x b.x = m at *
  generalize btw p.y a.y b.y = n at *
  generalize tn a b p = t at *
  generalize onB a b p = r at *
  obtain ⟨ax, ay⟩ := a
  obtain ⟨bx, by'⟩ := b
  obtain ⟨px, py⟩ := p
  simp only at *
  rcases ways with ⟨g1, rfl⟩ | ⟨g1, g2, rfl⟩ | ⟨g1, g2, rfl⟩
  all_goals
    go_enter Try.func43, Try.ntmps43
    go_wp2_with fail
    obtain ⟨B0, B1, B2, H⟩ := @boxed3 w _ #[.int .u32 ax, .int .u32 ay] #[.int .u32 bx, .int .u32 by'] #[.int .u32 px, .int .u32 py] 82 82 82 (Below.refl _ _)
    generalize ((w.alloc (.cells #[.int .u32 ax, .int .u32 ay] 82)).alloc (.cells #[.int .u32 bx, .int .u32 by'] 82)).alloc (.cells #[.int .u32 px, .int .u32 py] 82) = W at B0 B1 B2 H ⊢
    have q0 := fun u : Later W => u.blk B0
    have q1 := fun u : Later W => u.blk B1
    have q2 := fun u : Later W => u.blk B2
    have H1 := hid H
    clear H B0 B1 B2
    refine wp_region_late 24 (by kernel_rfl) (by kernel_rfl) ?_
    simp only [List.take_succ_cons, List.take_zero, List.drop_succ_cons, List.drop_zero]
    repeat (quiet_step (first
      | (go_at_call 51; first | (with_reducible exact late_same (K1.out _)) | (with_reducible exact late_same (K2.out _)))
      | (go_at_call 45; (with_reducible exact late_call (KT.out _)))))
    refine wpQuiet_nil ?_
    intro w3 h3'
    have h3 := late_out h3'
    clear h3'
    go_wp2
    go_ret
    exact ⟨rfl, H1.out.trans (h3.mono H1.out.size)⟩
end Go.Proofs.Ytahdhgaoofpefaa
