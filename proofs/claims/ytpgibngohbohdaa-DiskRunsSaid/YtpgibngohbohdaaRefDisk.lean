/-
  The document's own disk: what it holds; Broken.
-/
import Derived.Test.YtpgibngohbohdaaDiskSettle
import Derived.Test.YtpgibngohbohdaaAidMore
import Derived.Lib.BufferMore
namespace Go.Proofs.Ytpgibngohbohdaa
open Go.RowKit Go.Maps
set_option linter.unusedVariables false
set_option linter.unusedSimpArgs false

def blT : RowT Bool := { ty := 4, sl := 28, sz := 1, bytes := 1, zero := .bool false, cells := fun x => [.bool x], dflt := false }
theorem blOk : blT.Ok := ⟨Try.underlying28, by kernel_rfl, rfl, by decide, fun _ => rfl, fun x u hu => by
  simp [blT] at hu
  rcases hu with rfl; rfl⟩
def rwT : RowT WtS := { ty := 131, sl := 27, sz := 2, bytes := 32, zero := .agg #[.int .i64 0, .slice none 0 0], cells := fun y => [.int .i64 y.at_, .slice y.x.a y.x.l.length y.x.cap], dflt := ⟨0, ⟨none, 0, []⟩⟩ }
theorem rwOk : rwT.Ok := ⟨Try.underlying27, by kernel_rfl, rfl, by decide, fun _ => rfl, fun x u hu => by
  simp [rwT] at hu
  rcases hu with rfl | rfl <;> rfl⟩
/-- The cells of such a disk. -/
abbrev rdv (p0 : Option Addr) (n0 c0 : Nat) (p1 : Option Addr) (n1 c1 : Nat) (p2 : Option Addr) (n2 c2 : Nat) (off : Bool) (cut : Int) (p5 : Option Addr) (n5 c5 : Nat) (fail : Int) : List Value :=
  [.slice p0 n0 c0, .slice p1 n1 c1, .slice p2 n2 c2, .bool off, .int .i64 cut, .slice p5 n5 c5, .int .i64 fail]
theorem rbelow_one (w : World) (o : Obj) : Below w.heap.size w (w.alloc o) := (Below.refl _ _).alloc (Nat.le_refl _) _

/-- Is a call broken, and what is left to fail. -/
def bkB (off : Bool) (fail : Int) : Bool := off || decide (fail = 0)
def bkF (off : Bool) (fail : Int) : Int := if off then fail else if 0 < fail then fail - 1 else if fail = 0 then -1 else fail
set_option maxRecDepth 100000 in
set_option maxHeartbeats 4000000 in
theorem rbroken_any (p0 : Option Addr) (n0 c0 : Nat) (p1 : Option Addr) (n1 c1 : Nat) (p2 : Option Addr) (n2 c2 : Nat) (off : Bool) (cut : Int) (p5 : Option Addr) (n5 c5 : Nat) (fail : Int) (hf : fail ≤ 9223372036854775807) (w : World) :
    Calls Try.prog 34 #[.agg (rdv p0 n0 c0 p1 n1 c1 p2 n2 c2 off cut p5 n5 c5 fail).toArray] w fun e w' => e = .returned (.tuple #[.agg (rdv p0 n0 c0 p1 n1 c1 p2 n2 c2 off cut p5 n5 c5 (bkF off fail)).toArray, .bool (bkB off fail)]) ∧ Below w.heap.size w w' := by
  obtain ⟨W0, hW0⟩ : ∃ W0, (w.alloc (.cells (rdv p0 n0 c0 p1 n1 c1 p2 n2 c2 off cut p5 n5 c5 fail).toArray 31)).alloc (.cells (rdv none 0 0 none 0 0 none 0 0 false 0 none 0 0 0).toArray 31) = W0 := ⟨_, rfl⟩
  have hb0 : Below w.heap.size w W0 := by rw [← hW0]; exact (rbelow_one _ _).trans ((rbelow_one _ _).mono (by simp))
  have B1 : Blk W0 w.heap.size (rdv p0 n0 c0 p1 n1 c1 p2 n2 c2 off cut p5 n5 c5 fail).toArray := by
    rw [← hW0]
    exact (Blk.new w _ _).more (rbelow_one _ _)
  have B2 : Blk W0 (w.heap.size + 1) (rdv none 0 0 none 0 0 none 0 0 false 0 none 0 0 0).toArray := by
    rw [← hW0]
    have := Blk.new (w.alloc (.cells (rdv p0 n0 c0 p1 n1 c1 p2 n2 c2 off cut p5 n5 c5 fail).toArray 31)) (rdv none 0 0 none 0 0 none 0 0 false 0 none 0 0 0).toArray 31
    simpa using this
  have D0 := hid hb0
  have B1h := hid B1
  have B2h := hid B2
  clear hb0
  obtain ⟨l1, m1, f1⟩ := B1
  obtain ⟨l2, m2, f2⟩ := B2
  go_enter Try.func34, Try.ntmps34
  cases off with
  | true =>
    go_wp2
    have B3 := Blk.fill (rdv p0 n0 c0 p1 n1 c1 p2 n2 c2 true cut p5 n5 c5 fail) 0 B2h.out (by simp)
    have D3 := hid (below_fill (b := w.heap.size + 1) (Nat.le_succ _) (rdv p0 n0 c0 p1 n1 c1 p2 n2 c2 true cut p5 n5 c5 fail) 0 D0.out)
    simp only [setAll, Nat.zero_add, Nat.reduceAdd] at B3 D3
    clear hW0 l1 m1 f1 l2 m2 f2 B1h B2h
    generalize World.setCell _ _ _ = W3 at *
    obtain ⟨l9, g9, f9⟩ := B3
    refine bodyPost_ret (v := .tuple #[.agg (rdv p0 n0 c0 p1 n1 c1 p2 n2 c2 true cut p5 n5 c5 fail).toArray, .bool true]) (by simp [results, Try.results34, go_sem, g9, fillC]) rfl ⟨by simp [bkF, bkB], D3.out⟩
  | false =>
    by_cases h1 : 0 < fail
    · have h1' : decide (fail > 0) = true := decide_eq_true h1
      have hw : wrap64 (fail - 1) = fail - 1 := IntWalk.wrap64_in _ ⟨by omega, by omega⟩
      have hne : ¬ fail = 0 := by omega
      have B2s := hid (B2h.out.other ⟨w.heap.size, 6, none⟩ (by simp) (.int .i64 (fail - 1)))
      have D1 := hid (D0.out.trans ((Sole.setCell (S := fun k => k = w.heap.size) W0 (b := w.heap.size) (o := 6) (.int .i64 (fail - 1)) rfl).below (B := w.heap.size) D0.out.size fun k e => by omega))
      go_wp2
      have B3 := Blk.fill (rdv p0 n0 c0 p1 n1 c1 p2 n2 c2 false cut p5 n5 c5 (fail - 1)) 0 B2s.out (by simp)
      have D3 := hid (below_fill (b := w.heap.size + 1) (Nat.le_succ _) (rdv p0 n0 c0 p1 n1 c1 p2 n2 c2 false cut p5 n5 c5 (fail - 1)) 0 D1.out)
      simp only [setAll, Nat.zero_add, Nat.reduceAdd] at B3 D3
      clear hW0 l1 m1 f1 l2 m2 f2 B1h B2h B2s D0 D1
      generalize World.setCell _ _ _ = W3 at *
      obtain ⟨l9, g9, f9⟩ := B3
      refine bodyPost_ret (v := .tuple #[.agg (rdv p0 n0 c0 p1 n1 c1 p2 n2 c2 false cut p5 n5 c5 (fail - 1)).toArray, .bool false]) (by simp [results, Try.results34, go_sem, g9, fillC]) rfl ⟨by simp [bkF, bkB, h1, hne], D3.out⟩
    · have h1' : decide (fail > 0) = false := decide_eq_false h1
      by_cases h2 : fail = 0
      · subst h2
        have B2s := hid (B2h.out.other ⟨w.heap.size, 6, none⟩ (by simp) (.int .i64 (-1)))
        have D1 := hid (D0.out.trans ((Sole.setCell (S := fun k => k = w.heap.size) W0 (b := w.heap.size) (o := 6) (.int .i64 (-1)) rfl).below (B := w.heap.size) D0.out.size fun k e => by omega))
        go_wp2
        have B3 := Blk.fill (rdv p0 n0 c0 p1 n1 c1 p2 n2 c2 false cut p5 n5 c5 (-1)) 0 B2s.out (by simp)
        have D3 := hid (below_fill (b := w.heap.size + 1) (Nat.le_succ _) (rdv p0 n0 c0 p1 n1 c1 p2 n2 c2 false cut p5 n5 c5 (-1)) 0 D1.out)
        simp only [setAll, Nat.zero_add, Nat.reduceAdd] at B3 D3
        clear hW0 l1 m1 f1 l2 m2 f2 B1h B2h B2s D0 D1
        generalize World.setCell _ _ _ = W3 at *
        obtain ⟨l9, g9, f9⟩ := B3
        refine bodyPost_ret (v := .tuple #[.agg (rdv p0 n0 c0 p1 n1 c1 p2 n2 c2 false cut p5 n5 c5 (-1)).toArray, .bool true]) (by simp [results, Try.results34, go_sem, g9, fillC]) rfl ⟨by simp [bkF, bkB], D3.out⟩
      · have h2' : (fail == 0) = false := by rw [beq_eq_false_iff_ne]; exact h2
        go_wp2
        have B3 := Blk.fill (rdv p0 n0 c0 p1 n1 c1 p2 n2 c2 false cut p5 n5 c5 fail) 0 B2h.out (by simp)
        have D3 := hid (below_fill (b := w.heap.size + 1) (Nat.le_succ _) (rdv p0 n0 c0 p1 n1 c1 p2 n2 c2 false cut p5 n5 c5 fail) 0 D0.out)
        simp only [setAll, Nat.zero_add, Nat.reduceAdd] at B3 D3
        clear hW0 l1 m1 f1 l2 m2 f2 B1h B2h D0
        generalize World.setCell _ _ _ = W3 at *
        obtain ⟨l9, g9, f9⟩ := B3
        refine bodyPost_ret (v := .tuple #[.agg (rdv p0 n0 c0 p1 n1 c1 p2 n2 c2 false cut p5 n5 c5 fail).toArray, .bool false]) (by simp [results, Try.results34, go_sem, g9, fillC]) rfl ⟨by simp [bkF, bkB, h2]; omega, D3.out⟩
end Go.Proofs.Ytpgibngohbohdaa
