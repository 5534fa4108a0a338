/-
  Layer 41: what both laws of Cover want: the nearest number, no window, a good cell.
-/
import Derived.Test.YtdepmoocjnmbeaaTilesGCover
import Derived.Test.YtdepmoocjnmbeaaTilesAlive
namespace Go.Proofs.Ytdepmoocjnmbeaa
open Go.RowKit
set_option linter.unusedVariables false
set_option linter.unusedSimpArgs false

set_option maxRecDepth 100000 in
theorem near_val (m : Int) (w : World) : Calls Try.prog 7 #[.int .i64 m] w fun e w' => e = .returned (.int .i64 (min (max m 1) 20)) ∧ w' = w := by
  obtain ⟨k, hk⟩ : ∃ k, min (max m 1) 20 = k := ⟨_, rfl⟩
  rw [hk]
  go_enter Try.func7, Try.ntmps7
  go_wp2
  go_ret
  exact ⟨rfl, rfl⟩
set_option maxRecDepth 100000 in
/-- No window, no cells. -/
theorem cover_none (r : Rc) (h : emptyB r.a r.b r.c r.d = true) (most : Int) (w : World) :
    Calls Try.prog 8 #[r.v, .int .i64 most] w fun e w' => e = .returned (.slice none 0 0) ∧ Below w.heap.size w w' := by
  have KE := fun w => empty_any r.a r.b r.c r.d w
  rw [h] at KE
  replace KE := hid KE
  have b1 := tbelow_one w (.cells #[.int .u32 r.a, .int .u32 r.b, .int .u32 r.c, .int .u32 r.d] 24)
  have b2 := tbelow_one (w.alloc (.cells #[.int .u32 r.a, .int .u32 r.b, .int .u32 r.c, .int .u32 r.d] 24)) (.cells #[.int .i64 most] 3)
  have BR := hid ((Blk.new w #[.int .u32 r.a, .int .u32 r.b, .int .u32 r.c, .int .u32 r.d] 24).more b2)
  have D0 := hid (below2 b1 b2 b1.size)
  clear b1 b2 h
  obtain ⟨lr, mr, fr⟩ := BR.out
  go_enter Try.func8, Try.ntmps8
  go_wp2_with fail
  refine (KE.out _).mono ?_
  rintro e w1 ⟨rfl, hb1⟩
  have D1 := hid (below2 D0.out hb1 D0.out.size)
  clear hb1
  go_wp2_with fail
  go_ret
  exact ⟨rfl, D1.out⟩
theorem check_ok {c : Cl} (h : okC c) (w : World) : Calls Try.prog 11 #[cl c.x c.y c.l] w fun e w' => e = .returned (.int .i64 0) ∧ Below w.heap.size w w' := by
  have K := checkc_any c.x c.y c.l h.x0 h.x1 h.y0 h.y1 w
  have e : chkC c.x c.y c.l = 0 := by
    unfold chkC
    rw [h.lv, h.fx, h.fy]
    simp [eq3]
  rw [e] at K
  exact K

end Go.Proofs.Ytdepmoocjnmbeaa
