/-
  poly.Turn: which way it goes, of any three places.
-/
import Derived.Test.YtahdhgaoofpefaaPoly
namespace Go.Proofs.Ytahdhgaoofpefaa
open Go.RowKit
set_option linter.unusedVariables false
set_option linter.unusedSimpArgs false

abbrev plc (x y : Int) : Value := .agg #[.int .u32 x, .int .u32 y]
abbrev pt (id x y : Int) (dv : Value) : Value := .agg #[.int .i64 id, .int .u32 x, .int .u32 y, dv]
def turnI (ax ay bx by' cx cy : Int) : Int := cmpI ((bx - ax) * (cy - ay)) ((by' - ay) * (cx - ax))

theorem of_any (id x y : Int) (dv : Value) (w : World) :
    Calls Try.prog 50 #[pt id x y dv] w fun e w' => e = .returned (plc x y) ∧ Below w.heap.size w w' := by
  go_enter Try.func50, Try.ntmps50
  go_wp2
  go_returns
  exact ⟨rfl, by go_grown⟩

set_option maxRecDepth 100000 in
set_option maxHeartbeats 2000000 in
theorem turn_any (ax ay bx by' cx cy : Int) (h1 : 0 ≤ ax) (h1' : ax ≤ 4294967295) (h2 : 0 ≤ ay) (h2' : ay ≤ 4294967295) (h3 : 0 ≤ bx) (h3' : bx ≤ 4294967295) (h4 : 0 ≤ by') (h4' : by' ≤ 4294967295) (h5 : 0 ≤ cx) (h5' : cx ≤ 4294967295) (h6 : 0 ≤ cy) (h6' : cy ≤ 4294967295) (w : World) :
    Calls Try.prog 45 #[plc ax ay, plc bx by', plc cx cy] w fun e w' => e = .returned (.int .i64 (turnI ax ay bx by' cx cy)) ∧ Below w.heap.size w w' := by
  have K1 := hid (fun w => papart_any ax bx h1 h1' h3 h3' w)
  have K2 := hid (fun w => papart_any ay cy h2 h2' h6 h6' w)
  have K3 := hid (fun w => papart_any ay by' h2 h2' h4 h4' w)
  have K4 := hid (fun w => papart_any ax cx h1 h1' h5 h5' w)
  have KP := hid (fun w => products_any (bx - ax) (cy - ay) (by' - ay) (cx - ax) (by omega) (by omega) (by omega) (by omega) (by omega) (by omega) (by omega) (by omega) w)
  unfold turnI
  generalize cmpI ((bx - ax) * (cy - ay)) ((by' - ay) * (cx - ax)) = r at *
  generalize bx - ax = p1 at *
  generalize cy - ay = p2 at *
  generalize by' - ay = p3 at *
  generalize cx - ax = p4 at *
  clear h1 h1' h2 h2' h3 h3' h4 h4' h5 h5' h6 h6'
  go_enter Try.func45, Try.ntmps45
  go_wp2_with fail
  obtain ⟨B0, B1, B2, H⟩ := @boxed3 w _ #[.int .u32 ax, .int .u32 ay] #[.int .u32 bx, .int .u32 by'] #[.int .u32 cx, .int .u32 cy] 82 82 82 (Below.refl _ _)
  generalize ((w.alloc (.cells #[.int .u32 ax, .int .u32 ay] 82)).alloc (.cells #[.int .u32 bx, .int .u32 by'] 82)).alloc (.cells #[.int .u32 cx, .int .u32 cy] 82) = W at B0 B1 B2 H ⊢
  have q0 := fun u : Later W => u.blk B0
  have q1 := fun u : Later W => u.blk B1
  have q2 := fun u : Later W => u.blk B2
  have H1 := hid H
  clear H B0 B1 B2
  refine wp_region_late 21 (by kernel_rfl) (by kernel_rfl) ?_
  simp only [List.take_succ_cons, List.take_zero, List.drop_succ_cons, List.drop_zero]
  repeat (quiet_step (first
    | (go_at_call 54; first | (with_reducible exact late_same (K1.out _)) | (with_reducible exact late_same (K2.out _)) | (with_reducible exact late_same (K3.out _)) | (with_reducible exact late_same (K4.out _)))
    | (go_at_call 53; (with_reducible exact late_same (KP.out _)))))
  refine wpQuiet_nil ?_
  intro w3 h3'
  have h3 := late_out h3'
  clear h3'
  go_wp2
  go_ret
  exact ⟨rfl, H1.out.trans (h3.mono H1.out.size)⟩

set_option maxHeartbeats 2000000 in
theorem polyTurn_any (ia ib ic ax ay bx by' cx cy : Int) (da db dc : Value) (h1 : 0 ≤ ax) (h1' : ax ≤ 4294967295) (h2 : 0 ≤ ay) (h2' : ay ≤ 4294967295) (h3 : 0 ≤ bx) (h3' : bx ≤ 4294967295) (h4 : 0 ≤ by') (h4' : by' ≤ 4294967295) (h5 : 0 ≤ cx) (h5' : cx ≤ 4294967295) (h6 : 0 ≤ cy) (h6' : cy ≤ 4294967295) (w : World) :
    Calls Try.prog 39 #[pt ia ax ay da, pt ib bx by' db, pt ic cx cy dc] w fun e w' => e = .returned (.int .i64 (turnI ax ay bx by' cx cy)) ∧ Below w.heap.size w w' := by
  have K1 := hid (fun w => of_any ia ax ay da w)
  have K2 := hid (fun w => of_any ib bx by' db w)
  have K3 := hid (fun w => of_any ic cx cy dc w)
  have KT := hid (fun w => turn_any ax ay bx by' cx cy h1 h1' h2 h2' h3 h3' h4 h4' h5 h5' h6 h6' w)
  generalize turnI ax ay bx by' cx cy = r at *
  clear h1 h1' h2 h2' h3 h3' h4 h4' h5 h5' h6 h6'
  go_enter Try.func39, Try.ntmps39
  go_wp2_with fail
  obtain ⟨B0, B1, B2, H⟩ := @boxed3 w _ #[.int .i64 ia, .int .u32 ax, .int .u32 ay, da] #[.int .i64 ib, .int .u32 bx, .int .u32 by', db] #[.int .i64 ic, .int .u32 cx, .int .u32 cy, dc] 63 63 63 (Below.refl _ _)
  generalize ((w.alloc (.cells #[.int .i64 ia, .int .u32 ax, .int .u32 ay, da] 63)).alloc (.cells #[.int .i64 ib, .int .u32 bx, .int .u32 by', db] 63)).alloc (.cells #[.int .i64 ic, .int .u32 cx, .int .u32 cy, dc] 63) = W at B0 B1 B2 H ⊢
  have q0 := fun u : Later W => u.blk B0
  have q1 := fun u : Later W => u.blk B1
  have q2 := fun u : Later W => u.blk B2
  have H1 := hid H
  clear H B0 B1 B2
  refine wp_region_late 7 (by kernel_rfl) (by kernel_rfl) ?_
  simp only [List.take_succ_cons, List.take_zero, List.drop_succ_cons, List.drop_zero]
  repeat (quiet_step (first
    | (go_at_call 50; first | (with_reducible exact late_call (K1.out _)) | (with_reducible exact late_call (K2.out _)) | (with_reducible exact late_call (K3.out _)))
    | (go_at_call 45; (with_reducible exact late_call (KT.out _)))))
  refine wpQuiet_nil ?_
  intro w3 h3'
  have h3 := late_out h3'
  clear h3'
  go_wp2
  go_ret
  exact ⟨rfl, H1.out.trans (h3.mono H1.out.size)⟩
end Go.Proofs.Ytahdhgaoofpefaa
