/-
  Package tiles: the question of Cover.
-/
import Derived.Test.YtdepmoocjnmbeaaTilesMet
import Derived.Test.YtdepmoocjnmbeaaRegionOrder
namespace Go.Proofs.Ytdepmoocjnmbeaa
open Go.RowKit
set_option linter.unusedVariables false
set_option linter.unusedSimpArgs false

/-- A slice of one. -/
def OneV (v : Value) (w : World) : Prop := ∃ p c, v = .slice p 1 c
theorem OneV.stable (v : Value) : Stable (OneV v) := fun _ _ h _ => h
set_option maxRecDepth 100000 in
set_option maxHeartbeats 4000000 in
theorem clo_true (x y k n : Int) (x0 : 0 ≤ x) (x1 : x ≤ 4294967295) (y0 : 0 ≤ y) (y1 : y ≤ 4294967295) (k0 : 0 ≤ k) (hk : k < n) (hn : n ≤ 32) (br bl bm : Nat) (p : Option Addr) (c : Nat) (most : Int) (hm : 1 ≤ most) (w : World)
    (B1 : Blk w br #[.int .u32 (floorI x n), .int .u32 (floorI y n), .int .u32 (floorI x n + (pw n - 1)), .int .u32 (floorI y n + (pw n - 1))]) (B2 : Blk w bl #[.slice p 1 c]) (B3 : Blk w bm #[.int .i64 most]) :
    Calls Try.prog 21 #[cl (floorI x k) (floorI y k) k, .pointer (some ⟨br, 0, none⟩), .pointer (some ⟨bl, 0, none⟩), .pointer (some ⟨bm, 0, none⟩)] w fun e w' => e = .returned (.bool true) ∧ Below w.heap.size w w' := by
  have hlk : lvl k = k := by unfold lvl; omega
  have tx := tfloor_top x0 x1 k0 (show k ≤ 32 by omega)
  have ty := tfloor_top y0 y1 k0 (show k ≤ 32 by omega)
  have hpk := pw_bd k0 (show k ≤ 32 by omega)
  have hpn := pw_bd (show (0 : Int) ≤ n by omega) hn
  have hle := pw_le k0 hk hn
  have ix := floor_in (x := x) x0 k0 (show k ≤ n by omega) hn
  have iy := floor_in (x := y) y0 k0 (show k ≤ n by omega) hn
  have KR := fun w => rectc_any (floorI x k) (floorI y k) k tx.1 (by omega) ty.1 (by omega) w
  rw [hlk, floor_self k0 (show k ≤ 32 by omega), floor_self k0 (show k ≤ 32 by omega)] at KR
  have KW := fun w => within_any (floorI x k) (floorI y k) (floorI x k + (pw k - 1)) (floorI y k + (pw k - 1)) (floorI x n) (floorI y n) (floorI x n + (pw n - 1)) (floorI y n + (pw n - 1)) w
  rw [within_wide _ _ _ _ _ _ _ _ (by omega) (by omega) (by omega) (by omega)] at KW
  have KM := fun w => met_any x y k n x0 x1 y0 y1 k0 hk hn w
  unfold winA at KM
  have b0 := tbelow_one w (.cells #[.int .u32 (floorI x k), .int .u32 (floorI y k), .int .i64 k] 32)
  have hl32 : k < 32 := by omega
  have KB := hid (fun W' (h : Below (w.alloc (.cells #[.int .u32 (floorI x k), .int .u32 (floorI y k), .int .i64 k] 32)).heap.size (w.alloc (.cells #[.int .u32 (floorI x k), .int .u32 (floorI y k), .int .i64 k] 32)) W') => And.intro ((Blk.new w #[.int .u32 (floorI x k), .int .u32 (floorI y k), .int .i64 k] 32).more h) (And.intro ((B1.more b0).more h) (And.intro ((B2.more b0).more h) ((B3.more b0).more h))))
  have D0 := hid b0
  clear B1 B2 B3 b0 hle ix iy hpk hpn tx ty hlk x0 x1 y0 y1
  generalize floorI x (k + 1) = X2 at *
  generalize floorI y (k + 1) = Y2 at *
  generalize floorI x k = X at *
  generalize floorI y k = Y at *
  generalize floorI x n + (pw n - 1) = F1 at *
  generalize floorI y n + (pw n - 1) = G1 at *
  generalize floorI x n = F at *
  generalize floorI y n = G at *
  generalize X + (pw k - 1) = X1 at *
  generalize Y + (pw k - 1) = Y1 at *
  replace KR := hid KR
  replace KW := hid KW
  replace KM := hid KM
  have KM2 : Hid (∀ w, Calls Try.prog 22 #[cl X Y k, rct F G F1 G1] w fun e w' => ∃ v, e = .returned v ∧ Below w.heap.size w w' ∧ OneV v w') := hid (fun w => (KM.out w).mono fun e w' ⟨pm, cm, he, _, hb⟩ => ⟨_, he, hb, pm, cm, rfl⟩)
  obtain ⟨P0, P1, P2, P3⟩ := KB.out _ (Below.refl _ _)
  have hmost : (1 : Int) ≤ most := hm
  have D0h := hid D0.out
  have P0h := hid P0
  have P1h := hid P1
  have P2h := hid P2
  have P3h := hid P3
  clear KB P0 P1 P2 P3
  go_enter Try.func21, Try.ntmps21
  go_wp2_with fail
  generalize w.alloc (.cells #[.int .u32 X, .int .u32 Y, .int .i64 k] 32) = W4 at *
  refine wp_region_order [([0, 1, 2, 3, 4, 5, 6, 7, 8, 9, 10, 11, 12, 13, 14, 15, 19], 16)] [17, 18, 20, 21] 22 (by kernel_rfl) (by kernel_rfl) (by kernel_rfl) ?_
  refine order_call ?A1 ?walk1 _ 22 #[cl X Y k, rct F G F1 G1] OneV OneV.stable (by rfl) (by rfl) ?want1 ?run1 ?call1 ?next1
  case walk1 =>
    intro S hS hSS hN
    have q0 := fun u : LaterC W4 S => LaterC.blk P0h.out u
    have q1 := fun u : LaterC W4 S => LaterC.blk P1h.out u
    have q2 := fun u : LaterC W4 S => LaterC.blk P2h.out u
    have q3 := fun u : LaterC W4 S => LaterC.blk P3h.out u
    simp only [List.filterMap_cons, List.filterMap_nil, List.getElem?_toArray, List.getElem?_cons_succ, List.getElem?_cons_zero]
    change wpQuiet _ _ _ _ [_, _, _, _, _, _, _, _, _, _, _, _, _, _, _, _, _] _
    iterate 17 (go_big_quiet_step ((first | (go_at_call 13; (with_reducible exact latec_call hS (KR.out _))) | (go_at_call 14; (with_reducible exact latec_call hS (KW.out _))))))
    refine wpQuiet_nil ?_
    rfl
  case want1 => kernel_rfl
  case run1 => intro w2; simp [execOp, Act.eval, go_sem]
  case call1 => exact fun u => KM2.out _
  case next1 =>
    intro v hN1
    obtain ⟨pm, cm, rfl⟩ := (Classical.choice hN1).s.2
    simp only [Act.put, Option.bind_some, List.setIfInBounds_toArray, List.set_cons_zero, List.set_cons_succ]
    refine order_last ?A3 ?walk3 ?fin
    case walk3 =>
      intro S hS hSS hN
      simp only [List.filterMap_cons, List.filterMap_nil, List.getElem?_toArray, List.getElem?_cons_succ, List.getElem?_cons_zero]
      change wpQuiet _ _ _ _ [_, _, _, _] _
      iterate 4 (go_big_quiet_step (fail))
      refine wpQuiet_nil ?_
      rfl
    case fin =>
      intro u
      have h4 := hid (below2 D0h.out u.h D0h.out.size)
      generalize u.val = w9 at *
      simp only [List.drop_succ_cons, List.drop_zero]
      go_wp2_with fail
      go_ret
      exact ⟨rfl, h4.out⟩
end Go.Proofs.Ytdepmoocjnmbeaa
