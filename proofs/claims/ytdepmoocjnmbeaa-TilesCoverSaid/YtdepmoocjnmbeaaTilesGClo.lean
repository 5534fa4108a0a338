/-
  Package tiles: the question of Cover, of any cell and any window.
-/
import Derived.Test.YtdepmoocjnmbeaaTilesGMet
import Derived.Test.YtdepmoocjnmbeaaRegionOrder
namespace Go.Proofs.Ytdepmoocjnmbeaa
open Go.RowKit
set_option linter.unusedVariables false
set_option linter.unusedSimpArgs false

/-- A slice of so many. -/
def ManyV (m : Nat) (v : Value) (w : World) : Prop := ∃ p c, v = .slice p m c
theorem ManyV.stable (m : Nat) (v : Value) : Stable (ManyV m v) := fun _ _ h _ => h
/-- Is a cell to become finer? -/
def isB (r : Rc) (most : Int) (n : Nat) (c : Cl) : Bool := decide (c.l < 32) && !wiB r c && decide ((n : Int) - 1 + ((metL r c).length : Int) ≤ most)

set_option maxRecDepth 100000 in
set_option maxHeartbeats 4000000 in
theorem gclo_any (r : Rc) (c : Cl) (hc : okC c) (n : Nat) (hn : 1 ≤ n) (hn2 : n ≤ 1000) (br bl bm : Nat) (p : Option Addr) (cp : Nat) (most : Int) (w : World)
    (B1 : Blk w br #[.int .u32 r.a, .int .u32 r.b, .int .u32 r.c, .int .u32 r.d]) (B2 : Blk w bl #[.slice p n cp]) (B3 : Blk w bm #[.int .i64 most]) :
    Calls Try.prog 21 #[cl c.x c.y c.l, .pointer (some ⟨br, 0, none⟩), .pointer (some ⟨bl, 0, none⟩), .pointer (some ⟨bm, 0, none⟩)] w fun e w' => e = .returned (.bool (isB r most n c)) ∧ Below w.heap.size w w' := by
  have KR := fun w => grect_any c hc w
  have KW := fun w => within_any c.x c.y (c.x + (pw c.l - 1)) (c.y + (pw c.l - 1)) r.a r.b r.c r.d w
  have KM := hid (fun (h : c.l < 32) w => gmet_any r c hc h w)
  have b0 := tbelow_one w (.cells #[.int .u32 c.x, .int .u32 c.y, .int .i64 c.l] 32)
  have P0h := hid (Blk.new w #[.int .u32 c.x, .int .u32 c.y, .int .i64 c.l] 32)
  have P1h := hid (B1.more b0)
  have P2h := hid (B2.more b0)
  have P3h := hid (B3.more b0)
  have D0 := hid b0
  have hKl := hid (metK_len r c 4)
  have hlen : (n : Int) ≤ 1000 := by omega
  have hlen1 : (1 : Int) ≤ (n : Int) := by omega
  obtain ⟨Wi, hWi⟩ : ∃ b, b = wiB r c := ⟨_, rfl⟩
  have hWi' : withinB c.x c.y (c.x + (pw c.l - 1)) (c.y + (pw c.l - 1)) r.a r.b r.c r.d = Wi := hWi.symm
  rw [hWi'] at KW
  clear hWi'
  obtain ⟨Mn, hMn⟩ : ∃ m, m = (metL r c).length := ⟨_, rfl⟩
  have hres := hid (show isB r most n c = (decide (c.l < 32) && !Wi && decide ((n : Int) - 1 + (Mn : Int) ≤ most)) by unfold isB; rw [← hWi, ← hMn])
  have hMn4 : Mn ≤ 4 := by rw [hMn]; exact hKl.out
  replace KR := hid KR
  replace KW := hid KW
  generalize c.x + (pw c.l - 1) = X1 at *
  generalize c.y + (pw c.l - 1) = Y1 at *
  clear B1 B2 B3 b0 hWi hKl
  replace hc := hid hc
  replace hMn := hid hMn
  go_enter Try.func21, Try.ntmps21
  go_wp2_with fail
  generalize w.alloc (.cells #[.int .u32 c.x, .int .u32 c.y, .int .i64 c.l] 32) = W4 at *
  by_cases h32 : c.l < 32
  · have hd : decide (c.l < 32) = true := decide_eq_true h32
    cases Wi with
    | true =>
      have q0 := fun u : Later W4 => u.blk P0h.out
      have q1 := fun u : Later W4 => u.blk P1h.out
      have q2 := fun u : Later W4 => u.blk P2h.out
      have q3 := fun u : Later W4 => u.blk P3h.out
      refine wp_region_late 22 (by kernel_rfl) (by kernel_rfl) ?_
      simp only [List.take_succ_cons, List.take_zero, List.drop_succ_cons, List.drop_zero]
      iterate 22 (go_big_quiet_step ((first | (go_at_call 13; (with_reducible exact late_call (KR.out _))) | (go_at_call 14; (with_reducible exact late_call (KW.out _))))))
      refine wpQuiet_nil ?_
      intro w5 h5'
      have h5 := late_out h5'
      have E := hid (below2 D0.out h5 D0.out.size)
      clear h5 h5'
      go_wp2_with fail
      go_ret
      exact ⟨by rw [hres.out, hd]; rfl, E.out⟩
    | false =>
      have KM2 : Hid (∀ w, Calls Try.prog 22 #[cl c.x c.y c.l, r.v] w fun e w' => ∃ v, e = .returned v ∧ Below w.heap.size w w' ∧ ManyV Mn v w') := hid (fun w => (KM.out h32 w).mono fun e w' ⟨pm, cm, he, _, hb⟩ => ⟨_, he, hb, pm, cm, by rw [hMn.out]⟩)
      unfold Rc.v at KM2
      refine wp_region_order [([0, 1, 2, 3, 4, 5, 6, 7, 8, 9, 10, 11, 12, 13, 14, 15, 19], 16)] [17, 18, 20, 21] 22 (by kernel_rfl) (by kernel_rfl) (by kernel_rfl) ?_
      refine order_call ?A1 ?walk1 _ 22 #[cl c.x c.y c.l, rct r.a r.b r.c r.d] (ManyV Mn) (ManyV.stable Mn) (by rfl) (by rfl) ?want1 ?run1 ?call1 ?next1
      case walk1 =>
        intro S hS hSS hN
        have q0 := fun u : LaterC W4 S => LaterC.blk P0h.out u
        have q1 := fun u : LaterC W4 S => LaterC.blk P1h.out u
        have q2 := fun u : LaterC W4 S => LaterC.blk P2h.out u
        have q3 := fun u : LaterC W4 S => LaterC.blk P3h.out u
        simp only [List.filterMap_cons, List.filterMap_nil, List.getElem?_toArray, List.getElem?_cons_succ, List.getElem?_cons_zero]
        change wpQuiet _ _ _ _ [_, _, _, _, _, _, _, _, _, _, _, _, _, _, _, _, _] _
        iterate 17 (go_big_quiet_step ((first | (go_at_call 13; (with_reducible exact latec_call hS (KR.out _))) | (go_at_call 14; (with_reducible exact latec_call hS (KW.out _))))))
        refine wpQuiet_nil ?_
        rfl
      case want1 => kernel_rfl
      case run1 => intro w2; simp [execOp, Act.eval, go_sem]
      case call1 => exact fun u => KM2.out _
      case next1 =>
        intro v hN1
        obtain ⟨pm, cm, rfl⟩ := (Classical.choice hN1).s.2
        have hM4 : (Mn : Int) ≤ 4 := by omega
        simp only [Act.put, Option.bind_some, List.setIfInBounds_toArray, List.set_cons_zero, List.set_cons_succ]
        by_cases hle : (n : Int) - 1 + (Mn : Int) ≤ most
        · have hle2 := hid (decide_eq_true hle)
          refine order_last ?A3 ?walk3 ?fin
          case walk3 =>
            intro S hS hSS hN
            simp only [List.filterMap_cons, List.filterMap_nil, List.getElem?_toArray, List.getElem?_cons_succ, List.getElem?_cons_zero]
            change wpQuiet _ _ _ _ [_, _, _, _] _
            iterate 4 (go_big_quiet_step (fail))
            refine wpQuiet_nil ?_
            rfl
          case fin =>
            intro u
            have h4 := hid (below2 D0.out u.h D0.out.size)
            generalize u.val = w9 at *
            simp only [List.drop_succ_cons, List.drop_zero]
            go_wp2_with fail
            go_ret
            exact ⟨by rw [hres.out, hd, hle2.out]; rfl, h4.out⟩
        · have hle2 := hid (decide_eq_false hle)
          have hle3 := decide_eq_false hle
          refine order_last ?A4 ?walk4 ?fin4
          case walk4 =>
            intro S hS hSS hN
            simp only [List.filterMap_cons, List.filterMap_nil, List.getElem?_toArray, List.getElem?_cons_succ, List.getElem?_cons_zero]
            change wpQuiet _ _ _ _ [_, _, _, _] _
            iterate 4 (go_big_quiet_step (fail))
            refine wpQuiet_nil ?_
            rfl
          case fin4 =>
            intro u
            have h4 := hid (below2 D0.out u.h D0.out.size)
            generalize u.val = w9 at *
            simp only [List.drop_succ_cons, List.drop_zero]
            go_wp2_with fail
            go_ret
            exact ⟨by rw [hres.out, hd, hle2.out]; rfl, h4.out⟩
  · have hd : decide (c.l < 32) = false := decide_eq_false h32
    have q0 := fun u : Later W4 => u.blk P0h.out
    have q1 := fun u : Later W4 => u.blk P1h.out
    have q2 := fun u : Later W4 => u.blk P2h.out
    have q3 := fun u : Later W4 => u.blk P3h.out
    refine wp_region_late 22 (by kernel_rfl) (by kernel_rfl) ?_
    simp only [List.take_succ_cons, List.take_zero, List.drop_succ_cons, List.drop_zero]
    iterate 22 (go_big_quiet_step (fail))
    refine wpQuiet_nil ?_
    intro w5 h5'
    have h5 := late_out h5'
    have E := hid (below2 D0.out h5 D0.out.size)
    clear h5 h5'
    go_wp2_with fail
    go_ret
    exact ⟨by rw [hres.out, hd]; rfl, E.out⟩
end Go.Proofs.Ytdepmoocjnmbeaa
