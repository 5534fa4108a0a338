/-
  Package tiles: Cover of a cell's window.
-/
import Derived.Test.YtdepmoocjnmbeaaTilesCoarse
import Derived.LoopTactic
import Derived.Deep.LoopGhost
import Derived.Deep.DeepCutAuto
namespace Go.Proofs.Ytdepmoocjnmbeaa
open Go.RowKit
set_option linter.unusedVariables false
set_option linter.unusedSimpArgs false

/-- The way's k-th cell. -/
abbrev wayC (x y : Int) (k : Nat) : Cl := ⟨floorI x (k : Int), floorI y (k : Int), (k : Int)⟩
/-- A slice of this cell. -/
def NewC (Q : Cl) (v : Value) (w : World) : Prop := ∃ p c, v = .slice p 1 c ∧ RowOf clT w p [Q]
theorem NewC.stable (Q : Cl) (v : Value) : Stable (NewC Q v) := fun _ _ ⟨p, c, e, R⟩ hb => ⟨p, c, e, RowOf.more R hb⟩
set_option maxRecDepth 100000 in
set_option maxHeartbeats 8000000 in
theorem cover_any (x y : Int) (n : Nat) (x0 : 0 ≤ x) (x1 : x ≤ 4294967295) (y0 : 0 ≤ y) (y1 : y ≤ 4294967295) (hn : n ≤ 32) (most : Int) (w : World) :
    Calls Try.prog 8 #[winA x y (n : Int), .int .i64 most] w fun e w' => ∃ p c, e = .returned (.slice p 1 c) ∧ RowOwn clT w' w.heap.size (.slice p 1 c) [wayC x y n] ∧ Below w.heap.size w w' := by
  have hpn := pw_bd (show (0 : Int) ≤ (n : Int) by omega) (show (n : Int) ≤ 32 by omega)
  have KE := fun w => empty_any (floorI x (n : Int)) (floorI y (n : Int)) (floorI x (n : Int) + (pw (n : Int) - 1)) (floorI y (n : Int) + (pw (n : Int) - 1)) w
  rw [show emptyB (floorI x (n : Int)) (floorI y (n : Int)) (floorI x (n : Int) + (pw (n : Int) - 1)) (floorI y (n : Int) + (pw (n : Int) - 1)) = false by unfold emptyB; simp; omega] at KE
  have hFG0 := fun (F G : Int) (h1 : floorI x (n : Int) = F) (h2 : floorI y (n : Int) = G) => show wayC x y n = ⟨F, G, (n : Int)⟩ from by rw [← h1, ← h2]
  have hFG := hid (hFG0 _ _ rfl rfl)
  clear hFG0
  have hroot := hid (show wayC x y 0 = ⟨0, 0, 0⟩ by unfold wayC; rw [show ((0 : Nat) : Int) = 0 from rfl, floor_zero x0 x1, floor_zero y0 y1])
  have KT := hid (fun (k : Nat) (hk : k < n) br bl bm p c m hm w B1 B2 B3 => clo_true x y (k : Int) (n : Int) x0 x1 y0 y1 (by omega) (by omega) (by omega) br bl bm p c m hm w B1 B2 B3)
  have KF := hid (fun br bl bm p c m w B1 B2 B3 => clo_false x y (n : Int) x0 x1 y0 y1 (by omega) (by omega) br bl bm p c m w B1 B2 B3)
  have KM := fun (k : Nat) (hk : k < n) w => met_any x y (k : Int) (n : Int) x0 x1 y0 y1 (by omega) (by omega) (by omega) w
  unfold winA at KM ⊢
  replace KM := hid KM
  obtain ⟨m, hm, hm1⟩ : ∃ m, min (max most 1) 256 = m ∧ 1 ≤ m := ⟨_, rfl, by omega⟩
  have KRoot := hid (fun w => root_any w)
  replace KE := hid KE
  have b1 := tbelow_one w (.cells #[.int .u32 (floorI x (n : Int)), .int .u32 (floorI y (n : Int)), .int .u32 (floorI x (n : Int) + (pw (n : Int) - 1)), .int .u32 (floorI y (n : Int) + (pw (n : Int) - 1))] 24)
  have b2 := tbelow_one (w.alloc (.cells #[.int .u32 (floorI x (n : Int)), .int .u32 (floorI y (n : Int)), .int .u32 (floorI x (n : Int) + (pw (n : Int) - 1)), .int .u32 (floorI y (n : Int) + (pw (n : Int) - 1))] 24)) (.cells #[.int .i64 most] 3)
  have BR := hid ((Blk.new w #[.int .u32 (floorI x (n : Int)), .int .u32 (floorI y (n : Int)), .int .u32 (floorI x (n : Int) + (pw (n : Int) - 1)), .int .u32 (floorI y (n : Int) + (pw (n : Int) - 1))] 24).more b2)
  have BM := Blk.new (w.alloc (.cells #[.int .u32 (floorI x (n : Int)), .int .u32 (floorI y (n : Int)), .int .u32 (floorI x (n : Int) + (pw (n : Int) - 1)), .int .u32 (floorI y (n : Int) + (pw (n : Int) - 1))] 24)) #[.int .i64 most] 3
  rw [show (w.alloc (.cells #[.int .u32 (floorI x (n : Int)), .int .u32 (floorI y (n : Int)), .int .u32 (floorI x (n : Int) + (pw (n : Int) - 1)), .int .u32 (floorI y (n : Int) + (pw (n : Int) - 1))] 24)).heap.size = w.heap.size + 1 by simp] at BM
  replace BM := hid BM
  have D0 := hid (below2 b1 b2 b1.size)
  clear b1 b2 hpn x0 x1 y0 y1
  generalize floorI x (n : Int) + (pw (n : Int) - 1) = F1 at *
  generalize floorI y (n : Int) + (pw (n : Int) - 1) = G1 at *
  generalize floorI x (n : Int) = F at *
  generalize floorI y (n : Int) = G at *
  obtain ⟨lr, mr, fr⟩ := BR.out
  obtain ⟨lm, mm, fm⟩ := BM.out
  go_enter Try.func8, Try.ntmps8
  go_wp2_with fail
  refine (KE.out _).mono ?_
  rintro e w1 ⟨rfl, hb1⟩
  have D1 := hid (below2 D0.out hb1 D0.out.size)
  have BR1 := hid (BR.out.more hb1)
  have BM1 := hid (BM.out.more hb1)
  clear hb1 KE BR BM D0 lr mr fr lm mm fm
  have BR2 := hid (BR1.out.other ⟨w.heap.size + 1, 0, none⟩ (by simp) (.int .i64 m))
  have BM2 := hid (BM1.out.set 0 (.int .i64 m) (by simp))
  have D2 := hid (D1.out.trans ((Sole.setCell (S := fun k => k = w.heap.size + 1) w1 (b := w.heap.size + 1) (o := 0) (.int .i64 m) rfl).below (B := w.heap.size) D1.out.size fun k e => by omega))
  obtain ⟨lm, mm, fm⟩ := BM1.out
  go_wp2_with fail
  refine (KRoot.out _).mono ?_
  rintro e w3 ⟨rfl, hb3⟩
  have b4 := tbelow_one w3 (.cells #[.int .u32 0, .int .u32 0, .int .i64 0] 32)
  have b5 := tbelow_one (w3.alloc (.cells #[.int .u32 0, .int .u32 0, .int .i64 0] 32)) (.cells #[.slice (some ⟨w3.heap.size, 0, none⟩) 1 1] 27)
  have b35 := below2 (below2 hb3 b4 hb3.size) b5 (Nat.le_trans hb3.size b4.size)
  have s4 : (w3.alloc (.cells #[.int .u32 0, .int .u32 0, .int .i64 0] 32)).heap.size = w3.heap.size + 1 := by simp
  have BL := Blk.new (w3.alloc (.cells #[.int .u32 0, .int .u32 0, .int .i64 0] 32)) #[.slice (some ⟨w3.heap.size, 0, none⟩) 1 1] 27
  rw [s4] at BL
  have hw3 : w.heap.size + 2 ≤ w3.heap.size := by have := BM2.out.lt; have := hb3.size; omega
  have O4 : RowOwn clT (w3.alloc (.cells #[.int .u32 0, .int .u32 0, .int .i64 0] 32)) w3.heap.size (.slice (some ⟨w3.heap.size, 0, none⟩) 1 1) [wayC x y 0] := by
    rw [hroot.out]
    exact ⟨rfl, .inr ⟨w3.heap.size, 1, _, rfl, Nat.le_refl _, heap_alloc_new w3 _, Nat.le_refl _, by unfold maxLen; omega, rfl, rfl⟩⟩
  have O5 := hid (RowOwn.more O4 b5)
  have D5 := hid (below2 D2.out b35 D2.out.size)
  have BR5 := hid (BR2.out.more b35)
  have BM5 := hid (BM2.out.more b35)
  have BL5 := hid BL
  clear hb3 b4 b5 b35 BL O4 BR2 BM2 D2 BR1 BM1 lm mm fm KRoot hroot s4 D1
  go_wp2_with fail
  generalize (w3.alloc (.cells #[.int .u32 0, .int .u32 0, .int .i64 0] 32)).alloc (.cells #[.slice (some ⟨w3.heap.size, 0, none⟩) 1 1] 27) = W5 at *
  generalize w3.heap.size = g3 at *
  replace hw3 := hid hw3
  clear hm
  go_loopg [6, 7] n (fun gk s6 s7 wr => ∃ (k : Nat) (p : Option Addr) (c : Nat), k + gk = n ∧ Below w.heap.size w wr ∧ Blk wr w.heap.size #[.int .u32 F, .int .u32 G, .int .u32 F1, .int .u32 G1] ∧ Blk wr (w.heap.size + 1) #[.int .i64 m] ∧ Blk wr (g3 + 1) #[.slice p 1 c] ∧ RowOwn clT wr g3 (.slice p 1 c) [wayC x y k] ∧ Hid (∀ g, (Value.slice p 1 c).ownBlock = some g → g ≠ g3 + 1))
  case atStart => exact ⟨0, _, _, by omega, D5.out, BR5.out, BM5.out, BL5.out, O5.out, hid (fun g e => by have : some g3 = some g := e; cases this; omega)⟩
  case round =>
    obtain ⟨k, p, c, hk, hbr, PR, PM, PL, OW, hne⟩ := hrel
    have hbrh := hid hbr
    have PRh := hid PR
    have PMh := hid PM
    have PLh := hid PL
    have OWh := hid OW
    obtain ⟨p', c', e', _, _, RW⟩ := RowOwn.open clOk OW
    obtain ⟨rfl, _, rfl⟩ : p = p' ∧ 1 = 1 ∧ c = c' := by simp only [Value.slice.injEq] at e'; exact ⟨e'.1, rfl, e'.2.2⟩
    have hnk : (n : Int) = ((k + gk : Nat) : Int) := by omega
    cases gk with
    | zero =>
      obtain rfl : n = k := by omega
      have KC := hid (coarsest_one F G (n : Int) p c w.heap.size (g3 + 1) (w.heap.size + 1) false wr (hFG.out ▸ RW) (fun W' h => KF.out w.heap.size (g3 + 1) (w.heap.size + 1) p c m W' (PRh.out.more h) (PLh.out.more h) (PMh.out.more h)))
      clear RW OW PR PM hbr hne e' hnk
      obtain ⟨ll, ml, fl⟩ := PL
      go_wp2_with fail
      refine KC.out.mono ?_
      rintro e w6 ⟨rfl, hb6⟩
      have D6 := hid (below2 hbrh.out hb6 hbrh.out.size)
      have PL6 := PLh.out.more hb6
      have OW6 := hid (RowOwn.mono (RowOwn.more OWh.out hb6) (show w.heap.size ≤ g3 by have := hw3.out; omega))
      clear hb6 KC ll ml fl
      obtain ⟨ll, ml, fl⟩ := PL6
      go_wp2_with fail
      go_ret
      exact ⟨p, c, rfl, OW6.out, D6.out⟩
    | succ gk =>
      have hkn : k < n := by omega
      have hcur : ∃ g cur, p = some ⟨g, 0, none⟩ ∧ Blk wr g cur ∧ cur[0]? = some (.int .u32 (floorI x (k : Int))) ∧ cur[1]? = some (.int .u32 (floorI y (k : Int))) ∧ cur[2]? = some (.int .i64 (k : Int)) := by
        rcases OW.2 with ⟨_, h0⟩ | ⟨g, cap, cur, e, hb, hg, h1, h2, h3, h4⟩
        · cases h0
        · simp only [Value.slice.injEq] at e
          refine ⟨g, cur, e.1, ⟨(OW.lt g (by rw [e.1]; rfl)).2, fun o => by simp [World.cell?, hg], fun o => by simp [World.frozen?, hg]⟩, ?_, ?_, ?_⟩
          · have := congrArg (·[0]?) h4
            simpa [flatR, clT] using this
          · have := congrArg (·[1]?) h4
            simpa [flatR, clT] using this
          · have := congrArg (·[2]?) h4
            simpa [flatR, clT] using this
      have KC := hid (coarsest_one (floorI x (k : Int)) (floorI y (k : Int)) (k : Int) p c w.heap.size (g3 + 1) (w.heap.size + 1) true wr RW (fun W' h => KT.out k hkn w.heap.size (g3 + 1) (w.heap.size + 1) p c m hm1 W' (PRh.out.more h) (PLh.out.more h) (PMh.out.more h)))
      have KM1 : Hid (∀ w, Calls Try.prog 22 #[cl (floorI x (k : Int)) (floorI y (k : Int)) (k : Int), rct F G F1 G1] w fun e w' => ∃ v, e = .returned v ∧ Below w.heap.size w w' ∧ NewC (wayC x y (k + 1)) v w') := hid (fun w => (KM.out k hkn w).mono fun e w' ⟨pm, cm, he, hO, hb⟩ => ⟨_, he, hb, pm, cm, rfl, by
        obtain ⟨p9, c9, e9, _, _, R9⟩ := RowOwn.open clOk hO
        simp only [Value.slice.injEq] at e9
        rw [e9.1]
        exact R9⟩)
      obtain ⟨g, cur, rfl, BC, hc0, hc1, hc2⟩ := hcur
      have BCh := hid BC
      clear RW OW PR PM hbr e' hnk BC
      obtain ⟨ll, ml, fl⟩ := PL
      go_wp2_with fail
      refine KC.out.mono ?_
      rintro e w6 ⟨rfl, hb6⟩
      have D6 := hid (below2 hbrh.out hb6 hbrh.out.size)
      have PL6 := hid (PLh.out.more hb6)
      have PR6 := hid (PRh.out.more hb6)
      have PM6 := hid (PMh.out.more hb6)
      have BC6 := hid (BCh.out.more hb6)
      have OW6 := hid (RowOwn.more OWh.out hb6)
      clear hb6 KC ll ml fl BCh OWh PLh PRh PMh
      go_wp2_with fail
      refine wp_region_order [([0, 1, 2, 3, 4, 5, 6, 7, 8], 9)] [] 10 (by kernel_rfl) (by kernel_rfl) (by kernel_rfl) ?_
      refine order_call ?A1 ?walk1 _ 22 #[cl (floorI x (k : Int)) (floorI y (k : Int)) (k : Int), rct F G F1 G1] (NewC (wayC x y (k + 1))) (NewC.stable _) (by rfl) (by rfl) ?want1 ?run1 ?call1 ?next1
      case walk1 =>
        intro S hS hSS hN
        have q0 := fun u : LaterC w6 S => LaterC.blk PL6.out u
        have q1 := fun u : LaterC w6 S => LaterC.blk PR6.out u
        have q2 := fun u : LaterC w6 S => LaterC.blk BC6.out u
        simp only [List.filterMap_cons, List.filterMap_nil, List.getElem?_toArray, List.getElem?_cons_succ, List.getElem?_cons_zero]
        change wpQuiet _ _ _ _ [_, _, _, _, _, _, _, _, _] _
        iterate 9 (go_big_quiet_step (fail))
        refine wpQuiet_nil ?_
        rfl
      case want1 => kernel_rfl
      case run1 => intro w2; simp [execOp, Act.eval, go_sem]
      case call1 => exact fun u => KM1.out _
      case next1 =>
        intro v hN1
        obtain ⟨pm, cm, rfl, _⟩ := (Classical.choice hN1).s.2
        simp only [Act.put, Option.bind_some, List.setIfInBounds_toArray, List.set_cons_zero, List.set_cons_succ]
        refine order_last ?A3 ?walk3 ?fin
        case walk3 =>
          intro S hS hSS hN
          refine wpQuiet_nil ?_
          rfl
        case fin =>
          intro u
          have hu := u.h
          obtain ⟨pm', cm', e9, RM⟩ := u.s.2
          have h9 : pm' = pm := by simp only [Value.slice.injEq] at e9; exact e9.1.symm
          subst h9
          have KRp := hid (replace_one (some ⟨g, 0, none⟩) c pm' cm (wayC x y k) (wayC x y (k + 1)) g3 u.val (by have := hw3.out; have := PL6.out.lt; have := hu.size; omega) (RowOwn.more OW6.out hu) RM)
          have D7 := hid (below2 D6.out hu D6.out.size)
          have PL7 := hid (PL6.out.more hu)
          have PR7 := hid (PR6.out.more hu)
          have PM7 := hid (PM6.out.more hu)
          have hg3 := hid (show g3 ≤ g ∧ g ≠ g3 + 1 from ⟨(RowOwn.within OW6.out g rfl).1, hne.out g rfl⟩)
          have hu7 := hid hu.size
          clear hu RM e9
          generalize u.val = w7 at *
          simp only [List.drop_succ_cons, List.drop_zero]
          go_wp2_with fail
          refine KRp.out.mono ?_
          rintro e w8 ⟨q8, d8, rfl, O8, S8, hq8⟩
          have hgg := hg3.out
          have hSg : ∀ j, (Value.slice (some ⟨g, 0, none⟩) 1 c).ownBlock = some j → j = g := fun j e => by cases e; rfl
          have D8 := hid (D7.out.trans (S8.below (B := w.heap.size) D7.out.size fun j e => by have := hSg j e; have := hw3.out; omega))
          have PR8 := hid (PR7.out.sole S8 (fun e => by have := hSg _ e; have := hw3.out; omega))
          have PM8 := hid (PM7.out.sole S8 (fun e => by have := hSg _ e; have := hw3.out; omega))
          have PL8 := hid (PL7.out.sole S8 (fun e => by have := hSg _ e; omega))
          have hne8 := hid (fun j (e : (Value.slice q8 1 d8).ownBlock = some j) => show j ≠ g3 + 1 from by
            rcases hq8 j e with r | r
            · have := hSg j r; omega
            · have := PL7.out.lt; omega)
          have S89 := Sole.setCell (S := fun j => j = g3 + 1) w8 (b := g3 + 1) (o := 0) (.slice q8 1 d8) rfl
          have PL9 := hid (PL8.out.set 0 (.slice q8 1 d8) (by simp))
          have PR9 := hid (PR8.out.other ⟨g3 + 1, 0, none⟩ (by have := hw3.out; show g3 + 1 ≠ w.heap.size; omega) (.slice q8 1 d8))
          have PM9 := hid (PM8.out.other ⟨g3 + 1, 0, none⟩ (by have := hw3.out; show g3 + 1 ≠ w.heap.size + 1; omega) (.slice q8 1 d8))
          have D9 := hid (D8.out.trans (S89.below (B := w.heap.size) D8.out.size fun j e => by have := hw3.out; omega))
          have O9 := hid (O8.sole S89 (fun j e1 e2 => hne8.out j e1 e2))
          obtain ⟨ll, ml, fl⟩ := PL8.out
          clear O8 S8 hq8 S89 hSg hgg KRp
          go_wp2_with fail
          go_roundg gk
          case rel => exact ⟨k + 1, q8, d8, by omega, D9.out, PR9.out, PM9.out, PL9.out, O9.out, hid hne8.out⟩
          case measure => omega
end Go.Proofs.Ytdepmoocjnmbeaa
