/-
  The document's own nodes: another node of octets.
-/
import Derived.Test.YtgnnikjpnmalmaaNodeRead
import Derived.Test.YtgnnikjpnmalmaaNodeRefNode
import Derived.Deep.RegionHeld3
namespace Go.Proofs.Ytgnnikjpnmalmaa
open Go.RowKit
set_option linter.unusedVariables false
set_option linter.unusedSimpArgs false

theorem octs_low8 {B : Nat} {w w' : World} {b o : Nat} {l : List UInt8} (h : Octs w (some ⟨b, o, none⟩) l) (hb : Below B w w') (hlt : b < B) : Octs w' (some ⟨b, o, none⟩) l := by
  refine h.imp id ?_
  rintro ⟨b', o', e, lt, hc⟩
  cases e
  exact ⟨b, o, rfl, Nat.lt_of_lt_of_le lt hb.size, fun i hi => (hb.cell (p := ⟨b, _, none⟩) hlt).trans (hc i hi)⟩
theorem stay1 {w : World} {b g i o1 : Nat} {x : Value} (h : b ≠ g) : ((w.setCell ⟨g, o1, none⟩ x).drew).cell? ⟨b, i, none⟩ = w.cell? ⟨b, i, none⟩ :=
  World.cell?_of_block (w := w) (w' := (w.setCell ⟨g, o1, none⟩ x).drew) (a := ⟨b, i, none⟩) (Below.heap_setCell _ _ _ _ (by simpa using h))
theorem stay2 {w : World} {b g i o1 o2 : Nat} {x y : Value} (h : b ≠ g) : (((w.setCell ⟨g, o1, none⟩ x).setCell ⟨g, o2, none⟩ y).drew).cell? ⟨b, i, none⟩ = w.cell? ⟨b, i, none⟩ := by
  have e : ∀ (w : World) (o : Nat) (v : Value), (w.setCell ⟨g, o, none⟩ v).cell? ⟨b, i, none⟩ = w.cell? ⟨b, i, none⟩ := fun w o v =>
    World.cell?_of_block (a := ⟨b, i, none⟩) (Below.heap_setCell _ _ _ _ (by simpa using h))
  show ((w.setCell ⟨g, o1, none⟩ x).setCell ⟨g, o2, none⟩ y).cell? ⟨b, i, none⟩ = _
  rw [e, e]
def RefPost (l : List UInt8) (w : World) (e : Ending) (w' : World) : Prop :=
  (∃ L v, leafR l = some L ∧ e = .returned (.tuple #[lfval true v (byteAt l 1), .bool true]) ∧ PtsOwn w' w.heap.size v L ∧ Below w.heap.size w w') ∨
    (leafR l = none ∧ otherR l = true ∧ e = .returned (.tuple #[otval (kidsR l 0) (kidsR l 1) (kidsR l 2) (kidsR l 3) (cntsR l 0) (cntsR l 1) (cntsR l 2) (cntsR l 3), .bool true]) ∧ Below w.heap.size w w') ∨
    (leafR l = none ∧ otherR l = false ∧ e = .returned (.tuple #[lfval false (.slice none 0 0) 0, .bool false]) ∧ Below w.heap.size w w')

set_option maxRecDepth 100000 in
set_option maxHeartbeats 16000000 in
theorem refReadOther_any (l : List UInt8) (a : Option Addr) (cap : Nat) (h1 : l.length ≤ cap) (h2 : cap ≤ maxLen) (w : World) (O : Octs w a l) (hl : l.length = 13) (h0 : byteAt l 0 = 0) :
    Calls Try.prog 43 #[.slice a l.length cap] w (RefPost l w) := by
  obtain ⟨W0, hW0⟩ : ∃ W0, (w.alloc (.cells (otcells 0 0 0 0 0 0 0 0) 61)).alloc (.cells (otcells 0 0 0 0 0 0 0 0) 61) = W0 := ⟨_, rfl⟩
  have hb0 : Below w.heap.size w W0 := by rw [← hW0]; exact ((Below.refl _ _).alloc (Nat.le_refl _) _).alloc (by simp) _
  have BZ : Blk W0 w.heap.size (otcells 0 0 0 0 0 0 0 0) := by rw [← hW0]; exact (Blk.new w _ _).alloc _
  have BN : Blk W0 (w.heap.size + 1) (otcells 0 0 0 0 0 0 0 0) := by
    rw [← hW0]
    have := Blk.new (w.alloc (.cells (otcells 0 0 0 0 0 0 0 0) 61)) (otcells 0 0 0 0 0 0 0 0) 61
    rwa [World.size_alloc] at this
  obtain ⟨b, o, rfl, hb, hc⟩ := O.row (by intro h; rw [h] at hl; cases hl)
  have CC := hid (fun (wx : World) (hb' : Below w.heap.size w wx) (i : Nat) (hi : i < 13) => (show wx.cell? ⟨b, o + i, none⟩ = some (.int .u8 (byteAt l i : Int)) by
    rw [hb'.cell (p := ⟨b, o + i, none⟩) hb, hc i (by omega), byteAt_get l i (by omega)]))
  have HO := hid O
  have hlf := hid (show leafR l = none from leafR_not (.inl (by omega)))
  have hx : ∀ i, i < 4 → (kidsR l i = (byteAt l (1 + i) : Int) ∧ cntsR l i = (numOf ((l.drop (5 + 2 * i)).take 2) : Int)) := fun i _ => ⟨rfl, rfl⟩
  have EB : Hid (∀ w', otherB 0 0 (kidsR l) (cntsR l) = false → Below w.heap.size w w' → RefPost l w (.returned (.tuple #[lfval false (.slice none 0 0) 0, .bool false])) w') := hid (fun w' h hb => .inr (.inr ⟨hlf.out, otherR_not (.inr (.inr h)), rfl, hb⟩))
  have EG : Hid (∀ w', otherB 0 0 (kidsR l) (cntsR l) = true → Below w.heap.size w w' → RefPost l w (.returned (.tuple #[otval (kidsR l 0) (kidsR l 1) (kidsR l 2) (kidsR l 3) (cntsR l 0) (cntsR l 1) (cntsR l 2) (cntsR l 3), .bool true])) w') := hid (fun w' h hb => .inr (.inl ⟨hlf.out, by unfold otherR; rw [hl, h0, h]; rfl, rfl, hb⟩))
  have KN : Hid (∀ wx, Calls Try.prog 38 #[otval (kidsR l 0) (kidsR l 1) (kidsR l 2) (kidsR l 3) (cntsR l 0) (cntsR l 1) (cntsR l 2) (cntsR l 3)] wx fun e w' => e = .returned (.bool (otherB 0 0 (kidsR l) (cntsR l))) ∧ Below wx.heap.size wx w') := hid (fun wx => refNode_any false none 0 0 (fun _ => pt0) (fun i hi => absurd hi (Nat.not_lt_zero _)) 0 (kidsR l) (cntsR l) (Nat.le_refl _) (Nat.zero_le _) wx (.inl rfl))
  have hk0 : kidsR l 0 = (byteAt l 1 : Int) := rfl
  have hk1 : kidsR l 1 = (byteAt l 2 : Int) := rfl
  have hk2 : kidsR l 2 = (byteAt l 3 : Int) := rfl
  have hk3 : kidsR l 3 = (byteAt l 4 : Int) := rfl
  have hc0 : cntsR l 0 = (numOf ((l.drop 5).take 2) : Int) := rfl
  have hc1 : cntsR l 1 = (numOf ((l.drop 7).take 2) : Int) := rfl
  have hc2 : cntsR l 2 = (numOf ((l.drop 9).take 2) : Int) := rfl
  have hc3 : cntsR l 3 = (numOf ((l.drop 11).take 2) : Int) := rfl
  have z00 := CC.out W0 hb0 0 (by omega)
  rw [h0, Nat.add_zero] at z00
  have b1 := byteAt_lt l 1
  have b2 := byteAt_lt l 2
  have b3 := byteAt_lt l 3
  have b4 := byteAt_lt l 4
  have G0 := fun (wx : World) (hb' : Below w.heap.size w wx) => refGet_any ((l.drop 5).take 2) (some ⟨b, o + 5, none⟩) (cap - 5) wx (octs_low8 ((HO.out.drop 5).take 2) hb' hb) (by rw [List.length_take]; omega)
  rw [show ((l.drop 5).take 2).length = 2 by rw [List.length_take, List.length_drop]; omega, ← hc0] at G0
  replace G0 := hid G0
  have G1 := fun (wx : World) (hb' : Below w.heap.size w wx) => refGet_any ((l.drop 7).take 2) (some ⟨b, o + 7, none⟩) (cap - 7) wx (octs_low8 ((HO.out.drop 7).take 2) hb' hb) (by rw [List.length_take]; omega)
  rw [show ((l.drop 7).take 2).length = 2 by rw [List.length_take, List.length_drop]; omega, ← hc1] at G1
  replace G1 := hid G1
  have G2 := fun (wx : World) (hb' : Below w.heap.size w wx) => refGet_any ((l.drop 9).take 2) (some ⟨b, o + 9, none⟩) (cap - 9) wx (octs_low8 ((HO.out.drop 9).take 2) hb' hb) (by rw [List.length_take]; omega)
  rw [show ((l.drop 9).take 2).length = 2 by rw [List.length_take, List.length_drop]; omega, ← hc2] at G2
  replace G2 := hid G2
  have G3 := fun (wx : World) (hb' : Below w.heap.size w wx) => refGet_any ((l.drop 11).take 2) (some ⟨b, o + 11, none⟩) (cap - 11) wx (octs_low8 ((HO.out.drop 11).take 2) hb' hb) (by rw [List.length_take]; omega)
  rw [show ((l.drop 11).take 2).length = 2 by rw [List.length_take, List.length_drop]; omega, ← hc3] at G3
  replace G3 := hid G3
  have CK := hid (fun (wx : World) (hb' : Below w.heap.size w wx) => (show wx.cell? ⟨b, o + 1, none⟩ = some (.int .u8 (kidsR l 0)) ∧ wx.cell? ⟨b, o + 2, none⟩ = some (.int .u8 (kidsR l 1)) ∧ wx.cell? ⟨b, o + 3, none⟩ = some (.int .u8 (kidsR l 2)) ∧ wx.cell? ⟨b, o + 4, none⟩ = some (.int .u8 (kidsR l 3)) from ⟨CC.out wx hb' 1 (by omega), CC.out wx hb' 2 (by omega), CC.out wx hb' 3 (by omega), CC.out wx hb' 4 (by omega)⟩))
  have kb0 : 0 ≤ kidsR l 0 ∧ kidsR l 0 ≤ 255 := by omega
  have kb1 : 0 ≤ kidsR l 1 ∧ kidsR l 1 ≤ 255 := by omega
  have kb2 : 0 ≤ kidsR l 2 ∧ kidsR l 2 ≤ 255 := by omega
  have kb3 : 0 ≤ kidsR l 3 ∧ kidsR l 3 ≤ 255 := by omega
  clear hk0 hk1 hk2 hk3 hc0 hc1 hc2 hc3 hx hc CC b1 b2 b3 b4
  generalize otherB 0 0 (kidsR l) (cntsR l) = BB at *
  generalize kidsR l 0 = x0 at *
  generalize kidsR l 1 = x1 at *
  generalize kidsR l 2 = x2 at *
  generalize kidsR l 3 = x3 at *
  generalize cntsR l 0 = y0 at *
  generalize cntsR l 1 = y1 at *
  generalize cntsR l 2 = y2 at *
  generalize cntsR l 3 = y3 at *
  have N0 := hid BN
  have Z0 := hid BZ
  have D0 := hid hb0
  rw [hl]
  rw [hl] at h1
  have c13 : (13 : Int) ≤ (cap : Int) := by omega
  have hbg : b ≠ w.heap.size + 1 := by omega
  have hbz : b ≠ w.heap.size := by omega
  unfold maxLen at h2
  have i5 : (5 : Int) ≤ (cap : Int) := by omega
  have i7 : (7 : Int) ≤ (cap : Int) := by omega
  have i9 : (9 : Int) ≤ (cap : Int) := by omega
  have i11 : (11 : Int) ≤ (cap : Int) := by omega
  have d5 : ¬ cap = 5 := by omega
  have d7 : ¬ cap = 7 := by omega
  have d9 : ¬ cap = 9 := by omega
  have d11 : ¬ cap = 11 := by omega
  clear BZ BN hb0 O
  go_enter Try.func43, Try.ntmps43
  go_wp2_with fail
  clear z00 hW0
  have v0 : IntKind.i64.wrap 0 = 0 := IntWalk.i64_in _ (by omega)
  have v1 : IntKind.i64.wrap 1 = 1 := IntWalk.i64_in _ (by omega)
  have v2 : IntKind.i64.wrap 2 = 2 := IntWalk.i64_in _ (by omega)
  have v3 : IntKind.i64.wrap 3 = 3 := IntWalk.i64_in _ (by omega)
  have v4 : IntKind.i64.wrap 4 = 4 := IntWalk.i64_in _ (by omega)
  have v5 : IntKind.i64.wrap 5 = 5 := IntWalk.i64_in _ (by omega)
  have v6 : IntKind.i64.wrap 6 = 6 := IntWalk.i64_in _ (by omega)
  have v7 : IntKind.i64.wrap 7 = 7 := IntWalk.i64_in _ (by omega)
  have v9 : IntKind.i64.wrap 9 = 9 := IntWalk.i64_in _ (by omega)
  have v11 : IntKind.i64.wrap 11 = 11 := IntWalk.i64_in _ (by omega)
  have v13 : IntKind.i64.wrap 13 = 13 := IntWalk.i64_in _ (by omega)
  have i13 : (13 : Int) ≤ (cap : Int) := by omega
  refine wp_loop_rounds 5 ?_
  rw [rounds_succ]
  obtain ⟨k0, k1, k2, k3⟩ := CK.out _ D0.out
  have BW0 := D0.out
  obtain ⟨ln, kn, fn⟩ := N0.out
  have wk0 : IntKind.i64.wrap x0 = x0 := IntWalk.i64_in _ (by omega)
  go_wp2_with fail
  go_region_held3 (fun w' => w'.cell? ⟨b, o + 1, none⟩ = some (.int .u8 x0))
    (first | with_reducible assumption | with_reducible exact (stay1 hbg).trans k0 | with_reducible exact (stay2 hbg).trans k0 | go_keep)
    (first
      | ((with_reducible refine (G0.out _ (by first | exact BW0 | exact BW0.drew | exact BW0.drew.setCell (by simp) _ | exact (BW0.setCell (by simp) _).drew)).mono ?_); rintro e w2 ⟨rfl, rfl⟩))
  have N1 := hid (((N0.out.set 3 (.int .i64 x0) (by simp)).set 7 (.int .i64 y0) (by simp)).drew)
  have SS1 : Sole (fun j => j = w.heap.size + 1) _ _ := (Sole.setCell (S := fun j => j = w.heap.size + 1) W0 (b := w.heap.size + 1) (o := 3) (.int .i64 x0) rfl).trans (Sole.setCell _ (b := w.heap.size + 1) (o := 7) (.int .i64 y0) rfl)
  have D1 := hid ((D0.out.trans (SS1.below (B := w.heap.size) D0.out.size fun j hj => by have h' : j = w.heap.size + 1 := hj; omega)).drew)
  have Z1 := hid ((Z0.out.sole SS1 (fun h => by have h' : w.heap.size = w.heap.size + 1 := h; omega)).drew)
  obtain ⟨w1, hw1⟩ : ∃ w9, ((W0.setCell ⟨w.heap.size + 1, 3, none⟩ (.int .i64 x0)).setCell ⟨w.heap.size + 1, 7, none⟩ (.int .i64 y0)).drew = w9 := ⟨_, rfl⟩
  rw [hw1] at N1 D1 Z1
  clear ln kn fn k0 k1 k2 k3 N0 D0 Z0 SS1 BW0 wk0
  go_wp2_with fail
  (try rw [hw1])
  clear hw1
  rw [rounds_succ]
  obtain ⟨k0, k1, k2, k3⟩ := CK.out _ D1.out
  have BW1 := D1.out
  obtain ⟨ln, kn, fn⟩ := N1.out
  have wk1 : IntKind.i64.wrap x1 = x1 := IntWalk.i64_in _ (by omega)
  go_wp2_with fail
  go_region_held3 (fun w' => w'.cell? ⟨b, o + 2, none⟩ = some (.int .u8 x1))
    (first | with_reducible assumption | with_reducible exact (stay1 hbg).trans k1 | with_reducible exact (stay2 hbg).trans k1 | go_keep)
    (first
      | ((with_reducible refine (G1.out _ (by first | exact BW1 | exact BW1.drew | exact BW1.drew.setCell (by simp) _ | exact (BW1.setCell (by simp) _).drew)).mono ?_); rintro e w2 ⟨rfl, rfl⟩))
  have N2 := hid (((N1.out.set 4 (.int .i64 x1) (by simp)).set 8 (.int .i64 y1) (by simp)).drew)
  have SS2 : Sole (fun j => j = w.heap.size + 1) _ _ := (Sole.setCell (S := fun j => j = w.heap.size + 1) w1 (b := w.heap.size + 1) (o := 4) (.int .i64 x1) rfl).trans (Sole.setCell _ (b := w.heap.size + 1) (o := 8) (.int .i64 y1) rfl)
  have D2 := hid ((D1.out.trans (SS2.below (B := w.heap.size) D1.out.size fun j hj => by have h' : j = w.heap.size + 1 := hj; omega)).drew)
  have Z2 := hid ((Z1.out.sole SS2 (fun h => by have h' : w.heap.size = w.heap.size + 1 := h; omega)).drew)
  obtain ⟨w2, hw2⟩ : ∃ w9, ((w1.setCell ⟨w.heap.size + 1, 4, none⟩ (.int .i64 x1)).setCell ⟨w.heap.size + 1, 8, none⟩ (.int .i64 y1)).drew = w9 := ⟨_, rfl⟩
  rw [hw2] at N2 D2 Z2
  clear ln kn fn k0 k1 k2 k3 N1 D1 Z1 SS2 BW1 wk1
  go_wp2_with fail
  (try rw [hw2])
  clear hw2
  rw [rounds_succ]
  obtain ⟨k0, k1, k2, k3⟩ := CK.out _ D2.out
  have BW2 := D2.out
  obtain ⟨ln, kn, fn⟩ := N2.out
  have wk2 : IntKind.i64.wrap x2 = x2 := IntWalk.i64_in _ (by omega)
  go_wp2_with fail
  go_region_held3 (fun w' => w'.cell? ⟨b, o + 3, none⟩ = some (.int .u8 x2))
    (first | with_reducible assumption | with_reducible exact (stay1 hbg).trans k2 | with_reducible exact (stay2 hbg).trans k2 | go_keep)
    (first
      | ((with_reducible refine (G2.out _ (by first | exact BW2 | exact BW2.drew | exact BW2.drew.setCell (by simp) _ | exact (BW2.setCell (by simp) _).drew)).mono ?_); rintro e w2 ⟨rfl, rfl⟩))
  have N3 := hid (((N2.out.set 5 (.int .i64 x2) (by simp)).set 9 (.int .i64 y2) (by simp)).drew)
  have SS3 : Sole (fun j => j = w.heap.size + 1) _ _ := (Sole.setCell (S := fun j => j = w.heap.size + 1) w2 (b := w.heap.size + 1) (o := 5) (.int .i64 x2) rfl).trans (Sole.setCell _ (b := w.heap.size + 1) (o := 9) (.int .i64 y2) rfl)
  have D3 := hid ((D2.out.trans (SS3.below (B := w.heap.size) D2.out.size fun j hj => by have h' : j = w.heap.size + 1 := hj; omega)).drew)
  have Z3 := hid ((Z2.out.sole SS3 (fun h => by have h' : w.heap.size = w.heap.size + 1 := h; omega)).drew)
  obtain ⟨w3, hw3⟩ : ∃ w9, ((w2.setCell ⟨w.heap.size + 1, 5, none⟩ (.int .i64 x2)).setCell ⟨w.heap.size + 1, 9, none⟩ (.int .i64 y2)).drew = w9 := ⟨_, rfl⟩
  rw [hw3] at N3 D3 Z3
  clear ln kn fn k0 k1 k2 k3 N2 D2 Z2 SS3 BW2 wk2
  go_wp2_with fail
  (try rw [hw3])
  clear hw3
  rw [rounds_succ]
  obtain ⟨k0, k1, k2, k3⟩ := CK.out _ D3.out
  have BW3 := D3.out
  obtain ⟨ln, kn, fn⟩ := N3.out
  have wk3 : IntKind.i64.wrap x3 = x3 := IntWalk.i64_in _ (by omega)
  go_wp2_with fail
  go_region_held3 (fun w' => w'.cell? ⟨b, o + 4, none⟩ = some (.int .u8 x3))
    (first | with_reducible assumption | with_reducible exact (stay1 hbg).trans k3 | with_reducible exact (stay2 hbg).trans k3 | go_keep)
    (first
      | ((with_reducible refine (G3.out _ (by first | exact BW3 | exact BW3.drew | exact BW3.drew.setCell (by simp) _ | exact (BW3.setCell (by simp) _).drew)).mono ?_); rintro e w2 ⟨rfl, rfl⟩))
  have N4 := hid (((N3.out.set 6 (.int .i64 x3) (by simp)).set 10 (.int .i64 y3) (by simp)).drew)
  have SS4 : Sole (fun j => j = w.heap.size + 1) _ _ := (Sole.setCell (S := fun j => j = w.heap.size + 1) w3 (b := w.heap.size + 1) (o := 6) (.int .i64 x3) rfl).trans (Sole.setCell _ (b := w.heap.size + 1) (o := 10) (.int .i64 y3) rfl)
  have D4 := hid ((D3.out.trans (SS4.below (B := w.heap.size) D3.out.size fun j hj => by have h' : j = w.heap.size + 1 := hj; omega)).drew)
  have Z4 := hid ((Z3.out.sole SS4 (fun h => by have h' : w.heap.size = w.heap.size + 1 := h; omega)).drew)
  obtain ⟨w4, hw4⟩ : ∃ w9, ((w3.setCell ⟨w.heap.size + 1, 6, none⟩ (.int .i64 x3)).setCell ⟨w.heap.size + 1, 10, none⟩ (.int .i64 y3)).drew = w9 := ⟨_, rfl⟩
  rw [hw4] at N4 D4 Z4
  clear ln kn fn k0 k1 k2 k3 N3 D3 Z3 SS4 BW3 wk3
  go_wp2_with fail
  (try rw [hw4])
  clear hw4
  rw [rounds_succ]
  clear CK G0 G1 G2 G3 HO
  obtain ⟨ln, kn, fn⟩ := N4.out
  go_wp2_with fail
  refine (KN.out _).mono ?_
  rintro e w5 ⟨rfl, hb5⟩
  have N5 := hid (N4.out.more hb5)
  have Z5 := hid (Z4.out.more hb5)
  have D5 := hid (below2 D4.out hb5 D4.out.size)
  clear ln kn fn hb5 N4 Z4 D4 KN
  cases BB with
  | false =>
    have B2 := Blk.full (d := lfcells false (.slice none 0 0) 0) Z5.out rfl
    have hb2 := hid (below_fill (b := w.heap.size) (Nat.le_refl _) (lfcells false (.slice none 0 0) 0).toList 0 D5.out)
    obtain ⟨lz, kz, fz⟩ := Z5.out
    go_wp2_with fail
    show bodyPost _ _ _ _ _ (setAll w5 w.heap.size 0 (lfcells false (.slice none 0 0) 0).toList)
    generalize setAll w5 w.heap.size 0 (lfcells false (.slice none 0 0) 0).toList = w9 at *
    obtain ⟨l7, k7, f7⟩ := B2
    refine bodyPost_ret (v := .tuple #[lfval false (.slice none 0 0) 0, .bool false]) (by simp [results, Try.results43, go_sem, k7]) rfl ?_
    exact EB.out w9 (by first | trivial | rfl) hb2.out
  | true =>
    have B2 := Blk.full (d := otcells x0 x1 x2 x3 y0 y1 y2 y3) Z5.out rfl
    have hb2 := hid (below_fill (b := w.heap.size) (Nat.le_refl _) (otcells x0 x1 x2 x3 y0 y1 y2 y3).toList 0 D5.out)
    have N6 : Blk w5 (w.heap.size + 1) (otcells x0 x1 x2 x3 y0 y1 y2 y3) := N5.out
    obtain ⟨lz, kz, fz⟩ := Z5.out
    obtain ⟨ln, kn, fn⟩ := N6
    go_wp2_with fail
    show bodyPost _ _ _ _ _ (setAll w5 w.heap.size 0 (otcells x0 x1 x2 x3 y0 y1 y2 y3).toList)
    generalize setAll w5 w.heap.size 0 (otcells x0 x1 x2 x3 y0 y1 y2 y3).toList = w9 at *
    obtain ⟨l7, k7, f7⟩ := B2
    refine bodyPost_ret (v := .tuple #[otval x0 x1 x2 x3 y0 y1 y2 y3, .bool true]) (by simp [results, Try.results43, go_sem, k7]) rfl ?_
    exact EG.out w9 (by first | trivial | rfl) hb2.out
end Go.Proofs.Ytgnnikjpnmalmaa
