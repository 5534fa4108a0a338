/-
  Package batch: Read, of fewer than three octets.
-/
import Derived.Test.YtgnnikjpnmalmaaBatchRead
namespace Go.Proofs.Ytgnnikjpnmalmaa
open Go.RowKit
set_option linter.unusedVariables false
set_option linter.unusedSimpArgs false

/-- Three numbers of too few octets. -/
theorem short_states (l : List UInt8) (h : l.length < 3) : ∃ (b1 b2 : Bool) (r1 r2 : List UInt8) (x0 x1 : Nat), (b1 = (false || decide (l.length < 1)) ∧ r1 = (if b1 then [] else l.drop 1) ∧ x0 = numOf (if b1 then [] else l.take 1)) ∧
    (b2 = (b1 || decide (r1.length < 1)) ∧ r2 = (if b2 then [] else r1.drop 1) ∧ x1 = numOf (if b2 then [] else r1.take 1)) ∧ true = (b2 || decide (r2.length < 1)) ∧ x0 < 256 ^ 1 ∧ x1 < 256 ^ 1 := by
  have bd : ∀ (b : Bool) (m : List UInt8) (k : Nat), numOf (if b then [] else m.take k) < 256 ^ k := by
    intro b m k
    cases b with
    | true => exact Nat.pos_of_ne_zero (by simp [numOf])
    | false =>
      have := numOf_lt (m.take k)
      have hp : (256 : Nat) ^ (m.take k).length ≤ 256 ^ k := Nat.pow_le_pow_right (by omega) (by rw [List.length_take]; omega)
      simp only [Bool.false_eq_true, if_false]
      omega
  refine ⟨_, _, _, _, _, _, ⟨rfl, rfl, rfl⟩, ⟨rfl, rfl, rfl⟩, ?_, bd _ _ _, bd _ _ _⟩
  match l, h with
  | [], _ => simp
  | [x], _ => simp
  | [x, y], _ => simp

set_option maxRecDepth 100000 in
set_option maxHeartbeats 8000000 in
theorem bread_short (l : List UInt8) (a : Option Addr) (cap : Nat) (h3 : l.length < 3) (w : World) (O : Octs w a l) :
    Calls Try.prog 62 #[.slice a l.length cap] w (RdPost l w) := by
  obtain ⟨W0, hW0⟩ : ∃ W0, w.alloc (.cells #[.int .i64 0, .bool false, .slice none 0 0] 90) = W0 := ⟨_, rfl⟩
  have hb0 : Below w.heap.size w W0 := by rw [← hW0]; exact (Below.refl _ _).alloc (Nat.le_refl _) _
  have BX : Blk W0 w.heap.size #[.int .i64 0, .bool false, .slice none 0 0] := by rw [← hW0]; exact Blk.new w _ _
  have KO := hid (rs_open l a cap W0 (O.more hb0) (by omega))
  have hg : readG l = false := by unfold readG; rw [show decide (3 ≤ l.length) = false from decide_eq_false (by omega)]; rfl
  have EB : Hid (∀ w', Below w.heap.size w w' → RdPost l w (.returned (.tuple #[smval 0 false none 0 0, .int .i64 16])) w') := hid (fun w' hb => .inr ⟨hg, rfl, hb⟩)
  obtain ⟨b1, b2, r1, r2, x0, x1, ⟨e1, e2, e3⟩, ⟨e4, e5, e6⟩, e7, x0b, x1b⟩ := short_states l h3
  have K1 := fun w R => rs_num 1 1 rfl 0 l false b1 e1 w R
  have KK1 := fun q w R => rs_num 1 1 rfl q l false b1 e1 w R
  have KK2 := fun q w R => rs_num 1 1 rfl q r1 b1 b2 e4 w R
  have KK3 := fun q w R => rs_num 1 1 rfl q r2 b2 true e7 w R
  simp only [← e2, ← e3] at KK1
  simp only [← e5, ← e6] at KK2
  simp only [if_true, show numOf [] = 0 from rfl] at KK3
  replace KK1 := hid KK1
  replace KK2 := hid KK2
  replace KK3 := hid KK3
  have HBX := hid BX
  have D0 := hid hb0
  clear K1 BX O hb0 e1 e2 e3 e4 e5 e6 e7 hg
  go_enter Try.func62, Try.ntmps62
  go_wp2_with fail
  refine KO.out.mono ?_
  rintro e w1 ⟨q, rfl, hq, R1, hb1⟩
  have hs0 : W0.heap.size = w.heap.size + 1 := by rw [← hW0]; simp
  have hgq : w.heap.size < q := by omega
  have HB1 := hid (HBX.out.more hb1)
  have D1 := hid (below2 D0.out hb1 D0.out.size)
  have K := hid (KK1.out q w1 R1)
  clear hb1 KO hq hW0 HBX D0 R1
  go_wp2_with fail
  refine K.out.mono ?_
  rintro e w2 ⟨rfl, R2, S2⟩
  have HB2 := HB1.out.sole S2 (fun h => by have h' : w.heap.size = q := h; omega)
  have D2 := D1.out.trans (S2.below (B := w.heap.size) D1.out.size fun j hj => by have h' : j = q := hj; omega)
  have hbA : Below w2.heap.size w2 (w2.alloc (.cells #[.int .i64 x0, .bool false, .slice none 0 0] 90)) := (Below.refl _ _).alloc (Nat.le_refl _) _
  have BS := Blk.new w2 #[.int .i64 x0, .bool false, .slice none 0 0] 90
  have hq2 : q < w2.heap.size := R2.1.lt
  have HB3 := hid (HB2.more hbA)
  have D3 := hid (D2.trans (hbA.mono D2.size))
  have hg2 : w.heap.size < w2.heap.size := HB2.lt
  have K2 := hid (KK2.out q _ (R2.more hbA))
  replace BS := hid BS
  obtain ⟨g5, hg5⟩ : ∃ g5, w2.heap.size = g5 := ⟨_, rfl⟩
  clear K HB1 D1 S2 HB2 D2 R2 hbA
  go_wp2_with fail
  refine K2.out.mono ?_
  rintro e w3 ⟨rfl, R3, S3⟩
  have HB4 := HB3.out.sole S3 (fun h => by have h' : w.heap.size = q := h; omega)
  have D4 := D3.out.trans (S3.below (B := w.heap.size) D3.out.size fun j hj => by have h' : j = q := hj; omega)
  have BS4 := BS.out.sole S3 (fun h => by have h' : w2.heap.size = q := h; omega)
  rw [hg5] at BS4 hq2 hg2
  simp only [hg5]
  have S5 : Sole (fun j => j = g5) w3 (w3.setCell ⟨g5, 1, none⟩ (.bool ((x1 : Int) == 1))) := Sole.setCell _ _ rfl
  have R5 : RS (w3.setCell ⟨g5, 1, none⟩ (.bool ((x1 : Int) == 1))) q r2 b2 := ⟨R3.1.kept S5 (fun j hj h => by have h' : j = g5 := h; omega), R3.2⟩
  have HB5 := hid (HB4.sole S5 (fun h => by have h' : w.heap.size = g5 := h; omega))
  have D5 := hid (D4.trans (S5.below (B := w.heap.size) D4.size fun j hj => by have h' : j = g5 := hj; omega))
  have K3 := hid (KK3.out q _ R5)
  clear K2 HB3 D3 S3 HB4 D4 R3 S5 R5 BS
  obtain ⟨ls, ks, fs⟩ := BS4
  go_wp2_with fail
  refine K3.out.mono ?_
  rintro e wr ⟨rfl, R6, S6⟩
  have HBZ := hid (HB5.out.sole S6 (fun h => by have h' : w.heap.size = q := h; omega))
  have D := hid (D5.out.trans (S6.below (B := w.heap.size) D5.out.size fun j hj => by have h' : j = q := hj; omega))
  have KE := err_any q [] _ wr R6.1
  simp only [if_true] at KE
  replace KE := hid KE
  clear K3 HB5 D5 S6 R6 ls ks fs
  obtain ⟨lz, kz, fz⟩ := HBZ.out
  have xI : (x1 : Int) ≤ 255 := by omega
  go_wp2_with fail
  refine wp_loop_rounds 1 ?_
  rw [rounds_succ]
  by_cases g1 : 1 < (x1 : Int)
  · go_wp2_with fail
    have B2 := Blk.fill [.int .i64 0, .bool false, .slice none 0 0] 0 HBZ.out (by simp)
    have hb2 := hid (below_fill (b := w.heap.size) (Nat.le_refl _) [.int .i64 0, .bool false, .slice none 0 0] 0 D.out)
    show bodyPost _ _ _ _ _ (setAll wr w.heap.size 0 [.int .i64 0, .bool false, .slice none 0 0])
    obtain ⟨w7x, hw7x⟩ : ∃ x, setAll wr w.heap.size 0 [.int .i64 0, .bool false, .slice none 0 0] = x := ⟨_, rfl⟩
    rw [hw7x] at B2 hb2
    rw [hw7x]
    obtain ⟨l7, k7, f7⟩ := B2
    refine bodyPost_ret (v := .tuple #[smval 0 false none 0 0, .int .i64 16]) (by simp [results, Try.results62, go_sem, k7, fillC]) rfl ?_
    exact EB.out w7x hb2.out
  · replace g1 := decide_eq_false g1
    go_wp2_with fail
    refine KE.out.mono ?_
    rintro e w7 ⟨rfl, hw7⟩
    rw [hw7]
    clear hw7 w7
    go_wp2_with fail
    have B2 := Blk.fill [.int .i64 0, .bool false, .slice none 0 0] 0 HBZ.out (by simp)
    have hb2 := hid (below_fill (b := w.heap.size) (Nat.le_refl _) [.int .i64 0, .bool false, .slice none 0 0] 0 D.out)
    show bodyPost _ _ _ _ _ (setAll wr w.heap.size 0 [.int .i64 0, .bool false, .slice none 0 0])
    obtain ⟨w7x, hw7x⟩ : ∃ x, setAll wr w.heap.size 0 [.int .i64 0, .bool false, .slice none 0 0] = x := ⟨_, rfl⟩
    rw [hw7x] at B2 hb2
    rw [hw7x]
    obtain ⟨l7, k7, f7⟩ := B2
    refine bodyPost_ret (v := .tuple #[smval 0 false none 0 0, .int .i64 16]) (by simp [results, Try.results62, go_sem, k7, fillC]) rfl ?_
    exact EB.out w7x hb2.out
/-- Read, of any octets. -/
theorem bread_any (l : List UInt8) (a : Option Addr) (cap : Nat) (hl : l.length ≤ 140737488355328) (w : World) (O : Octs w a l) :
    Calls Try.prog 62 #[.slice a l.length cap] w (RdPost l w) := by
  by_cases h : 3 ≤ l.length
  · exact bread_long l a cap hl h w O
  · exact bread_short l a cap (by omega) w O
end Go.Proofs.Ytgnnikjpnmalmaa
