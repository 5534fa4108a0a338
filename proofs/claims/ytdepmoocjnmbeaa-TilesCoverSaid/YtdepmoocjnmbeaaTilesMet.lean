/-
  Package tiles: met.
-/
import Derived.Test.YtdepmoocjnmbeaaTilesMath
import Derived.Test.YtdepmoocjnmbeaaOwnRow
import Derived.Test.YtdepmoocjnmbeaaRegion
import Derived.BigQuiet
import Derived.Lib.BufferMore
namespace Go.Proofs.Ytdepmoocjnmbeaa
open Go.RowKit
set_option linter.unusedVariables false
set_option linter.unusedSimpArgs false

structure Cl where
  x : Int
  y : Int
  l : Int
def clT : RowT Cl := { ty := 32, sl := 27, sz := 3, bytes := 16, zero := cl 0 0 0, cells := fun c => [.int .u32 c.x, .int .u32 c.y, .int .i64 c.l], dflt := ⟨0, 0, 0⟩ }
theorem clOk : clT.Ok := ⟨Try.underlying27, by kernel_rfl, rfl, by decide, fun _ => rfl, fun x u hu => by
  simp [clT] at hu
  rcases hu with rfl | rfl | rfl <;> rfl⟩
abbrev winA (x y n : Int) : Value := rct (floorI x n) (floorI y n) (floorI x n + (pw n - 1)) (floorI y n + (pw n - 1))
theorem tbelow_one (w : World) (o : Obj) : Below w.heap.size w (w.alloc o) := (Below.refl _ _).alloc (Nat.le_refl _) _
theorem tmeas (N k : Nat) (h : k < N) (z : Int) (hz : z = ((k + 1 : Nat) : Int)) : N - (intOf (.int .i64 z)).toNat < N - (intOf (.int .i64 (k : Int))).toNat := by
  subst hz
  show N - (((k + 1 : Nat) : Int)).toNat < N - ((k : Int)).toNat
  rw [Int.toNat_natCast, Int.toNat_natCast]
  omega
/-- One cell put into a row. -/
theorem one_cell {w : World} (c : Cl) {g : Nat} (B : Blk w g #[.int .u32 c.x, .int .u32 c.y, .int .i64 c.l]) : RowOf clT w (some ⟨g, 0, none⟩) [c] := rowOf_one clOk B (x := c) rfl

set_option maxRecDepth 100000 in
set_option maxHeartbeats 8000000 in
theorem met_any (x y k n : Int) (x0 : 0 ≤ x) (x1 : x ≤ 4294967295) (y0 : 0 ≤ y) (y1 : y ≤ 4294967295) (k0 : 0 ≤ k) (hk : k < n) (hn : n ≤ 32) (w : World) :
    Calls Try.prog 22 #[cl (floorI x k) (floorI y k) k, winA x y n] w fun e w' => ∃ p c, e = .returned (.slice p 1 c) ∧ RowOwn clT w' w.heap.size (.slice p 1 c) [⟨floorI x (k + 1), floorI y (k + 1), k + 1⟩] ∧ Below w.heap.size w w' := by
  have hlk : lvl k = k := by unfold lvl; omega
  have hlk1 : lvl (k + 1) = k + 1 := by unfold lvl; omega
  have tx := tfloor_top x0 x1 k0 (show k ≤ 32 by omega)
  have ty := tfloor_top y0 y1 k0 (show k ≤ 32 by omega)
  have h2 := pw_next k0 (show k < 32 by omega)
  have hD := pw_bd (show (0 : Int) ≤ k + 1 by omega) (show k + 1 ≤ 32 by omega)
  have KK := fun q w => kid_any (floorI x k) (floorI y k) k q tx.1 (by omega) ty.1 (by omega) w
  rw [hlk, floor_self k0 (show k ≤ 32 by omega), floor_self k0 (show k ≤ 32 by omega)] at KK
  have KR := fun (b b' : Int) (hb : b = 0 ∨ b = 1) (hb' : b' = 0 ∨ b' = 1) w => rectc_any (floorI x k + b * pw (k + 1)) (floorI y k + b' * pw (k + 1)) (k + 1) (by rcases hb with rfl | rfl <;> omega) (by rcases hb with rfl | rfl <;> omega) (by rcases hb' with rfl | rfl <;> omega) (by rcases hb' with rfl | rfl <;> omega) w
  rw [hlk1] at KR
  have hkf := fun (b : Int) => kid_floor (x := x) (b := b) k0 (show k < 32 by omega)
  have hkg := fun (b : Int) => kid_floor (x := y) (b := b) k0 (show k < 32 by omega)
  simp only [hkf, hkg] at KR
  have hmx := hid (fun (b : Int) (hb : b = 0 ∨ b = 1) => kid_meets x0 x1 k0 hk hn hb)
  have hmy := hid (fun (b : Int) (hb : b = 0 ∨ b = 1) => kid_meets y0 y1 k0 hk hn hb)
  have hnx := hid (floor_next (x := x) k0 (show k < 32 by omega))
  have hny := hid (floor_next (x := y) k0 (show k < 32 by omega))
  have hbx : x / pw (k + 1) % 2 = 0 ∨ x / pw (k + 1) % 2 = 1 := by omega
  have hby : y / pw (k + 1) % 2 = 0 ∨ y / pw (k + 1) % 2 = 1 := by omega
  have KM := hid (fun a b c d w => meets_any a b c d (floorI x n) (floorI y n) (floorI x n + (pw n - 1)) (floorI y n + (pw n - 1)) w)
  have hkid := hid (fun q => show kid (floorI x k) (floorI y k) k q = cl (floorI x k + q % 2 * pw (k + 1)) (floorI y k + q / 2 % 2 * pw (k + 1)) (k + 1) from by
    show cl (kidX (floorI x k) k (q % 2)) (kidX (floorI y k) k (q / 2 % 2)) (kidL k) = _
    unfold kidX kidL
    rw [if_pos (show k < 32 by omega), if_pos (show k < 32 by omega), if_pos (show k < 32 by omega)])
  have hmeet := hid (fun (b b' : Int) (hb : b = 0 ∨ b = 1) (hb' : b' = 0 ∨ b' = 1) => show meetsB (floorI x k + b * pw (k + 1)) (floorI y k + b' * pw (k + 1)) (floorI x k + b * pw (k + 1) + (pw (k + 1) - 1)) (floorI y k + b' * pw (k + 1) + (pw (k + 1) - 1)) (floorI x n) (floorI y n) (floorI x n + (pw n - 1)) (floorI y n + (pw n - 1)) = (decide (b = x / pw (k + 1) % 2) && decide (b' = y / pw (k + 1) % 2)) from by
    rw [meets_iff, hmx.out b hb, hmy.out b' hb'])
  have hP : (⟨floorI x (k + 1), floorI y (k + 1), k + 1⟩ : Cl) = ⟨floorI x k + x / pw (k + 1) % 2 * pw (k + 1), floorI y k + y / pw (k + 1) % 2 * pw (k + 1), k + 1⟩ := by rw [hnx.out, hny.out]
  rw [hP]
  clear hmx hmy hnx hny hkf hkg hP tx ty h2 hD hlk hlk1
  unfold winA at *
  generalize floorI x n + (pw n - 1) = F1 at *
  generalize floorI y n + (pw n - 1) = G1 at *
  generalize floorI x n = F at *
  generalize floorI y n = G at *
  generalize floorI x k = X at *
  generalize floorI y k = Y at *
  generalize x / pw (k + 1) % 2 = bx at *
  generalize y / pw (k + 1) % 2 = by' at *
  generalize pw (k + 1) = D at *
  obtain ⟨q0, hq0, hq1, hq2⟩ : ∃ q0 : Nat, q0 < 4 ∧ (q0 : Int) % 2 = bx ∧ (q0 : Int) / 2 % 2 = by' := ⟨(bx + 2 * by').toNat, by omega, by omega, by omega⟩
  have hdec : ∀ q : Nat, q < 4 → (decide ((q : Int) % 2 = bx) && decide ((q : Int) / 2 % 2 = by')) = decide (q = q0) := fun q hq => by
    by_cases h : q = q0
    · subst h; simp [hq1, hq2]
    · rw [decide_eq_false h, Bool.and_eq_false_iff]
      by_cases h1 : (q : Int) % 2 = bx
      · exact .inr (decide_eq_false (by omega))
      · exact .inl (decide_eq_false h1)
  have hq12 := hid (And.intro hq1 hq2)
  replace hdec := hid hdec
  replace KK := hid KK
  replace KR := hid KR
  clear hq1 hq2 hbx hby x0 x1 y0 y1
  have b1 := tbelow_one w (.cells #[.int .u32 X, .int .u32 Y, .int .i64 k] 32)
  have b2 := tbelow_one (w.alloc (.cells #[.int .u32 X, .int .u32 Y, .int .i64 k] 32)) (.cells #[.int .u32 F, .int .u32 G, .int .u32 F1, .int .u32 G1] 24)
  have B0 := hid ((Blk.new w #[.int .u32 X, .int .u32 Y, .int .i64 k] 32).more b2)
  have B1 := Blk.new (w.alloc (.cells #[.int .u32 X, .int .u32 Y, .int .i64 k] 32)) #[.int .u32 F, .int .u32 G, .int .u32 F1, .int .u32 G1] 24
  rw [show (w.alloc (.cells #[.int .u32 X, .int .u32 Y, .int .i64 k] 32)).heap.size = w.heap.size + 1 by simp] at B1
  replace B1 := hid B1
  have D0 := hid (below2 b1 b2 b1.size)
  clear b1 b2
  go_enter Try.func22, Try.ntmps22
  go_wp2_with fail
  go_loopw [5, 8] (fun v i wr => ∃ (q mm : Nat) (p : Option Addr) (c : Nat), q ≤ 4 ∧ i = .int .i64 (q : Int) ∧ v = .slice p mm c ∧ Hid ((q ≤ q0 → p = none ∧ mm = 0 ∧ c = 0) ∧ (q0 < q → mm = 1)) ∧ Below w.heap.size w wr ∧ Blk wr w.heap.size #[.int .u32 X, .int .u32 Y, .int .i64 k] ∧ Blk wr (w.heap.size + 1) #[.int .u32 F, .int .u32 G, .int .u32 F1, .int .u32 G1] ∧ (q0 < q → RowOwn clT wr w.heap.size (.slice p 1 c) [⟨X + bx * D, Y + by' * D, k + 1⟩])) (fun _ i _ => 4 - (intOf i).toNat)
  case atStart => exact ⟨0, 0, none, 0, by omega, rfl, rfl, hid ⟨fun _ => ⟨rfl, rfl, rfl⟩, fun h => absurd h (by omega)⟩, D0.out, B0.out, B1.out, fun h => absurd h (by omega)⟩
  case round =>
    obtain ⟨q, mm, p, c, hq, rfl, rfl, hnil, hbr, BA, BB, hrow⟩ := hrel
    by_cases hlt : q < 4
    · have hlt' : (q : Int) < 4 := by omega
      have K1 := KK.out (q : Int)
      rw [hkid.out] at K1
      have hb01 : (q : Int) % 2 = 0 ∨ (q : Int) % 2 = 1 := by omega
      have hb02 : (q : Int) / 2 % 2 = 0 ∨ (q : Int) / 2 % 2 = 1 := by omega
      have K2 := KR.out ((q : Int) % 2) ((q : Int) / 2 % 2) hb01 hb02
      have K3 := KM.out (X + (q : Int) % 2 * D) (Y + (q : Int) / 2 % 2 * D) (X + (q : Int) % 2 * D + (D - 1)) (Y + (q : Int) / 2 % 2 * D + (D - 1))
      rw [hmeet.out _ _ hb01 hb02, hdec.out q hlt] at K3
      have hAB := hid (fun (h : q = q0) => show X + (q : Int) % 2 * D = X + bx * D ∧ Y + (q : Int) / 2 % 2 * D = Y + by' * D from by rw [h, hq12.out.1, hq12.out.2]; exact ⟨rfl, rfl⟩)
      replace K1 := hid K1
      replace K2 := hid K2
      replace K3 := hid K3
      have hmeas := hid (tmeas 4 q hlt)
      have hkk := hid (show (q : Int) + 1 = ((q + 1 : Nat) : Int) from rfl)
      have hbrh := hid hbr
      have BAh := hid BA
      have BBh := hid BB
      have hrowh := hid hrow
      clear hb01 hb02 hbr BB hrow
      generalize X + (q : Int) % 2 * D + (D - 1) = A1 at *
      generalize Y + (q : Int) / 2 % 2 * D + (D - 1) = B1' at *
      generalize X + (q : Int) % 2 * D = A at *
      generalize Y + (q : Int) / 2 % 2 * D = Bq at *
      obtain ⟨la, ma, fa⟩ := BA
      go_wp2_with fail
      refine (K1.out _).mono ?_
      rintro e w3 ⟨rfl, hb3⟩
      have b4 := tbelow_one w3 (.cells #[.int .u32 A, .int .u32 Bq, .int .i64 (k + 1)] 32)
      have b34 := below2 hb3 b4 hb3.size
      have B4 := Blk.new w3 #[.int .u32 A, .int .u32 Bq, .int .i64 (k + 1)] 32
      have E4 := hid (below2 hbrh.out b34 hbrh.out.size)
      have BA4 := hid (BAh.out.more b34)
      have BB4 := hid (BBh.out.more b34)
      have h34 := hid b34
      have B4h := hid B4
      clear hb3 b4 b34 K1 la ma fa
      obtain ⟨l4, m4, f4⟩ := B4
      go_wp2_with fail
      generalize w3.alloc (.cells #[.int .u32 A, .int .u32 Bq, .int .i64 (k + 1)] 32) = W4 at *
      generalize w3.heap.size = g4 at *
      have q0' := fun u : Later W4 => u.blk B4h.out
      have q1' := fun u : Later W4 => u.blk BB4.out
      clear l4 m4 f4
      refine wp_region_late 3 (by kernel_rfl) (by kernel_rfl) ?_
      simp only [List.take_succ_cons, List.take_zero, List.drop_succ_cons, List.drop_zero]
      iterate 3 (go_big_quiet_step ((go_at_call 13; (with_reducible exact late_call (K2.out _)))))
      refine wpQuiet_nil ?_
      intro w5 h5'
      have h5 := late_out h5'
      have E5 := hid (below2 E4.out h5 E4.out.size)
      have B5 := hid (B4h.out.more h5)
      have BA5 := hid (BA4.out.more h5)
      have BB5 := hid (BB4.out.more h5)
      have h35 := hid (below2 h34.out h5 h34.out.size)
      clear h5 h5' q0' q1' E4 B4h BA4 BB4 h34 K2
      go_wp2_with fail
      refine (K3.out _).mono ?_
      rintro e w6 ⟨rfl, hb6⟩
      have E6 := hid (below2 E5.out hb6 E5.out.size)
      have B6 := B5.out.more hb6
      have BA6 := hid (BA5.out.more hb6)
      have BB6 := hid (BB5.out.more hb6)
      have h36 := hid (below2 h35.out hb6 h35.out.size)
      clear hb6 K3 E5 B5 BA5 BB5 h35
      by_cases hqq : q = q0
      · have hd : decide (q = q0) = true := decide_eq_true hqq
        have hEq := hid (hnil.out.1 (by omega))
        have hAB' := hid (hAB.out hqq)
        have bB := tbelow_one w6 (.cells #[.int .u32 A, .int .u32 Bq, .int .i64 (k + 1)] 32)
        have BN := Blk.new w6 #[.int .u32 A, .int .u32 Bq, .int .i64 (k + 1)] 32
        have RN := one_cell (w := w6.alloc (.cells #[.int .u32 A, .int .u32 Bq, .int .i64 (k + 1)] 32)) (⟨A, Bq, k + 1⟩ : Cl) BN
        have ON : RowOwn clT (w6.alloc (.cells #[.int .u32 A, .int .u32 Bq, .int .i64 (k + 1)] 32)) w.heap.size (.slice p mm c) [] := by rw [hEq.out.1, hEq.out.2.1, hEq.out.2.2]; exact RowOwn.nil _ _
        have E7 := below2 E6.out bB E6.out.size
        obtain ⟨v', w8, hr, O8, gr, mv⟩ := append_row clOk w.heap.size 27 _ (.slice p mm c) [] ON (some ⟨w6.heap.size, 0, none⟩) 1 [(⟨A, Bq, k + 1⟩ : Cl)] RN (by show (0 + 1) * 16 ≤ _; omega) (by unfold maxLen; simp) E7.size
        obtain ⟨p8, c8, hv8, _, _, _⟩ := RowOwn.open clOk O8
        rw [List.nil_append] at hv8 O8
        have S78 := Sole.grown (S := fun _ => False) gr (fun k e => by rw [hEq.out.1] at e; cases e)
        have E8 := hid (E7.trans (S78.below (B := w.heap.size) E7.size (fun k e => e.elim)))
        have B8 := hid (And.intro ((BA6.out.more bB).sole S78 id) ((BB6.out.more bB).sole S78 id))
        subst hv8
        have O8h := hid O8
        obtain ⟨l6, m6, f6⟩ := B6
        clear S78 gr mv O8 E7 RN BN bB ON
        have hqh := hid hqq
        rw [hd]
        clear hd hqq
        go_wp2_with (at_builtin; refine Lib.wpList_append_run _ rfl _ _ _ _ rfl _ _ rfl rfl _ _ hr ?_)
        refine ⟨⟨q + 1, 1, p8, c8, by omega, ?_, rfl, hid ⟨fun h => absurd h (by have := hqh.out; omega), fun _ => rfl⟩, E8.out, B8.out.1, B8.out.2, fun _ => ?_⟩, hmeas.out _ hkk.out⟩
        · rw [hkk.out]
        · rw [← hAB'.out.1, ← hAB'.out.2]
          exact O8h.out
      · have hd : decide (q = q0) = false := decide_eq_false hqq
        have hqh := hid hqq
        rw [hd]
        clear hd hqq B6
        go_wp2_with fail
        refine ⟨⟨q + 1, mm, p, c, by omega, ?_, rfl, hid ⟨fun h => hnil.out.1 (by omega), fun h => hnil.out.2 (by have := hqh.out; omega)⟩, E6.out, BA6.out, BB6.out, fun h => ?_⟩, hmeas.out _ hkk.out⟩
        · rw [hkk.out]
        · exact RowOwn.more (hrowh.out (by have := hqh.out; omega)) h36.out
    · obtain rfl : q = 4 := by omega
      have hrowh := hid (hrow (by omega))
      obtain rfl : mm = 1 := hnil.out.2 (by omega)
      have hbrh := hid hbr
      clear hrow hnil hbr BA BB
      go_wp2_with fail
      go_ret
      exact ⟨p, c, rfl, hrowh.out, hbrh.out⟩
end Go.Proofs.Ytdepmoocjnmbeaa
