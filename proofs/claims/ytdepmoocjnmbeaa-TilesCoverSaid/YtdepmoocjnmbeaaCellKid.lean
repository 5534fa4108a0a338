/-
  More of package cell: the quarter of a cell.
-/
import Derived.Test.YtdepmoocjnmbeaaCellMore
import Derived.Laws.BitsLemmas
namespace Go.Proofs.Ytdepmoocjnmbeaa
open Go.RowKit
set_option linter.unusedVariables false
set_option linter.unusedSimpArgs false

theorem or_next {x L : Int} (hx : 0 ≤ x) (hx' : x ≤ 4294967295) (h : 0 ≤ L) (h' : L < 32) : bits .or .u32 (floorI x L) (pw (L + 1)) = floorI x L + pw (L + 1) := by
  have b := pw_bd (L := L + 1) (by omega) (by omega)
  have b0 := pw_bd (L := L) (by omega) (by omega)
  have f := floor_bd hx hx' h (by omega)
  have e0 := pw_next h h'
  rw [u32_or (floorI x L) (pw (L + 1)) f.1 (by omega) (by omega) (by omega)]
  have e2 : (floorI x L).toNat = (x.toNat / 2 ^ (32 - L).toNat) <<< (32 - L).toNat := by
    rw [Nat.shiftLeft_eq]
    have : floorI x L = ((x.toNat / 2 ^ (32 - L).toNat * 2 ^ (32 - L).toNat : Nat) : Int) := by
      unfold floorI pw
      have ex : ((x.toNat : Nat) : Int) = x := by omega
      rw [Int.natCast_mul, Int.natCast_ediv, ex]
    omega
  have e3 : (pw L).toNat = 2 ^ (32 - L).toNat := by unfold pw; exact Int.toNat_natCast _
  rw [e2, ← Nat.shiftLeft_add_eq_or_of_lt (by omega), ← e2]
  omega

/-- A floor of the next level: one of two. -/
theorem floor_next {x L : Int} (h : 0 ≤ L) (h' : L < 32) : floorI x (L + 1) = floorI x L + x / pw (L + 1) % 2 * pw (L + 1) := by
  have e0 := pw_next h h'
  have b := pw_bd (L := L + 1) (by omega) (by omega)
  unfold floorI
  rw [e0]
  generalize pw (L + 1) = p at *
  have e1 : x / (2 * p) = x / p / 2 := by rw [Int.mul_comm, ← Int.ediv_ediv_of_nonneg (by omega)]
  rw [e1]
  have e2 : x / p = x / p / 2 * 2 + x / p % 2 := by omega
  have e3 : x / p * p = (x / p / 2 * 2 + x / p % 2) * p := by rw [← e2]
  rw [e3, Int.add_mul, Int.mul_assoc]

theorem and1 (n : Int) : bits .and .i64 n 1 = n % 2 := by
  have h1 : (BitVec.ofInt 64 1).toNat = 2 ^ 1 - 1 := by decide
  have key : (BitVec.ofInt 64 n &&& BitVec.ofInt 64 1).toNat = (n % ((2 ^ 64 : Nat) : Int)).toNat % 2 ^ 1 := by
    rw [BitVec.toNat_and, BitVec.toNat_ofInt, h1, Nat.and_two_pow_sub_one_eq_mod]
  show IntKind.i64.wrap ((BitVec.ofInt 64 n &&& BitVec.ofInt 64 1).toNat : Nat) = n % 2
  rw [key, IntKind.wrap_i64]
  omega
theorem and3 (n : Int) : bits .and .i64 n 3 = n % 4 := by
  have h1 : (BitVec.ofInt 64 3).toNat = 2 ^ 2 - 1 := by decide
  have key : (BitVec.ofInt 64 n &&& BitVec.ofInt 64 3).toNat = (n % ((2 ^ 64 : Nat) : Int)).toNat % 2 ^ 2 := by
    rw [BitVec.toNat_and, BitVec.toNat_ofInt, h1, Nat.and_two_pow_sub_one_eq_mod]
  show IntKind.i64.wrap ((BitVec.ofInt 64 n &&& BitVec.ofInt 64 3).toNat : Nat) = n % 4
  rw [key, IntKind.wrap_i64]
  omega
theorem and2 (n : Int) : bits .and .i64 n 2 = n / 2 % 2 * 2 := by
  have h1 : (BitVec.ofInt 64 2).toNat = 2 ^ 1 := by decide
  have key : (BitVec.ofInt 64 n &&& BitVec.ofInt 64 2).toNat = (n % ((2 ^ 64 : Nat) : Int)).toNat / 2 ^ 1 % 2 * 2 ^ 1 := by
    rw [BitVec.toNat_and, BitVec.toNat_ofInt, h1, nat_bit]
  show IntKind.i64.wrap ((BitVec.ofInt 64 n &&& BitVec.ofInt 64 2).toNat : Nat) = n / 2 % 2 * 2
  rw [key, IntKind.wrap_i64]
  omega

def kidX (X L b : Int) : Int := if L < 32 then X + b * pw (L + 1) else X
def kidL (L : Int) : Int := if L < 32 then L + 1 else L
abbrev kid (X Y L q : Int) : Value := cl (kidX X L (q % 2)) (kidX Y L (q / 2 % 2)) (kidL L)

set_option maxRecDepth 100000 in
set_option maxHeartbeats 4000000 in
theorem kid_any (cx cy l q : Int) (gx : 0 ≤ cx) (gx' : cx ≤ 4294967295) (gy : 0 ≤ cy) (gy' : cy ≤ 4294967295) (w : World) :
    Calls Try.prog 15 #[cl cx cy l, .int .i64 q] w fun e w' => e = .returned (kid (floorI cx (lvl l)) (floorI cy (lvl l)) (lvl l) q) ∧ Below w.heap.size w w' := by
  have K := hid (fun w => taken_any cx cy l gx gx' gy gy' w)
  have bl := lvl_bd l
  have S := hid (fun w => side_any (lvl l) bl.1 bl.2 w)
  have pb := pw_bd bl.1 bl.2
  have ways : (∃ h bx by' : Int, decide (lvl l = 32) = false ∧ lvl l ≠ 32 ∧ lvl l < 32 ∧ pw (lvl l) / 2 = h ∧ IntKind.u32.wrap h = h ∧ q % 2 = bx ∧ q / 2 % 2 = by' ∧ bits .and .i64 q 1 = bx ∧ bits .and .i64 q 2 = by' * 2 ∧ bits .or .u32 (floorI cx (lvl l)) h = floorI cx (lvl l) + h ∧ bits .or .u32 (floorI cy (lvl l)) h = floorI cy (lvl l) + h ∧
      (∀ X b : Int, kidX X (lvl l) b = X + b * h) ∧ kidL (lvl l) = lvl l + 1 ∧ ((bx = 0 ∧ by' = 0) ∨ (bx = 1 ∧ by' = 0) ∨ (bx = 0 ∧ by' = 1) ∨ (bx = 1 ∧ by' = 1))) ∨ (lvl l = 32 ∧ (∀ X b : Int, kidX X 32 b = X) ∧ kidL 32 = 32) := by
    by_cases h : lvl l < 32
    · have e := pw_next bl.1 h
      have b := pw_bd (L := lvl l + 1) (by omega) (by omega)
      refine .inl ⟨pw (lvl l + 1), q % 2, q / 2 % 2, decide_eq_false (by omega), by omega, h, by omega, IntWalk.u32_in _ (by omega), rfl, rfl, and1 q, and2 q, or_next gx gx' bl.1 h, or_next gy gy' bl.1 h, fun X b => if_pos h, if_pos h, by omega⟩
    · exact .inr ⟨by omega, fun X b => if_neg (by omega), by decide⟩
  generalize floorI cx (lvl l) = X at *
  generalize floorI cy (lvl l) = Y at *
  generalize lvl l = L at *
  generalize pw L = P at *
  rcases ways with ⟨h, bx, by', n0, n1, n2, e1, e2, e3, e4, e5, e6, e7, e8, e9, e10, e11⟩ | ⟨rfl, e9, e10⟩
  · unfold kid
    rw [e9, e9, e10, e3, e4]
    have m1 : IntKind.i64.wrap (L + 1) = L + 1 := IntWalk.i64_in _ (by omega)
    clear e9 e10 e3 e4
    rcases e11 with ⟨rfl, rfl⟩ | ⟨rfl, rfl⟩ | ⟨rfl, rfl⟩ | ⟨rfl, rfl⟩
    · simp only [Int.zero_mul, Int.one_mul, Int.add_zero] at e6 ⊢
      generalize X + h = X1 at *
      generalize Y + h = Y1 at *
      go_enter Try.func15, Try.ntmps15
      go_wp2_with fail
      refine (K.out _).mono ?_
      rintro e w1 ⟨rfl, hb1⟩
      obtain ⟨B0, B1, H⟩ := boxed2 hb1
      have HB0 := hid B0
      have HB1 := hid B1
      obtain ⟨l0, k0, f0⟩ := B0
      have H1 := hid H
      clear hb1 H B1
      go_wp2_with fail
      have B := ((HB0.out.set 0 (.int .u32 X) (by simp)).set 1 (.int .u32 Y) (by simp)).set 2 (.int .i64 L) (by simp)
      have C := ((HB1.out.other ⟨w.heap.size, 0, none⟩ (by simp) (.int .u32 X)).other ⟨w.heap.size, 1, none⟩ (by simp) (.int .u32 Y)).other ⟨w.heap.size, 2, none⟩ (by simp) (.int .i64 L)
      have D := Below.setCell (p := ⟨w.heap.size, 2, none⟩) (Below.setCell (p := ⟨w.heap.size, 1, none⟩) (Below.setCell (p := ⟨w.heap.size, 0, none⟩) H1.out (Nat.le_refl _) (.int .u32 X)) (Nat.le_refl _) (.int .u32 Y)) (Nat.le_refl _) (.int .i64 L)
      generalize hW : World.setCell _ _ _ = W
      have B0 : Blk W w.heap.size #[.int .u32 X, .int .u32 Y, .int .i64 L] := by rw [← hW]; exact B
      have B1 : Blk W (w.heap.size + 1) #[.int .u32 0, .int .u32 0, .int .i64 0] := by rw [← hW]; exact C
      have H2 : Below w.heap.size w W := by rw [← hW]; exact D
      have H2 := hid H2
      clear hW B C D l0 k0 f0 HB0 HB1 H1
      obtain ⟨l0, k0, f0⟩ := B0
      obtain ⟨l1, k1, f1⟩ := B1
      refine (S.out _).mono ?_
      rintro e w2 ⟨rfl, rfl⟩
      go_wp2
      refine bodyPost_ret (v := cl X Y (L + 1)) (by simp [results, Try.results15, go_sem, k1]) rfl ⟨rfl, ?_⟩
      repeat (with_reducible refine Below.setCell ?_ (by simp) _)
      exact H2.out
    · simp only [Int.zero_mul, Int.one_mul, Int.add_zero] at e6 ⊢
      generalize X + h = X1 at *
      generalize Y + h = Y1 at *
      go_enter Try.func15, Try.ntmps15
      go_wp2_with fail
      refine (K.out _).mono ?_
      rintro e w1 ⟨rfl, hb1⟩
      obtain ⟨B0, B1, H⟩ := boxed2 hb1
      have HB0 := hid B0
      have HB1 := hid B1
      obtain ⟨l0, k0, f0⟩ := B0
      have H1 := hid H
      clear hb1 H B1
      go_wp2_with fail
      have B := ((HB0.out.set 0 (.int .u32 X) (by simp)).set 1 (.int .u32 Y) (by simp)).set 2 (.int .i64 L) (by simp)
      have C := ((HB1.out.other ⟨w.heap.size, 0, none⟩ (by simp) (.int .u32 X)).other ⟨w.heap.size, 1, none⟩ (by simp) (.int .u32 Y)).other ⟨w.heap.size, 2, none⟩ (by simp) (.int .i64 L)
      have D := Below.setCell (p := ⟨w.heap.size, 2, none⟩) (Below.setCell (p := ⟨w.heap.size, 1, none⟩) (Below.setCell (p := ⟨w.heap.size, 0, none⟩) H1.out (Nat.le_refl _) (.int .u32 X)) (Nat.le_refl _) (.int .u32 Y)) (Nat.le_refl _) (.int .i64 L)
      generalize hW : World.setCell _ _ _ = W
      have B0 : Blk W w.heap.size #[.int .u32 X, .int .u32 Y, .int .i64 L] := by rw [← hW]; exact B
      have B1 : Blk W (w.heap.size + 1) #[.int .u32 0, .int .u32 0, .int .i64 0] := by rw [← hW]; exact C
      have H2 : Below w.heap.size w W := by rw [← hW]; exact D
      have H2 := hid H2
      clear hW B C D l0 k0 f0 HB0 HB1 H1
      obtain ⟨l0, k0, f0⟩ := B0
      obtain ⟨l1, k1, f1⟩ := B1
      refine (S.out _).mono ?_
      rintro e w2 ⟨rfl, rfl⟩
      go_wp2
      refine bodyPost_ret (v := cl X1 Y (L + 1)) (by simp [results, Try.results15, go_sem, k1]) rfl ⟨rfl, ?_⟩
      repeat (with_reducible refine Below.setCell ?_ (by simp) _)
      exact H2.out
    · simp only [Int.zero_mul, Int.one_mul, Int.add_zero] at e6 ⊢
      generalize X + h = X1 at *
      generalize Y + h = Y1 at *
      go_enter Try.func15, Try.ntmps15
      go_wp2_with fail
      refine (K.out _).mono ?_
      rintro e w1 ⟨rfl, hb1⟩
      obtain ⟨B0, B1, H⟩ := boxed2 hb1
      have HB0 := hid B0
      have HB1 := hid B1
      obtain ⟨l0, k0, f0⟩ := B0
      have H1 := hid H
      clear hb1 H B1
      go_wp2_with fail
      have B := ((HB0.out.set 0 (.int .u32 X) (by simp)).set 1 (.int .u32 Y) (by simp)).set 2 (.int .i64 L) (by simp)
      have C := ((HB1.out.other ⟨w.heap.size, 0, none⟩ (by simp) (.int .u32 X)).other ⟨w.heap.size, 1, none⟩ (by simp) (.int .u32 Y)).other ⟨w.heap.size, 2, none⟩ (by simp) (.int .i64 L)
      have D := Below.setCell (p := ⟨w.heap.size, 2, none⟩) (Below.setCell (p := ⟨w.heap.size, 1, none⟩) (Below.setCell (p := ⟨w.heap.size, 0, none⟩) H1.out (Nat.le_refl _) (.int .u32 X)) (Nat.le_refl _) (.int .u32 Y)) (Nat.le_refl _) (.int .i64 L)
      generalize hW : World.setCell _ _ _ = W
      have B0 : Blk W w.heap.size #[.int .u32 X, .int .u32 Y, .int .i64 L] := by rw [← hW]; exact B
      have B1 : Blk W (w.heap.size + 1) #[.int .u32 0, .int .u32 0, .int .i64 0] := by rw [← hW]; exact C
      have H2 : Below w.heap.size w W := by rw [← hW]; exact D
      have H2 := hid H2
      clear hW B C D l0 k0 f0 HB0 HB1 H1
      obtain ⟨l0, k0, f0⟩ := B0
      obtain ⟨l1, k1, f1⟩ := B1
      refine (S.out _).mono ?_
      rintro e w2 ⟨rfl, rfl⟩
      go_wp2
      refine bodyPost_ret (v := cl X Y1 (L + 1)) (by simp [results, Try.results15, go_sem, k1]) rfl ⟨rfl, ?_⟩
      repeat (with_reducible refine Below.setCell ?_ (by simp) _)
      exact H2.out
    · simp only [Int.zero_mul, Int.one_mul, Int.add_zero] at e6 ⊢
      generalize X + h = X1 at *
      generalize Y + h = Y1 at *
      go_enter Try.func15, Try.ntmps15
      go_wp2_with fail
      refine (K.out _).mono ?_
      rintro e w1 ⟨rfl, hb1⟩
      obtain ⟨B0, B1, H⟩ := boxed2 hb1
      have HB0 := hid B0
      have HB1 := hid B1
      obtain ⟨l0, k0, f0⟩ := B0
      have H1 := hid H
      clear hb1 H B1
      go_wp2_with fail
      have B := ((HB0.out.set 0 (.int .u32 X) (by simp)).set 1 (.int .u32 Y) (by simp)).set 2 (.int .i64 L) (by simp)
      have C := ((HB1.out.other ⟨w.heap.size, 0, none⟩ (by simp) (.int .u32 X)).other ⟨w.heap.size, 1, none⟩ (by simp) (.int .u32 Y)).other ⟨w.heap.size, 2, none⟩ (by simp) (.int .i64 L)
      have D := Below.setCell (p := ⟨w.heap.size, 2, none⟩) (Below.setCell (p := ⟨w.heap.size, 1, none⟩) (Below.setCell (p := ⟨w.heap.size, 0, none⟩) H1.out (Nat.le_refl _) (.int .u32 X)) (Nat.le_refl _) (.int .u32 Y)) (Nat.le_refl _) (.int .i64 L)
      generalize hW : World.setCell _ _ _ = W
      have B0 : Blk W w.heap.size #[.int .u32 X, .int .u32 Y, .int .i64 L] := by rw [← hW]; exact B
      have B1 : Blk W (w.heap.size + 1) #[.int .u32 0, .int .u32 0, .int .i64 0] := by rw [← hW]; exact C
      have H2 : Below w.heap.size w W := by rw [← hW]; exact D
      have H2 := hid H2
      clear hW B C D l0 k0 f0 HB0 HB1 H1
      obtain ⟨l0, k0, f0⟩ := B0
      obtain ⟨l1, k1, f1⟩ := B1
      refine (S.out _).mono ?_
      rintro e w2 ⟨rfl, rfl⟩
      go_wp2
      refine bodyPost_ret (v := cl X1 Y1 (L + 1)) (by simp [results, Try.results15, go_sem, k1]) rfl ⟨rfl, ?_⟩
      repeat (with_reducible refine Below.setCell ?_ (by simp) _)
      exact H2.out
  · unfold kid
    rw [e9, e9, e10]
    go_enter Try.func15, Try.ntmps15
    go_wp2_with fail
    refine (K.out _).mono ?_
    rintro e w1 ⟨rfl, hb1⟩
    obtain ⟨B0, B1, H⟩ := boxed2 hb1
    obtain ⟨l0, k0, f0⟩ := B0
    obtain ⟨l1, k1, f1⟩ := B1
    have H2 := hid H
    clear hb1 H
    go_wp2
    refine bodyPost_ret (v := cl X Y 32) (by simp [results, Try.results15, go_sem, k1]) rfl ⟨rfl, ?_⟩
    repeat (with_reducible refine Below.setCell ?_ (by simp) _)
    exact H2.out
end Go.Proofs.Ytdepmoocjnmbeaa
