/-
  What the functions of package cell come to: the cell of a level that has a place.
-/
import Derived.Test.YtdepmoocjnmbeaaProg
import Derived.Test.YtdepmoocjnmbeaaAid
import Derived.Test.YtdepmoocjnmbeaaRegion
import Derived.Laws.BitsAllLaws
import Derived.Laws.ShiftsVarLaws
namespace Go.Proofs.Ytdepmoocjnmbeaa
open Go.RowKit
set_option linter.unusedVariables false

theorem nat_floor (x k : Nat) (hx : x < 4294967296) (hk : k ≤ 32) : x &&& (4294967295 - (2 ^ k - 1)) = x / 2 ^ k * 2 ^ k := by
  have h2 : 2 ^ k ≤ 2 ^ 32 := Nat.pow_le_pow_right (by omega) hk
  have h0 : 0 < 2 ^ k := Nat.two_pow_pos k
  have e : 4294967295 - (2 ^ k - 1) = 2 ^ 32 - ((2 ^ k - 1) + 1) := by omega
  rw [e, ← Nat.shiftRight_eq_div_pow, ← Nat.shiftLeft_eq]
  apply Nat.eq_of_testBit_eq
  intro i
  rw [Nat.testBit_and, Nat.testBit_two_pow_sub_succ (by omega), Nat.testBit_two_pow_sub_one, Nat.testBit_shiftLeft, Nat.testBit_shiftRight]
  by_cases h : k ≤ i
  · have e1 : k + (i - k) = i := by omega
    by_cases h3 : i < 32
    · simp [h, h3, e1, Nat.not_lt.2 h]
    · have e2 : x.testBit i = false := Nat.testBit_lt_two_pow (Nat.lt_of_lt_of_le (show x < 2 ^ 32 by omega) (Nat.pow_le_pow_right (by omega) (by omega)))
      simp [e1, e2]
  · simp [h, Nat.lt_of_not_le h]

/-- How many places a side of a cell of a level has. -/
def pw (L : Int) : Int := ((2 ^ (32 - L).toNat : Nat) : Int)
def floorI (x L : Int) : Int := x / pw L * pw L
def lvl (l : Int) : Int := min (max l 0) 32
abbrev cl (x y L : Int) : Value := .agg #[.int .u32 x, .int .u32 y, .int .i64 L]

theorem lvl_bd (l : Int) : 0 ≤ lvl l ∧ lvl l ≤ 32 := by unfold lvl; omega
theorem pw_bd {L : Int} (h : 0 ≤ L) (h' : L ≤ 32) : 1 ≤ pw L ∧ pw L ≤ 4294967296 := by
  unfold pw
  have h2 : 2 ^ (32 - L).toNat ≤ 2 ^ 32 := Nat.pow_le_pow_right (by omega) (by omega)
  have h0 : 0 < 2 ^ (32 - L).toNat := Nat.two_pow_pos _
  omega
theorem andNot_floor {x L : Int} (hx : 0 ≤ x) (hx' : x ≤ 4294967295) (h : 0 ≤ L) (h' : L ≤ 32) : bits .andNot .u32 x (pw L - 1) = floorI x L := by
  have b := pw_bd h h'
  rw [u32_andNot x (pw L - 1) hx (by omega) (by omega) (by omega)]
  have e : (pw L - 1).toNat = 2 ^ (32 - L).toNat - 1 := by unfold pw at *; omega
  rw [e, nat_floor _ _ (by omega) (by omega)]
  unfold floorI pw
  have ex : ((x.toNat : Nat) : Int) = x := by omega
  rw [Int.natCast_mul, Int.natCast_ediv, ex]
theorem floor_bd {x L : Int} (hx : 0 ≤ x) (hx' : x ≤ 4294967295) (h : 0 ≤ L) (h' : L ≤ 32) : 0 ≤ floorI x L ∧ floorI x L ≤ x := by
  have b := pw_bd h h'
  unfold floorI
  exact ⟨Int.mul_nonneg (Int.ediv_nonneg hx (by omega)) (by omega), Int.ediv_mul_le x (by omega)⟩

theorem pw_mul {m M : Int} (h0 : 0 ≤ m) (h : m ≤ M) (h' : M ≤ 32) : ∃ r : Int, 1 ≤ r ∧ pw m = pw M * r := by
  refine ⟨((2 ^ (M - m).toNat : Nat) : Int), ?_, ?_⟩
  · have := Nat.two_pow_pos (M - m).toNat; omega
  · unfold pw
    have e : (32 - m).toNat = (32 - M).toNat + (M - m).toNat := by omega
    rw [e, Nat.pow_add, Int.natCast_mul]
theorem floor_floor {x m M : Int} (h0 : 0 ≤ m) (h : m ≤ M) (h' : M ≤ 32) : floorI (floorI x M) m = floorI x m := by
  obtain ⟨r, hr, e⟩ := pw_mul h0 h h'
  have b := pw_bd (L := M) (by omega) h'
  unfold floorI
  rw [e, ← Int.ediv_ediv_of_nonneg (by omega), Int.mul_ediv_cancel _ (by omega), ← Int.ediv_ediv_of_nonneg (by omega)]
theorem floor_self {x m : Int} (h0 : 0 ≤ m) (h' : m ≤ 32) : floorI (floorI x m) m = floorI x m := floor_floor h0 (Int.le_refl m) h'

def eq3 (a b c a' b' c' : Int) : Bool := decide (a = a') && decide (b = b') && decide (c = c')
@[go_sem high] theorem eql_cl (a b c a' b' c' : Int) (w : World) : (binOp .eql 32 (.agg #[.int .u32 a, .int .u32 b, .int .i64 c]) (.agg #[.int .u32 a', .int .u32 b', .int .i64 c'])).run Try.prog w = .ok (.bool (eq3 a b c a' b' c')) w := by
  rw [run_eql_struct]
  by_cases h1 : a = a' <;> by_cases h2 : b = b' <;> by_cases h3 : c = c' <;> simp [go_sem, eq3, h1, h2, h3]
@[go_sem high] theorem neq_cl (a b c a' b' c' : Int) (w : World) : (binOp .neq 32 (.agg #[.int .u32 a, .int .u32 b, .int .i64 c]) (.agg #[.int .u32 a', .int .u32 b', .int .i64 c'])).run Try.prog w = .ok (.bool (!eq3 a b c a' b' c')) w := by
  rw [run_neq_struct]
  by_cases h1 : a = a' <;> by_cases h2 : b = b' <;> by_cases h3 : c = c' <;> simp [go_sem, eq3, h1, h2, h3]

@[go_sem high] theorem field_cl2 (a b c : Int) (w : World) : (Instr.field 32 (.agg #[.int .u32 a, .int .u32 b, .int .i64 c]) 2).run Try.prog w = .ok (.int .i64 c) w := by
  first | kernel_rfl | rfl

theorem side_any (L : Int) (h : 0 ≤ L) (h' : L ≤ 32) (w : World) :
    Calls Try.prog 28 #[.int .i64 L] w fun e w' => e = .returned (.int .u64 (pw L)) ∧ w' = w := by
  have b := pw_bd h h'
  have m : IntKind.u64.wrap (2 ^ (32 - L).toNat) = pw L := by
    have e : (2 : Int) ^ (32 - L).toNat = pw L := by unfold pw; rw [Int.natCast_pow]; rfl
    rw [e]; exact IntWalk.u64_in _ (by omega)
  go_enter Try.func28, Try.ntmps28
  go_wp2
  go_ret
  exact ⟨rfl, rfl⟩

theorem at_any (x y l : Int) (hx : 0 ≤ x) (hx' : x ≤ 4294967295) (hy : 0 ≤ y) (hy' : y ≤ 4294967295) (w : World) :
    Calls Try.prog 25 #[.int .u32 x, .int .u32 y, .int .i64 l] w fun e w' => e = .returned (cl (floorI x (lvl l)) (floorI y (lvl l)) (lvl l)) ∧ Below w.heap.size w w' := by
  have b := lvl_bd l
  have p := pw_bd b.1 b.2
  have m1 := andNot_floor hx hx' b.1 b.2
  have m2 := andNot_floor hy hy' b.1 b.2
  have K := hid (fun w => side_any (lvl l) b.1 b.2 w)
  generalize floorI x (lvl l) = X at *
  generalize floorI y (lvl l) = Y at *
  unfold lvl at *
  generalize hL : min (max l 0) 32 = L at *
  generalize pw L = q at *
  have m3 : IntKind.u64.wrap (q - 1) = q - 1 := IntWalk.u64_in _ (by omega)
  have m4 : IntKind.u32.wrap (q - 1) = q - 1 := IntWalk.u32_in _ (by omega)
  go_enter Try.func25, Try.ntmps25
  go_wp2_with fail
  refine (K.out _).mono ?_
  rintro e w1 ⟨rfl, rfl⟩
  go_wp2
  go_returns
  exact ⟨rfl, by go_grown⟩

theorem lvl_idem (l : Int) : lvl (lvl l) = lvl l := by unfold lvl; omega

theorem taken_any (x y l : Int) (hx : 0 ≤ x) (hx' : x ≤ 4294967295) (hy : 0 ≤ y) (hy' : y ≤ 4294967295) (w : World) :
    Calls Try.prog 24 #[cl x y l] w fun e w' => e = .returned (cl (floorI x (lvl l)) (floorI y (lvl l)) (lvl l)) ∧ Below w.heap.size w w' := by
  have K := hid (fun w => at_any x y l hx hx' hy hy' w)
  generalize floorI x (lvl l) = X at *
  generalize floorI y (lvl l) = Y at *
  generalize lvl l = L at *
  go_enter Try.func24, Try.ntmps24
  go_wp2_with fail
  refine (K.out _).mono ?_
  rintro e w1 ⟨rfl, hb1⟩
  obtain ⟨B0, B1, H⟩ := boxed2 hb1
  obtain ⟨l1, k1, f1⟩ := B1
  have H1 := hid H
  clear hb1 H B0
  go_wp2
  refine bodyPost_ret (v := cl X Y L) (by simp [results, Try.results24, go_sem, k1]) rfl ⟨rfl, ?_⟩
  exact Below.setCell (Below.setCell (Below.setCell H1.out (by simp) _) (by simp) _) (by simp) _

def hasB (cx cy l x y : Int) : Bool := eq3 (floorI x (lvl l)) (floorI y (lvl l)) (lvl l) (floorI cx (lvl l)) (floorI cy (lvl l)) (lvl l)

set_option maxHeartbeats 1000000 in
theorem has_any (cx cy l x y : Int) (hx : 0 ≤ x) (hx' : x ≤ 4294967295) (hy : 0 ≤ y) (hy' : y ≤ 4294967295) (gx : 0 ≤ cx) (gx' : cx ≤ 4294967295) (gy : 0 ≤ cy) (gy' : cy ≤ 4294967295) (w : World) :
    Calls Try.prog 10 #[cl cx cy l, .int .u32 x, .int .u32 y] w fun e w' => e = .returned (.bool (hasB cx cy l x y)) ∧ Below w.heap.size w w' := by
  have K := hid (fun w => taken_any cx cy l gx gx' gy gy' w)
  have A := fun w => at_any x y (lvl l) hx hx' hy hy' w
  rw [lvl_idem] at A
  have A := hid A
  unfold hasB
  generalize floorI x (lvl l) = X at *
  generalize floorI y (lvl l) = Y at *
  generalize floorI cx (lvl l) = CX at *
  generalize floorI cy (lvl l) = CY at *
  generalize lvl l = L at *
  go_enter Try.func10, Try.ntmps10
  go_wp2_with fail
  refine (K.out _).mono ?_
  rintro e w1 ⟨rfl, hb1⟩
  obtain ⟨B0, H⟩ := boxed1 hb1
  have HB0 := hid B0
  obtain ⟨l0, k0, f0⟩ := B0
  have H1 := hid H
  clear hb1 H
  go_wp2_with fail
  have B := ((HB0.out.set 0 (.int .u32 CX) (by simp)).set 1 (.int .u32 CY) (by simp)).set 2 (.int .i64 L) (by simp)
  generalize hW : World.setCell _ _ _ = W
  have B1 : Blk W w.heap.size #[.int .u32 CX, .int .u32 CY, .int .i64 L] := by rw [← hW]; exact B
  have H2 : Below w.heap.size w W := by rw [← hW]; exact Below.setCell (Below.setCell (Below.setCell H1.out (by simp) _) (by simp) _) (by simp) _
  have q0 := fun u : Later W => u.blk B1
  have H2 := hid H2
  clear hW B B1 l0 k0 f0 HB0 H1
  refine wp_region_late 7 (by kernel_rfl) (by kernel_rfl) ?_
  simp only [List.take_succ_cons, List.take_zero, List.drop_succ_cons, List.drop_zero]
  repeat (quiet_step ((go_at_call 25; (with_reducible exact late_call (A.out _)))))
  refine wpQuiet_nil ?_
  intro w3 h3'
  have h3 := late_out h3'
  clear h3'
  go_wp2
  go_ret
  exact ⟨rfl, H2.out.trans (h3.mono H2.out.size)⟩

theorem root_any (w : World) : Calls Try.prog 19 #[] w fun e w' => e = .returned (cl 0 0 0) ∧ Below w.heap.size w w' := by
  go_enter Try.func19, Try.ntmps19
  go_wp2
  go_returns
  exact ⟨rfl, by go_grown⟩

def chkC (x y l : Int) : Int := if eq3 x y l (floorI x (lvl l)) (floorI y (lvl l)) (lvl l) = true then 0 else 4

theorem checkc_any (x y l : Int) (hx : 0 ≤ x) (hx' : x ≤ 4294967295) (hy : 0 ≤ y) (hy' : y ≤ 4294967295) (w : World) :
    Calls Try.prog 11 #[cl x y l] w fun e w' => e = .returned (.int .i64 (chkC x y l)) ∧ Below w.heap.size w w' := by
  have K := hid (fun w => taken_any x y l hx hx' hy hy' w)
  unfold chkC
  generalize floorI x (lvl l) = X at *
  generalize floorI y (lvl l) = Y at *
  generalize lvl l = L at *
  cases hq : eq3 x y l X Y L
  all_goals
    go_enter Try.func11, Try.ntmps11
    go_wp2_with fail
    generalize hW : w.alloc _ = W
    have B0 := hid (hW ▸ Blk.new w _ _ : Blk W w.heap.size _)
    have H1 : Hid (Below w.heap.size w W) := hid (hW ▸ Below.alloc (Below.refl _ _) (Nat.le_refl _) _)
    have q0 := fun u : Later W => u.blk B0.out
    clear hW
    refine wp_region_late 3 (by kernel_rfl) (by kernel_rfl) ?_
    simp only [List.take_succ_cons, List.take_zero, List.drop_succ_cons, List.drop_zero]
    repeat (quiet_step ((go_at_call 24; (with_reducible exact late_call (K.out _)))))
    refine wpQuiet_nil ?_
    intro w3 h3'
    have h3 := late_out h3'
    clear h3'
    go_wp2
    go_ret
    exact ⟨rfl, H1.out.trans (h3.mono H1.out.size)⟩

end Go.Proofs.Ytdepmoocjnmbeaa
