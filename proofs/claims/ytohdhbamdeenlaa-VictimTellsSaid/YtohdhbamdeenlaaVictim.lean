/-
  What the functions of package victim come to: which of two segments is better.
-/
import Derived.Test.YtohdhbamdeenlaaProg
import Derived.Test.YtohdhbamdeenlaaAid
import Derived.Test.YtohdhbamdeenlaaRegion
namespace Go.Proofs.Ytohdhbamdeenlaa
open Go.RowKit
set_option linter.unusedVariables false

def nearI (n lo hi : Int) : Int := min (max n lo) hi
def liveI (l : Int) : Int := nearI l 0 1024
def wonI (s l a : Int) : Int := max (s - liveI l) 0 * nearI a 1 4294967296
def overI (s l : Int) : Int := s + liveI l
def betterB (s l a l' a' : Int) : Bool := decide (wonI s l' a' * overI s l < wonI s l a * overI s l')
abbrev sg (l a : Int) : Value := .agg #[.int .i64 l, .int .i64 a]

theorem near_bd (n lo hi : Int) (h : lo ≤ hi) : lo ≤ nearI n lo hi ∧ nearI n lo hi ≤ hi := by unfold nearI; omega
theorem live_bd (l : Int) : 0 ≤ liveI l ∧ liveI l ≤ 1024 := near_bd l 0 1024 (by omega)
theorem won_bd {s : Int} (l a : Int) (hs : 0 ≤ s) (hs' : s ≤ 1024) : 0 ≤ wonI s l a ∧ wonI s l a ≤ 4398046511104 := by
  have h1 := live_bd l
  have h2 := near_bd a 1 4294967296 (by omega)
  unfold wonI
  have h3 : 0 ≤ max (s - liveI l) 0 ∧ max (s - liveI l) 0 ≤ 1024 := by omega
  generalize max (s - liveI l) 0 = x at *
  generalize nearI a 1 4294967296 = y at *
  exact ⟨Int.mul_nonneg h3.1 (by omega), by have := Int.mul_le_mul h3.2 h2.2 (by omega) (by omega); omega⟩
theorem over_bd {s : Int} (l : Int) (hs : 0 ≤ s) (hs' : s ≤ 1024) : s ≤ overI s l ∧ overI s l ≤ 2048 := by
  have h1 := live_bd l
  unfold overI; omega
theorem prod_bd {x y : Int} (hx : 0 ≤ x ∧ x ≤ 4398046511104) (hy : 0 ≤ y) (hy' : y ≤ 2048) : 0 ≤ x * y ∧ x * y ≤ 9007199254740992 :=
  ⟨Int.mul_nonneg hx.1 hy, by have := Int.mul_le_mul hx.2 hy' hy (by omega); omega⟩

theorem near_any (n lo hi : Int) (w : World) :
    Calls Try.prog 86 #[.int .i64 n, .int .i64 lo, .int .i64 hi] w fun e w' => e = .returned (.int .i64 (nearI n lo hi)) ∧ w' = w := by
  unfold nearI
  go_enter Try.func86, Try.ntmps86
  go_wp2
  go_ret
  exact ⟨rfl, rfl⟩

theorem live_any (l a : Int) (w : World) :
    Calls Try.prog 96 #[sg l a] w fun e w' => e = .returned (.int .i64 (liveI l)) ∧ Below w.heap.size w w' := by
  have K := hid (fun w => near_any l 0 1024 w)
  unfold liveI
  generalize nearI l 0 1024 = L at *
  go_enter Try.func96, Try.ntmps96
  go_wp2_with fail
  refine (K.out _).mono ?_
  rintro e w1 ⟨rfl, rfl⟩
  go_wp2
  go_ret
  exact ⟨rfl, by go_grown⟩

theorem over_any (s l a : Int) (hs : 0 ≤ s) (hs' : s ≤ 1024) (w : World) :
    Calls Try.prog 88 #[.int .i64 s, sg l a] w fun e w' => e = .returned (.int .i64 (overI s l)) ∧ Below w.heap.size w w' := by
  have K := hid (fun w => live_any l a w)
  have h1 := live_bd l
  unfold overI
  generalize liveI l = L at *
  go_enter Try.func88, Try.ntmps88
  go_wp2_with fail
  refine (K.out _).mono ?_
  rintro e w1 ⟨rfl, hb1⟩
  obtain ⟨B0, H⟩ := boxed1 hb1
  have H1 := hid H
  clear hb1 H B0
  go_wp2
  go_ret
  exact ⟨ret_int (by omega), H1.out⟩

theorem won_any (s l a : Int) (hs : 0 ≤ s) (hs' : s ≤ 1024) (w : World) :
    Calls Try.prog 87 #[.int .i64 s, sg l a] w fun e w' => e = .returned (.int .i64 (wonI s l a)) ∧ Below w.heap.size w w' := by
  have K1 := hid (fun w => live_any l a w)
  have K2 := hid (fun w => near_any a 1 4294967296 w)
  have h1 := live_bd l
  have hp := won_bd l a hs hs'
  unfold wonI at *
  generalize liveI l = L at *
  generalize nearI a 1 4294967296 = A at *
  have h3 : IntKind.i64.wrap (max (s - L) 0 * A) = max (s - L) 0 * A := IntWalk.i64_in _ (by omega)
  have h4 : IntKind.i64.wrap (s - L) = s - L := IntWalk.i64_in _ (by omega)
  clear hp
  go_enter Try.func87, Try.ntmps87
  go_wp2_with fail
  generalize hW : w.alloc _ = W
  have B0 := hid (hW ▸ Blk.new w _ _ : Blk W w.heap.size _)
  have H1 : Hid (Below w.heap.size w W) := hid (hW ▸ Below.alloc (Below.refl _ _) (Nat.le_refl _) _)
  have q0 := fun u : Later W => u.blk B0.out
  clear hW
  refine wp_region_late 9 (by kernel_rfl) (by kernel_rfl) ?_
  simp only [List.take_succ_cons, List.take_zero, List.drop_succ_cons, List.drop_zero]
  repeat (quiet_step (first
    | (go_at_call 96; (with_reducible exact late_call (K1.out _)))
    | (go_at_call 86; (with_reducible exact late_same (K2.out _)))))
  refine wpQuiet_nil ?_
  intro w3 h3'
  have h3b := late_out h3'
  clear h3'
  go_wp2
  go_ret
  exact ⟨rfl, H1.out.trans (h3b.mono H1.out.size)⟩

theorem better_any (s size l a l' a' : Int) (hz : nearI size 0 1024 = s) (w : World) :
    Calls Try.prog 57 #[.int .i64 size, sg l a, sg l' a'] w fun e w' => e = .returned (.bool (betterB s l a l' a')) ∧ Below w.heap.size w w' := by
  have hs := near_bd size 0 1024 (by omega)
  have N := hid (fun w => near_any size 0 1024 w)
  rw [hz] at hs N
  have K1 := hid (fun w => won_any s l a hs.1 hs.2 w)
  have K2 := hid (fun w => won_any s l' a' hs.1 hs.2 w)
  have K3 := hid (fun w => over_any s l a hs.1 hs.2 w)
  have K4 := hid (fun w => over_any s l' a' hs.1 hs.2 w)
  have o1 := over_bd l hs.1 hs.2
  have o2 := over_bd l' hs.1 hs.2
  have p1 := prod_bd (won_bd l a hs.1 hs.2) (y := overI s l') (by omega) o2.2
  have p2 := prod_bd (won_bd l' a' hs.1 hs.2) (y := overI s l) (by omega) o1.2
  have m1 : IntKind.i64.wrap (wonI s l a * overI s l') = wonI s l a * overI s l' := IntWalk.i64_in _ (by omega)
  have m2 : IntKind.i64.wrap (wonI s l' a' * overI s l) = wonI s l' a' * overI s l := IntWalk.i64_in _ (by omega)
  unfold betterB
  generalize wonI s l a = W1 at *
  generalize wonI s l' a' = W2 at *
  generalize overI s l = O1 at *
  generalize overI s l' = O2 at *
  clear p1 p2 o1 o2 hs hz
  go_enter Try.func57, Try.ntmps57
  go_wp2_with fail
  refine (N.out _).mono ?_
  rintro e w1 ⟨rfl, rfl⟩
  go_wp2_with fail
  obtain ⟨B0, B1, H⟩ := @boxed2 w _ #[.int .i64 l, .int .i64 a] #[.int .i64 l', .int .i64 a'] 96 96 (Below.refl _ _)
  generalize (w.alloc (.cells #[.int .i64 l, .int .i64 a] 96)).alloc (.cells #[.int .i64 l', .int .i64 a'] 96) = W at B0 B1 H ⊢
  have q0 := fun u : Later W => u.blk B0
  have q1 := fun u : Later W => u.blk B1
  have H1 := hid H
  clear H
  refine wp_region_late 15 (by kernel_rfl) (by kernel_rfl) ?_
  simp only [List.take_succ_cons, List.take_zero, List.drop_succ_cons, List.drop_zero]
  repeat (quiet_step (first
    | (go_at_call 87; first | (with_reducible exact late_call (K1.out _)) | (with_reducible exact late_call (K2.out _)))
    | (go_at_call 88; first | (with_reducible exact late_call (K3.out _)) | (with_reducible exact late_call (K4.out _)))))
  refine wpQuiet_nil ?_
  intro w3 h3'
  have h3b := late_out h3'
  clear h3'
  go_wp2
  go_ret
  exact ⟨rfl, H1.out.trans (h3b.mono H1.out.size)⟩

/-- Being better is of products held against each other. -/
theorem not_self (s l a : Int) : betterB s l a l a = false := by simp [betterB]
theorem not_both {s l a l' a' : Int} (h : betterB s l a l' a' = true) : betterB s l' a' l a = false := by
  simp only [betterB, decide_eq_true_eq, decide_eq_false_iff_not] at *; omega
theorem goes_on {s l a l' a' l2 a2 : Int} (hs : 1 ≤ s) (hs' : s ≤ 1024) (h : betterB s l a l' a' = true) (h2 : betterB s l' a' l2 a2 = true) : betterB s l a l2 a2 = true := by
  simp only [betterB, decide_eq_true_eq] at *
  have o1 := over_bd l (by omega) hs'
  have o2 := over_bd l' (by omega) hs'
  have o3 := over_bd l2 (by omega) hs'
  generalize wonI s l a = A at *
  generalize wonI s l' a' = B at *
  generalize wonI s l2 a2 = C at *
  generalize overI s l = x at *
  generalize overI s l' = y at *
  generalize overI s l2 = z at *
  have k1 : (B * x) * z < (A * y) * z := Int.mul_lt_mul_of_pos_right h (by omega)
  have k2 : (C * y) * x < (B * z) * x := Int.mul_lt_mul_of_pos_right h2 (by omega)
  have e1 : (B * x) * z = (B * z) * x := by rw [Int.mul_assoc, Int.mul_comm x z, ← Int.mul_assoc]
  have e2 : (C * y) * x = (C * x) * y := by rw [Int.mul_assoc, Int.mul_comm y x, ← Int.mul_assoc]
  have e3 : (A * y) * z = (A * z) * y := by rw [Int.mul_assoc, Int.mul_comm y z, ← Int.mul_assoc]
  have k3 : (C * x) * y < (A * z) * y := by omega
  exact Int.lt_of_mul_lt_mul_right k3 (by omega)
end Go.Proofs.Ytohdhbamdeenlaa
