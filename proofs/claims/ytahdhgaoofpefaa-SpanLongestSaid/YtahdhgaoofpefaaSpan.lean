/-
  package span: compare; a road between two places; the nearest of one; a row of one road sorted.
-/
import Derived.Test.YtahdhgaoofpefaaOrThree
import Derived.Test.YtahdhgaoofpefaaRegion
import Derived.Test.YtahdhgaoofpefaaSlices
namespace Go.Proofs.Ytahdhgaoofpefaa
open Go.RowKit
set_option linter.unusedVariables false
set_option linter.unusedSimpArgs false

structure Rd where
  f : Int
  t : Int
  h : Int
  l : Int
def rcells (a : Rd) : List Value := [.int .i64 a.f, .int .i64 a.t, .int .u64 a.h, .int .u64 a.l]
abbrev rdval (a : Rd) : Value := .agg #[.int .i64 a.f, .int .i64 a.t, .int .u64 a.h, .int .u64 a.l]
def rcmpI (a b : Rd) : Int := or3I (cmpD a.h a.l b.h b.l) (cmpI a.f b.f) (cmpI a.t b.t)

set_option maxRecDepth 100000 in
set_option maxHeartbeats 4000000 in
theorem rcompare_any (a b : Rd) (w : World) :
    Calls Try.prog 57 #[rdval a, rdval b] w fun e w' => e = .returned (.int .i64 (rcmpI a b)) ∧ Below w.heap.size w w' := by
  obtain ⟨af, at', ah, al⟩ := a
  obtain ⟨bf, bt, bh, bl⟩ := b
  have K0 := hid (fun w => cmp_any ah al bh bl w)
  have K1 := hid (fun w => compare_i64 af bf w)
  have K2 := hid (fun w => compare_i64 at' bt w)
  have K3 := hid (fun x o w c0 c1 c2 => or3 (cmpD ah al bh bl) (cmpI af bf) (cmpI at' bt) x o w c0 c1 c2)
  unfold rdval rcmpI
  simp only
  generalize cmpD ah al bh bl = d0 at *
  generalize cmpI af bf = d1 at *
  generalize cmpI at' bt = d2 at *
  generalize or3I d0 d1 d2 = d at *
  obtain ⟨B0, B1, H⟩ := @boxed2 w _ #[.int .i64 af, .int .i64 at', .int .u64 ah, .int .u64 al] #[.int .i64 bf, .int .i64 bt, .int .u64 bh, .int .u64 bl] 70 70 (Below.refl _ _)
  have hH := hid H
  go_enter Try.func57, Try.ntmps57
  go_wp2_with fail
  generalize (w.alloc (.cells #[.int .i64 af, .int .i64 at', .int .u64 ah, .int .u64 al] 70)).alloc (.cells #[.int .i64 bf, .int .i64 bt, .int .u64 bh, .int .u64 bl] 70) = W at *
  have q0 := fun u : Later W => u.blk B0
  have q1 := fun u : Later W => u.blk B1
  clear B0 B1 H
  refine wp_region_late 15 (by kernel_rfl) (by kernel_rfl) ?_
  simp only [List.take_succ_cons, List.take_zero, List.drop_succ_cons, List.drop_zero]
  repeat (quiet_step (first | (go_at_call 25; (with_reducible exact late_call (K0.out _))) | (go_at_call 37; first | (with_reducible exact late_same (K1.out _)) | (with_reducible exact late_same (K2.out _)))))
  refine wpQuiet_nil ?_
  intro w3 h3'
  have h3 := hid (late_out h3')
  clear h3' q0 q1
  go_wp2_with (go_at_call 36; refine (K3.out _ _ _ (by go_simp) (by go_simp) (by go_simp)).mono ?_; rintro e w' ⟨rfl, rfl⟩)
  go_ret
  exact ⟨rfl, below2 hH.out (below2 h3.out ((Below.refl _ _).alloc (Nat.le_refl _) _) h3.out.size) hH.out.size⟩

/-- The two places of the law's own. -/
abbrev two42 : Array Value := #[.int .i64 0, .int .u32 0, .int .u32 0, .string ByteArray.empty, .int .i64 0, .int .u32 3, .int .u32 0, .string ByteArray.empty]

set_option maxRecDepth 100000 in
set_option maxHeartbeats 4000000 in
theorem road_two (b : Nat) (w : World) (HB : Blk w b two42) :
    Calls Try.prog 55 #[.slice (some ⟨b, 0, none⟩) 2 2, .int .i64 0, .int .i64 1] w fun e w' => e = .returned (rdval ⟨0, 1, 0, 9⟩) ∧ Below w.heap.size w w' := by
  have K := hid (fun w => between_any 0 0 3 0 (by omega) (by omega) (by omega) (by omega) (by omega) (by omega) (by omega) (by omega) w)
  rw [show hiS 0 (sqI (apartI 0 3)) 0 (sqI (apartI 0 0)) = 0 by decide, show loS (sqI (apartI 0 3)) (sqI (apartI 0 0)) = 9 by decide] at K
  unfold two42 at HB
  unfold rdval
  go_enter Try.func55, Try.ntmps55
  go_wp2_with fail
  have C0 := hid (Blk.new w #[.int .i64 0, .int .i64 0, .int .u64 0, .int .u64 0] 70)
  have CB := HB.alloc (.cells #[.int .i64 0, .int .i64 0, .int .u64 0, .int .u64 0] 70)
  have hH : Hid (Below w.heap.size w (w.alloc (.cells #[.int .i64 0, .int .i64 0, .int .u64 0, .int .u64 0] 70))) := hid ((Below.refl _ _).alloc (Nat.le_refl _) _)
  generalize w.alloc (.cells #[.int .i64 0, .int .i64 0, .int .u64 0, .int .u64 0] 70) = W at *
  have q0 := fun u : Later W => u.blk CB
  clear CB HB
  refine wp_region_late 27 (by kernel_rfl) (by kernel_rfl) ?_
  simp only [List.take_succ_cons, List.take_zero, List.drop_succ_cons, List.drop_zero]
  repeat (quiet_step ((go_at_call 61; (with_reducible exact late_call (K.out _)))))
  refine wpQuiet_nil ?_
  intro w3 h3'
  have h3 := hid (late_out h3')
  clear h3' q0
  obtain ⟨l3, k3, f3⟩ := C0.out.more h3.out
  have H3 := hid (below2 hH.out h3.out hH.out.size)
  go_wp2_with fail
  refine bodyPost_ret (v := .agg #[.int .i64 0, .int .i64 1, .int .u64 0, .int .u64 9]) (by simp [results, Try.results55, go_sem, k3]; decide) rfl ⟨rfl, ?_⟩
  exact Below.setCell (Below.setCell (Below.setCell (Below.setCell H3.out (by simp) _) (by simp) _) (by simp) _) (by simp) _

theorem insertion_short (p : Value) (n : Int) (hn : n = 0 ∨ n = 1) (c : Value) (w : World) :
    Calls Try.prog 68 #[p, .int .i64 0, .int .i64 n, c] w fun e w' => e = .returned (.tuple #[]) ∧ w' = w := by
  rcases hn with rfl | rfl
  all_goals
    go_enter Try.func68, Try.ntmps68
    go_wp2
    go_rounds 1
    go_end0
    exact ⟨rfl, rfl⟩

theorem pdq_short (p : Value) (n b : Int) (hn : n = 0 ∨ n = 1) (c : Value) (w : World) :
    Calls Try.prog 62 #[p, .int .i64 0, .int .i64 n, .int .i64 b, c] w fun e w' => e = .returned (.tuple #[]) ∧ w' = w := by
  have K := hid (insertion_short p n hn c)
  rcases hn with rfl | rfl
  all_goals
    go_enter Try.func62, Try.ntmps62
    go_wp2_with fail
    refine wp_loop_rounds 1 ?_
    rw [rounds_succ]
    go_wp2_with fail
    refine (K.out _).mono ?_
    rintro e w' ⟨rfl, rfl⟩
    go_wp2_with fail
    refine bodyPost_ret (results_none rfl _ _ _) rfl ⟨rfl, rfl⟩

set_option maxRecDepth 100000 in
theorem len64_short (n : Int) (hn : n = 0 ∨ n = 1) (w : World) : Calls Try.prog 77 #[.int .u64 n] w fun e w' => ∃ b, e = .returned (.int .i64 b) ∧ w' = w := by
  rcases hn with rfl | rfl
  all_goals
    go_enter Try.func77, Try.ntmps77
    go_wp2
    go_ret
    exact ⟨_, rfl, rfl⟩

theorem len_short (n : Int) (hn : n = 0 ∨ n = 1) (w : World) : Calls Try.prog 63 #[.int .u64 n] w fun e w' => ∃ b, e = .returned (.int .i64 b) ∧ w' = w := by
  have K := hid (len64_short n hn)
  go_enter Try.func63, Try.ntmps63
  go_wp2_with fail
  refine (K.out _).mono ?_
  rintro e w' ⟨b, rfl, rfl⟩
  go_wp2_with fail
  go_ret
  exact ⟨_, rfl, rfl⟩

theorem sort_short (q : Option Addr) (n cap : Nat) (hn : n ≤ 1) (c : Value) (w : World) : Calls Try.prog 58 #[.slice q n cap, c] w fun e w' => e = .returned (.tuple #[]) ∧ w' = w := by
  have hn' : (n : Int) = 0 ∨ (n : Int) = 1 := by omega
  have KL := hid (len_short (n : Int) hn')
  have KP := hid (fun b w => pdq_short (.slice q n cap) (n : Int) b hn' c w)
  have hw : IntKind.u64.wrap (n : Int) = (n : Int) := by rcases hn' with h | h <;> rw [h] <;> decide
  go_enter Try.func58, Try.ntmps58
  go_wp2_with fail
  refine (KL.out _).mono ?_
  rintro e w' ⟨b, rfl, rfl⟩
  go_wp2_with fail
  refine (KP.out _ _).mono ?_
  rintro e w' ⟨rfl, rfl⟩
  go_wp2_with fail
  go_end0
  exact ⟨rfl, rfl⟩

/-- The nearest of one place. -/
theorem nearest_one (b cap : Nat) (p : Int) (a : Rd) (w : World) (c : Array Value) (HB : Blk w b c) (e0 : c[0]? = some (.int .i64 p)) (e1 : c[1]? = some (.int .i64 a.f)) (e2 : c[2]? = some (.int .i64 a.t)) (e3 : c[3]? = some (.int .u64 a.h)) (e4 : c[4]? = some (.int .u64 a.l)) :
    Calls Try.prog 56 #[.slice (some ⟨b, 0, none⟩) 1 cap] w fun e w' => e = .returned (.int .i64 0) ∧ Below w.heap.size w w' := by
  have K := hid (fun w => rcompare_any a a w)
  rw [show rcmpI a a = 0 by simp [rcmpI, or3I, orI, cmpD, cmpI]] at K
  obtain ⟨af, at', ah, al⟩ := a
  unfold rdval at K
  simp only at K e1 e2 e3 e4
  go_enter Try.func56, Try.ntmps56
  have l0 := HB.lt
  have z0 := (HB.cell 0).trans e0
  have z1 := (HB.cell 1).trans e1
  have z2 := (HB.cell 2).trans e2
  have z3 := (HB.cell 3).trans e3
  have z4 := (HB.cell 4).trans e4
  go_wp2_with fail
  refine wp_loop_rounds 2 ?_
  rw [rounds_succ]
  go_wp2_with fail
  have C0 := hid (Blk.new w #[.int .i64 p, .int .i64 af, .int .i64 at', .int .u64 ah, .int .u64 al] 99)
  have CB := HB.alloc (.cells #[.int .i64 p, .int .i64 af, .int .i64 at', .int .u64 ah, .int .u64 al] 99)
  have hH : Hid (Below w.heap.size w (w.alloc (.cells #[.int .i64 p, .int .i64 af, .int .i64 at', .int .u64 ah, .int .u64 al] 99))) := hid ((Below.refl _ _).alloc (Nat.le_refl _) _)
  generalize w.alloc (.cells #[.int .i64 p, .int .i64 af, .int .i64 at', .int .u64 ah, .int .u64 al] 99) = W at *
  have y1 := fun u : Later W => (u.blk CB 1).trans e1
  have y2 := fun u : Later W => (u.blk CB 2).trans e2
  have y3 := fun u : Later W => (u.blk CB 3).trans e3
  have y4 := fun u : Later W => (u.blk CB 4).trans e4
  have q1 := fun u : Later W => u.blk C0.out
  clear CB HB z0 z1 z2 z3 z4 e0 e1 e2 e3 e4
  refine wp_region_late 8 (by kernel_rfl) (by kernel_rfl) ?_
  simp only [List.take_succ_cons, List.take_zero, List.drop_succ_cons, List.drop_zero]
  repeat (quiet_step ((go_at_call 57; (with_reducible exact late_call (K.out _)))))
  refine wpQuiet_nil ?_
  intro w3 h3'
  have h3 := hid (late_out h3')
  clear h3' y1 y2 y3 y4 q1
  have H3 := hid (below2 hH.out h3.out hH.out.size)
  go_wp2_with fail
  rw [rounds_succ]
  go_wp2_with fail
  go_ret
  exact ⟨rfl, H3.out⟩
end Go.Proofs.Ytahdhgaoofpefaa
