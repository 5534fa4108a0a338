/-
  Layer 3: the distance to a window is that to a place of it, and no greater than that to any other place of it; 0 just within. The walk of WideRect.
-/
import Derived.Test.YtmgjghgelidmiaaWideLaw
namespace Go.Proofs.Ytmgjghgelidmiaa
open Go.RowKit
set_option linter.unusedVariables false

theorem sq_mono {a b : Int} (h0 : 0 ≤ a) (h : a ≤ b) : sqI a ≤ sqI b := Int.mul_le_mul h h h0 (by omega)
theorem sq_zero {a : Int} (h0 : 0 ≤ a) : sqI a = 0 ↔ a = 0 := by
  unfold sqI
  constructor
  · intro h
    rcases Int.mul_eq_zero.1 h with h | h <;> exact h
  · rintro rfl; rfl

/-- Two distances that are sums of squares: which is less. -/
theorem dist_le {p q p' q' : Int} (hp : 0 ≤ p) (hq : 0 ≤ q) (h1 : p ≤ p') (h2 : q ≤ q') (hp' : p' < 18446744073709551616) (hq' : q' < 18446744073709551616) : cmpD (hiS 0 p 0 q) (loS p q) (hiS 0 p' 0 q') (loS p' q') ≤ 0 := by
  have e1 : hiS 0 p 0 q = (p + q) / 18446744073709551616 := by unfold hiS caS; omega
  have e2 : hiS 0 p' 0 q' = (p' + q') / 18446744073709551616 := by unfold hiS caS; omega
  rw [e1, e2]
  unfold loS cmpD orI cmpI
  split <;> (try split) <;> (try split) <;> (try split) <;> omega
theorem dist_zero {p q : Int} (hp : 0 ≤ p) (hq : 0 ≤ q) (hp' : p < 18446744073709551616) (hq' : q < 18446744073709551616) : (hiS 0 p 0 q = 0 ∧ loS p q = 0) ↔ (p = 0 ∧ q = 0) := by
  unfold hiS loS caS; omega

theorem clamp_in {n a b : Int} (h1 : min a b ≤ n) (h2 : n ≤ max a b) : clampI n a b = n := by unfold clampI; omega
theorem clamp_out {n a b : Int} : clampI n a b = n → min a b ≤ n ∧ n ≤ max a b := by unfold clampI; omega
theorem clamp_near (n a b c : Int) (h1 : min a b ≤ c) (h2 : c ≤ max a b) : apartI n (clampI n a b) ≤ apartI n c := by unfold apartI clampI; omega

set_option maxHeartbeats 8000000 in
theorem wideRect (x y x0 y0 x1 y1 a b : Int) (hx : 0 ≤ x) (hx' : x ≤ 4294967295) (hy : 0 ≤ y) (hy' : y ≤ 4294967295) (hx0 : 0 ≤ x0) (hx0' : x0 ≤ 4294967295) (hy0 : 0 ≤ y0) (hy0' : y0 ≤ 4294967295) (hx1 : 0 ≤ x1) (hx1' : x1 ≤ 4294967295) (hy1 : 0 ≤ y1) (hy1' : y1 ≤ 4294967295)
    (ha : 0 ≤ a) (ha' : a ≤ 4294967295) (hb : 0 ≤ b) (hb' : b ≤ 4294967295) (w : World) :
    Calls Try.prog 10 #[.int .u32 x, .int .u32 y, .agg #[.int .u32 x0, .int .u32 y0, .int .u32 x1, .int .u32 y1], .int .u32 a, .int .u32 b] w fun e w' => e = .returned (.bool true) ∧ Below w.heap.size w w' := by
  have c1 := clamp_bd x x0 x1 hx hx' hx0 hx0' hx1 hx1'
  have c2 := clamp_bd y y0 y1 hy hy' hy0 hy0' hy1 hy1'
  have c3 := clamp_bd a x0 x1 ha ha' hx0 hx0' hx1 hx1'
  have c4 := clamp_bd b y0 y1 hb hb' hy0 hy0' hy1 hy1'
  have d1 := apartI_bd _ _ hx hx' c1.1 c1.2
  have d2 := apartI_bd _ _ hy hy' c2.1 c2.2
  have d3 := apartI_bd _ _ hx hx' c3.1 c3.2
  have d4 := apartI_bd _ _ hy hy' c4.1 c4.2
  obtain ⟨g1, g2⟩ := two_bd d1 d2
  obtain ⟨g3, g4⟩ := two_bd d3 d4
  have R := hid (fun w => rect_any x y x0 y0 x1 y1 hx hx' hy hy' hx0 hx0' hy0 hy0' hx1 hx1' hy1 hy1' w)
  have B1 := hid (fun w => between_any x y (clampI x x0 x1) (clampI y y0 y1) hx hx' hy hy' c1.1 c1.2 c2.1 c2.2 w)
  have B2 := hid (fun w => between_any x y (clampI a x0 x1) (clampI b y0 y1) hx hx' hy hy' c3.1 c3.2 c4.1 c4.2 w)
  have C := hid (fun w => cmp_any (hiS 0 (sqI (apartI x (clampI x x0 x1))) 0 (sqI (apartI y (clampI y y0 y1)))) (loS (sqI (apartI x (clampI x x0 x1))) (sqI (apartI y (clampI y y0 y1))))
    (hiS 0 (sqI (apartI x (clampI a x0 x1))) 0 (sqI (apartI y (clampI b y0 y1)))) (loS (sqI (apartI x (clampI a x0 x1))) (sqI (apartI y (clampI b y0 y1)))) w)
  have hle := dist_le g1.1 g2.1 (sq_mono d1.1 (clamp_near x x0 x1 (clampI a x0 x1) (by unfold clampI; omega) (by unfold clampI; omega))) (sq_mono d2.1 (clamp_near y y0 y1 (clampI b y0 y1) (by unfold clampI; omega) (by unfold clampI; omega))) g3.2 g4.2
  have hz : (hiS 0 (sqI (apartI x (clampI x x0 x1))) 0 (sqI (apartI y (clampI y y0 y1))) = 0 ∧ loS (sqI (apartI x (clampI x x0 x1))) (sqI (apartI y (clampI y y0 y1))) = 0) ↔ (min x0 x1 ≤ x ∧ x ≤ max x0 x1 ∧ min y0 y1 ≤ y ∧ y ≤ max y0 y1) := by
    rw [dist_zero g1.1 g2.1 g1.2 g2.2, sq_zero d1.1, sq_zero d2.1]
    unfold apartI clampI
    omega
  generalize hiS 0 (sqI (apartI x (clampI x x0 x1))) 0 (sqI (apartI y (clampI y y0 y1))) = hh at *
  generalize loS (sqI (apartI x (clampI x x0 x1))) (sqI (apartI y (clampI y y0 y1))) = ll at *
  generalize hiS 0 (sqI (apartI x (clampI a x0 x1))) 0 (sqI (apartI y (clampI b y0 y1))) = hh2 at *
  generalize loS (sqI (apartI x (clampI a x0 x1))) (sqI (apartI y (clampI b y0 y1))) = ll2 at *
  generalize cmpD hh ll hh2 ll2 = k at *
  clear c1 c2 c3 c4 d1 d2 d3 d4 g1 g2 g3 g4 hx hx' hy hy' hx0 hx0' hy0 hy0' hx1 hx1' hy1 hy1' ha ha' hb hb'
  unfold clampI at *
  generalize e0 : min x0 x1 = p0 at *
  generalize e1 : max x0 x1 = p1 at *
  generalize f0 : min y0 y1 = q0 at *
  generalize f1 : max y0 y1 = q1 at *
  have key : (p0 ≤ x ∧ x ≤ p1 ∧ q0 ≤ y ∧ y ≤ q1 ∧ hh = 0 ∧ ll = 0) ∨ ((¬ hh = 0 ∨ (hh = 0 ∧ ¬ ll = 0)) ∧ (¬ p0 ≤ x ∨ (p0 ≤ x ∧ ¬ x ≤ p1) ∨ (p0 ≤ x ∧ x ≤ p1 ∧ ¬ q0 ≤ y) ∨ (p0 ≤ x ∧ x ≤ p1 ∧ q0 ≤ y ∧ ¬ y ≤ q1))) := by omega
  clear hz
  rcases key with ⟨t1, t2, t3, t4, rfl, rfl⟩ | ⟨n1 | ⟨rfl, n2⟩, t1 | ⟨t1, t2⟩ | ⟨t1, t2, t3⟩ | ⟨t1, t2, t3, t4⟩⟩
  all_goals
    go_enter Try.func10, Try.ntmps10
    go_wp2_with fail
    refine (alive3 _).mono ?_
    rintro e w1 ⟨rfl, hb1⟩
    obtain ⟨B0, H⟩ := boxed1 hb1
    have HB0 := hid B0
    have H1 := hid H
    obtain ⟨l0, k0, g0⟩ := B0
    clear hb1 H
    go_wp2_with fail
    go_quiet (fail)
    go_wp2_with fail
    go_quiet (fail)
    go_wp2_with fail
    refine (R.out _).mono ?_
    rintro e w2 ⟨rfl, hb2⟩
    have HB2 := hid (HB0.out.moreN hb2)
    have H2 := hid (below2N H1.out hb2 H1.out.size)
    clear hb2 H1 HB0 k0 l0 g0
    go_wp2_with fail
    generalize hW : w2.alloc _ = W
    have B3 := hid (hW ▸ Blk.new w2 _ _ : Blk W w2.heap.size _)
    have H3 : Hid (Below w.heap.size w W) := hid (hW ▸ Below.alloc H2.out H2.out.size _)
    have q3 := fun u : Later W => u.blk B3.out
    clear hW HB2 H2
    refine wp_region_late 21 (by kernel_rfl) (by kernel_rfl) ?_
    simp only [List.take_succ_cons, List.take_zero, List.drop_succ_cons, List.drop_zero]
    repeat (quiet_step ((go_at_call 34; (with_reducible exact late_call (B1.out _)))))
    refine wpQuiet_nil ?_
    intro w3 h3'
    have h3 := late_out h3'
    clear h3'
    have B4 := hid (B3.out.more h3)
    have H4 := hid (H3.out.trans (h3.mono H3.out.size))
    clear q3 B3 H3 h3
    go_wp2_with fail
    have q4 := fun u : Later w3 => u.blk B4.out
    refine wp_region_late 8 (by kernel_rfl) (by kernel_rfl) ?_
    simp only [List.take_succ_cons, List.take_zero, List.drop_succ_cons, List.drop_zero]
    repeat (quiet_step (first | (go_at_call 34; (with_reducible exact late_call (B2.out _))) | (go_at_call 35; (with_reducible exact late_call (C.out _)))))
    refine wpQuiet_nil ?_
    intro w5 h5'
    have h5 := late_out h5'
    clear h5'
    go_wp2
    go_ret
    exact ⟨by simp, H4.out.trans (h5.mono H4.out.size)⟩
end Go.Proofs.Ytmgjghgelidmiaa
