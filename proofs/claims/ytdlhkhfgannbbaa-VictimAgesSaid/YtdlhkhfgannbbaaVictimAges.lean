/-
  Layer 27: the elder of two is better, and the emptier. The walk of VictimAges.
-/
import Derived.Test.YtdlhkhfgannbbaaVictimLaw
import Derived.RegionTactic
import Derived.BigRegion
namespace Go.Proofs.Ytdlhkhfgannbbaa
open Go.RowKit
set_option linter.unusedVariables false

theorem in_live {l : Int} (h : 0 ≤ l) (h' : l ≤ 1024) : liveI l = l := by unfold liveI nearI; omega
theorem in_age {a : Int} (h : 1 ≤ a) (h' : a ≤ 4294967296) : nearI a 1 4294967296 = a := by unfold nearI; omega

theorem elder {s m A B : Int} (hs : 2 ≤ s) (hs' : s ≤ 61) (h1 : 1 ≤ m) (h2 : m < s) (ha : 1 ≤ A) (hab : A < B) (hb : B ≤ 4294967296) : betterB s m B m A = true := by
  unfold betterB wonI overI
  rw [in_live (by omega) (by omega), in_age ha (by omega), in_age (by omega) hb]
  rw [show max (s - m) 0 = s - m from by omega]
  have k1 : (s - m) * A < (s - m) * B := Int.mul_lt_mul_of_pos_left hab (by omega)
  have k2 := Int.mul_lt_mul_of_pos_right k1 (show 0 < s + m by omega)
  simpa using k2
theorem emptier {s m A : Int} (hs : 2 ≤ s) (hs' : s ≤ 61) (h1 : 1 ≤ m) (h2 : m < s) (ha : 1 ≤ A) (hb : A ≤ 4294967296) : betterB s (m - 1) A m A = true := by
  unfold betterB wonI overI
  rw [in_live (by omega) (by omega), in_live (by omega) (by omega), in_age ha hb]
  rw [show max (s - m) 0 = s - m from by omega, show max (s - (m - 1)) 0 = s - m + 1 from by omega]
  have k1 : (s - m) * A * (s + (m - 1)) < (s - m) * A * (s + m) := Int.mul_lt_mul_of_pos_left (by omega) (Int.mul_pos (by omega) (by omega))
  have k2 : (s - m) * A * (s + m) ≤ (s - m + 1) * A * (s + m) := Int.mul_le_mul_of_nonneg_right (Int.mul_le_mul_of_nonneg_right (by omega) (by omega)) (by omega)
  simp only [decide_eq_true_eq]
  omega
theorem full {s m A B : Int} (hs : 2 ≤ s) (hs' : s ≤ 61) (h1 : 1 ≤ m) (h2 : m < s) (ha : 1 ≤ A) (hb : A ≤ 4294967296) : betterB s m A s B = true := by
  unfold betterB wonI overI
  rw [in_live (l := m) (by omega) (by omega), in_live (by omega) (by omega), in_age ha hb]
  rw [show max (s - s) 0 = 0 from by omega, Int.zero_mul, Int.zero_mul, show max (s - m) 0 = s - m from by omega]
  have k1 : 0 < (s - m) * A * (s + s) := Int.mul_pos (Int.mul_pos (by omega) (by omega)) (by omega)
  simpa using k1

theorem own2 (w : World) (c c' : Array Value) (t t' : TypeId) : Blk (((w.alloc (.cells c t)).alloc (.cells c' t')).drew) w.heap.size c ∧ Blk (((w.alloc (.cells c t)).alloc (.cells c' t')).drew) (w.heap.size + 1) c' ∧ Below w.heap.size w (((w.alloc (.cells c t)).alloc (.cells c' t')).drew) := by
  obtain ⟨h1, h2, h3⟩ := @boxed2 w _ c c' t t' (Below.refl _ _)
  exact ⟨h1.drew, h2.drew, h3.trans ⟨rfl, rfl, rfl, Nat.le_refl _, fun _ _ => rfl⟩⟩

set_option maxRecDepth 100000 in
set_option maxHeartbeats 8000000 in
theorem victimAges (size live age more : Int) (hz : -9223372036854775808 ≤ size) (hz' : size ≤ 9223372036854775807) (hl : -9223372036854775808 ≤ live) (hl' : live ≤ 9223372036854775807)
    (ha : 0 ≤ age) (ha' : age ≤ 4294967295) (hm : 0 ≤ more) (hm' : more ≤ 4294967295) (w : World) :
    Calls Try.prog 5 #[.int .i64 size, .int .i64 live, .int .u32 age, .int .u32 more] w fun e w' => e = .returned (.bool true) ∧ Below w.heap.size w w' := by
  have t1 : -60 < size.tmod 60 ∧ size.tmod 60 < 60 := by
    have := Int.tmod_lt_of_pos size (b := 60) (by omega)
    have := Int.lt_tmod_of_pos size (b := 60) (by omega)
    omega
  generalize hzz : size.tmod 60 = z at t1
  generalize hq : (2 + z % 60 : Int) = s
  have hs : 2 ≤ s ∧ s ≤ 61 := by omega
  have hn : nearI s 0 1024 = s := by unfold nearI; omega
  have t2 : -(s - 1) < live.tmod (s - 1) ∧ live.tmod (s - 1) < s - 1 := by
    have := Int.tmod_lt_of_pos live (b := s - 1) (by omega)
    have := Int.lt_tmod_of_pos live (b := s - 1) (by omega)
    omega
  generalize hyy : live.tmod (s - 1) = y at t2
  have hs0 : s - 1 ≠ 0 := by omega
  have t3 : 0 ≤ (y + s - 1) % (s - 1) ∧ (y + s - 1) % (s - 1) < s - 1 := ⟨Int.emod_nonneg _ hs0, Int.emod_lt_of_pos _ (by omega)⟩
  generalize huu : (y + s - 1) % (s - 1) = u at t3
  have HS := hid (And.intro hs (And.intro t2 hn))
  have K1 := fun w => better_any s s (1 + u) (age / 2 + 1 + more / 2 + 1) (1 + u) (age / 2 + 1) hn w
  have K2 := fun w => better_any s s (1 + u) (age / 2 + 1) (1 + u) (age / 2 + 1 + more / 2 + 1) hn w
  have K3 := fun w => better_any s s (1 + u - 1) (age / 2 + 1) (1 + u) (age / 2 + 1) hn w
  have K4 := fun w => better_any s s (1 + u) (age / 2 + 1) s (age / 2 + 1 + more / 2 + 1) hn w
  have e1 : betterB s (1 + u) (age / 2 + 1 + more / 2 + 1) (1 + u) (age / 2 + 1) = true := elder hs.1 hs.2 (by omega) (by omega) (by omega) (by omega) (by omega)
  rw [e1] at K1
  rw [not_both e1] at K2
  rw [emptier hs.1 hs.2 (by omega) (by omega) (by omega) (by omega)] at K3
  rw [full hs.1 hs.2 (by omega) (by omega) (by omega) (by omega)] at K4
  have HK1 := hid K1
  have HK2 := hid K2
  have HK3 := hid K3
  have HK4 := hid K4
  clear K1 K2 K3 K4 e1
  clear hn hs
  go_enter Try.func5, Try.ntmps5
  go_wp2_with fail
  refine (alive27 _).mono ?_
  rintro e w1 ⟨rfl, hb1⟩
  have H1 := hid hb1
  clear hb1
  go_upto_region 4 with (fail)
  try simp only [hq]
  have hs := HS.out.1
  clear hq hzz t1
  go_upto_region 5 with (fail)
  clear hyy huu hs0 t2 hz hz' hl hl'
  go_upto_region 6 with (fail)
  obtain ⟨B0, B1, H⟩ := @boxed2 w1 _ #[.int .i64 (1 + u), .int .i64 (age / 2 + 1 + more / 2 + 1)] #[.int .i64 (1 + u), .int .i64 (age / 2 + 1)] 26 26 (Below.refl _ _)
  generalize (w1.alloc (.cells #[.int .i64 (1 + u), .int .i64 (age / 2 + 1 + more / 2 + 1)] 26)).alloc (.cells #[.int .i64 (1 + u), .int .i64 (age / 2 + 1)] 26) = W at B0 B1 H ⊢
  have HB0 := hid B0
  have HB1 := hid B1
  have H2 := hid (below2 H1.out H H1.out.size)
  obtain ⟨l0, k0, f0⟩ := B0
  obtain ⟨l1, k1, f1⟩ := B1
  clear H H1
  go_region
  all_goals
    generalize hX : World.drew _ = X
    first
      | (have F : Blk X W.heap.size #[.int .i64 (1 + u - 1), .int .i64 (age / 2 + 1)] ∧ Blk X (W.heap.size + 1) #[.int .i64 s, .int .i64 (age / 2 + 1 + more / 2 + 1)] ∧ Below W.heap.size W X := by rw [← hX]; exact own2 _ _ _ _ _)
      | (have F : Blk X W.heap.size #[.int .i64 s, .int .i64 (age / 2 + 1 + more / 2 + 1)] ∧ Blk X (W.heap.size + 1) #[.int .i64 (1 + u - 1), .int .i64 (age / 2 + 1)] ∧ Below W.heap.size W X := by rw [← hX]; exact own2 _ _ _ _ _)
    obtain ⟨F2, F3, HX⟩ := F
    have q0 := fun u : Later X => u.blk (HB0.out.more HX)
    have q1 := fun u : Later X => u.blk (HB1.out.more HX)
    have q2 := fun u : Later X => u.blk F2
    have q3 := fun u : Later X => u.blk F3
    have H3 := hid (below2 H2.out HX H2.out.size)
    clear hX F2 F3 HX l0 k0 f0 l1 k1 f1
    go_upto_region 7 with (fail)
    refine wp_region_late_seq 22 ?_
    simp only [List.take_succ_cons, List.take_zero, List.drop_succ_cons, List.drop_zero]
    repeat (quiet_step ((go_at_call 16; first | (with_reducible exact late_call (HK1.out _)) | (with_reducible exact late_call (HK2.out _)) | (with_reducible exact late_call (HK3.out _)) | (with_reducible exact late_call (HK4.out _)))))
    refine wpQuiet_nil ?_
    intro w4 h4'
    have h4 := late_out h4'
    clear h4' q0 q1 q2 q3
    go_wp2
    go_ret
    exact ⟨by simp, H3.out.trans (h4.mono H3.out.size)⟩
end Go.Proofs.Ytdlhkhfgannbbaa
