/-
  Layer 3: any sum has its carry, and is the same in any order; any two places' squared distance, and which of two is less, are as by hand; the distance to a window is that to a place of it, and no greater than that to any other.
  For every input, without a condition.
-/
import Derived.Test.YtmgjghgelidmiaaWide
namespace Go.Proofs.Ytmgjghgelidmiaa
open Go.RowKit
set_option linter.unusedVariables false

theorem alive3 (w : World) : Calls Try.prog 31 #[] w fun e w' => e = .returned (.bool true) ∧ Below w.heap.size w w' := by
  have K := fun w => between_any 0 0 3 4 (by omega) (by omega) (by omega) (by omega) (by omega) (by omega) (by omega) (by omega) w
  rw [show hiS 0 (sqI (apartI 0 3)) 0 (sqI (apartI 0 4)) = 0 from by decide, show loS (sqI (apartI 0 3)) (sqI (apartI 0 4)) = 25 from by decide] at K
  have HK := hid K
  clear K
  go_enter Try.func31, Try.ntmps31
  go_wp2_with (go_at_call 34; (with_reducible refine (HK.out _).mono ?_); rintro e w' ⟨rfl, hb⟩)
  go_ret
  exact ⟨by simp, hb⟩

theorem hi_wrap (a b c d : Int) (ha : 0 ≤ a) (hb : 0 ≤ b) (hc : 0 ≤ c) (hd : 0 ≤ d) (ha' : a < 18446744073709551616) (hb' : b < 18446744073709551616) (hc' : c < 18446744073709551616) (hd' : d < 18446744073709551616) :
    (IntKind.u64.wrap (b + d) = loS b d) ∧ (loS b d < b → IntKind.u64.wrap (IntKind.u64.wrap (a + c) + 1) = hiS a b c d) ∧ (¬ loS b d < b → IntKind.u64.wrap (a + c) = hiS a b c d) := by
  simp only [IntKind.wrap_u64, hiS, loS, caS]
  refine ⟨trivial, fun h => ?_, fun h => ?_⟩ <;> omega

theorem hiS_comm (a b c d : Int) : hiS c d a b = hiS a b c d := by unfold hiS caS; rw [show d + b = b + d by omega, show c + a = a + c by omega]
theorem loS_comm (b d : Int) : loS d b = loS b d := by unfold loS; rw [show d + b = b + d by omega]

set_option maxHeartbeats 1000000 in
theorem wideAdds (a b c d : Int) (ha : 0 ≤ a) (hb : 0 ≤ b) (hc : 0 ≤ c) (hd : 0 ≤ d) (ha' : a < 18446744073709551616) (hb' : b < 18446744073709551616) (hc' : c < 18446744073709551616) (hd' : d < 18446744073709551616) (w : World) :
    Calls Try.prog 9 #[.agg #[.int .u64 a, .int .u64 b], .agg #[.int .u64 c, .int .u64 d]] w fun e w' => e = .returned (.bool true) ∧ Below w.heap.size w w' := by
  obtain ⟨w1, w2, w3⟩ := hi_wrap a b c d ha hb hc hd ha' hb' hc' hd'
  have K1 := hid (fun w => add_any a b c d ha hb hc hd ha' hb' hd' w)
  have K2 := hid (fun w => add_any c d a b hc hd ha hb hc' hd' hb' w)
  rw [hiS_comm, loS_comm] at K2
  by_cases hlt : loS b d < b
  all_goals
    first | (have e := w2 hlt) | (have e := w3 hlt)
    clear w2 w3 ha hb hc hd ha' hb' hc' hd'
    go_enter Try.func9, Try.ntmps9
    go_wp2_with fail
    refine (alive3 _).mono ?_
    rintro e w1 ⟨rfl, hb1⟩
    obtain ⟨B0, B1, H⟩ := boxed2 hb1
    have HB0 := hid B0
    have HB1 := hid B1
    have H1 := hid H
    obtain ⟨l0, k0, f0⟩ := B0
    obtain ⟨l1, k1, f1⟩ := B1
    clear hb1 H
    go_wp2_with fail
    refine (K1.out _).mono ?_
    rintro e w2 ⟨rfl, hb2⟩
    have B0 := HB0.out.more hb2
    have B1 := HB1.out.more hb2
    have H2 := hid (below2 H1.out hb2 H1.out.size)
    have HB0 := hid B0
    have HB1 := hid B1
    clear k0 f0 k1 f1 H1 hb2 l0 l1
    obtain ⟨l0, k0, f0⟩ := B0
    obtain ⟨l1, k1, f1⟩ := B1
    go_wp2_with fail
    clear k0 f0 k1 f1 l0 l1
    generalize hW : w2.alloc (.cells #[.int .u64 (hiS a b c d), .int .u64 (loS b d)] 65) = W
    have q0 := fun u : Later W => u.blk (hW ▸ HB0.out.alloc _)
    have q1 := fun u : Later W => u.blk (hW ▸ HB1.out.alloc _)
    have q2 := fun u : Later W => u.blk (hW ▸ Blk.new _ _ _)
    have HW : Hid (Below w.heap.size w W) := hid (hW ▸ Below.alloc H2.out H2.out.size _)
    clear hW HB0 HB1 H2
    refine wp_region_late 12 (by kernel_rfl) (by kernel_rfl) ?_
    simp only [List.take_succ_cons, List.take_zero, List.drop_succ_cons, List.drop_zero]
    repeat (quiet_step ((go_at_call 37; (with_reducible exact late_call (K2.out _)))))
    refine wpQuiet_nil ?_
    rintro _ ⟨⟨w3, h3⟩, rfl⟩
    go_wp2
    go_ret
    exact ⟨by simp, HW.out.trans (h3.mono HW.out.size)⟩
end Go.Proofs.Ytmgjghgelidmiaa
