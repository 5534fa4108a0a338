/-
  Package kdtree: what a tree of nothing answers; what is made of nothing, and of one point.
-/
import Derived.Test.YtghcfidmhabfhaaKdNil
import Derived.Test.YtghcfidmhabfhaaPtRow
namespace Go.Proofs.Ytghcfidmhabfhaa
open Go.RowKit
set_option linter.unusedVariables false
set_option linter.unusedSimpArgs false

set_option maxRecDepth 100000 in
theorem korder_nil (v : Value) (w : World) (h : NoTree w v) : Calls Try.prog 28 #[v] w fun e w' => e = .returned (.slice none 0 0) ∧ Below w.heap.size w w' := by
  have hb1 := (Below.refl w.heap.size w).alloc (Nat.le_refl _) (.cells #[.slice none 0 0] 23)
  have B1 := Blk.new w #[.slice none 0 0] 23
  have h1 := h.more hb1
  have K := hid (kwalk_nil v 60 #[.pointer (some ⟨w.heap.size, 0, none⟩)] _ h1)
  have B1h := hid B1
  have hb1h := hid hb1
  clear h h1 B1 hb1
  go_enter Try.func28, Try.ntmps28
  go_wp2_with fail
  refine K.out.mono ?_
  rintro e w2 ⟨rfl, hb2⟩
  have D2 := hid (below2 hb1h.out hb2 hb1h.out.size)
  obtain ⟨l2, k2, f2⟩ := B1h.out.more hb2
  clear hb2 K
  go_wp2
  go_ret
  exact ⟨rfl, D2.out⟩
set_option maxRecDepth 100000 in
theorem kdepth_nil (v : Value) (w : World) (h : NoTree w v) : Calls Try.prog 29 #[v] w fun e w' => e = .returned (.int .i64 0) ∧ Below w.heap.size w w' := by
  have hb1 := (Below.refl w.heap.size w).alloc (Nat.le_refl _) (.cells #[.int .i64 0] 3)
  have B1 := Blk.new w #[.int .i64 0] 3
  have h1 := h.more hb1
  have K := hid (kwalk_nil v 61 #[.pointer (some ⟨w.heap.size, 0, none⟩)] _ h1)
  have B1h := hid B1
  have hb1h := hid hb1
  clear h h1 B1 hb1
  go_enter Try.func29, Try.ntmps29
  go_wp2_with fail
  refine K.out.mono ?_
  rintro e w2 ⟨rfl, hb2⟩
  have D2 := hid (below2 hb1h.out hb2 hb1h.out.size)
  obtain ⟨l2, k2, f2⟩ := B1h.out.more hb2
  clear hb2 K
  go_wp2
  go_ret
  exact ⟨rfl, D2.out⟩
set_option maxRecDepth 100000 in
theorem krange_nil (v : Value) (a b c d : Int) (w : World) (h : NoTree w v) : Calls Try.prog 26 #[v, .agg #[.int .u32 a, .int .u32 b, .int .u32 c, .int .u32 d]] w fun e w' => e = .returned (.slice none 0 0) ∧ Below w.heap.size w w' := by
  have hb0 := (Below.refl w.heap.size w).alloc (Nat.le_refl _) (.cells #[.int .u32 a, .int .u32 b, .int .u32 c, .int .u32 d] 70)
  have hb1 := hb0.alloc hb0.size (.cells #[.slice none 0 0] 49)
  have B1 := Blk.new (w.alloc (.cells #[.int .u32 a, .int .u32 b, .int .u32 c, .int .u32 d] 70)) #[.slice none 0 0] 49
  have h1 := h.more hb1
  have K := hid (kwalk_nil v 56 #[.pointer (some ⟨w.heap.size, 0, none⟩), .pointer (some ⟨w.heap.size + 1, 0, none⟩)] _ h1)
  rw [World.size_alloc] at B1
  have B1h := hid B1
  have hb1h := hid hb1
  have KS := hid (fun w => kpsort_nil w)
  clear h h1 B1 hb1 hb0
  go_enter Try.func26, Try.ntmps26
  go_wp2_with fail
  refine K.out.mono ?_
  rintro e w2 ⟨rfl, hb2⟩
  have D2 := hid (below2 hb1h.out hb2 hb1h.out.size)
  obtain ⟨l2, k2, f2⟩ := B1h.out.more hb2
  clear hb2 K
  go_wp2_with fail
  refine (KS.out _).mono ?_
  rintro e w1 ⟨rfl, hw⟩
  rw [hw]
  clear hw w1 KS
  go_wp2
  go_ret
  exact ⟨rfl, D2.out⟩
set_option maxRecDepth 100000 in
theorem ksat_nil (s : Value) (d : Int) (w : World) : Calls Try.prog 59 #[s, .pointer none, .int .i64 d] w fun e w' => e = .returned (.tuple #[]) ∧ w' = w := by
  go_enter Try.func59, Try.ntmps59
  go_wp2
  (try simp only [Exit.inBlock, Exit.then]); refine bodyPost_ret (results_none rfl _ _ _) rfl ?_
  exact ⟨rfl, rfl⟩
set_option maxRecDepth 100000 in
set_option maxHeartbeats 1000000 in
theorem knear_nil (v : Value) (x y k : Int) (w : World) (h : NoTree w v) : Calls Try.prog 27 #[v, .int .u32 x, .int .u32 y, .int .i64 k] w fun e w' => e = .returned (.slice none 0 0) ∧ Below w.heap.size w w' := by
  rcases h with rfl | ⟨p, rfl, B⟩
  · go_enter Try.func27, Try.ntmps27
    go_wp2
    go_ret
    exact ⟨rfl, Below.refl _ _⟩
  · by_cases hk : k ≤ 0
    · have hk' : decide (k ≤ 0) = true := decide_eq_true hk
      clear hk
      go_enter Try.func27, Try.ntmps27
      go_wp2
      go_ret
      exact ⟨rfl, Below.refl _ _⟩
    · have hk' : decide (k ≤ 0) = false := decide_eq_false hk
      have hb1 := (Below.refl w.heap.size w).alloc (Nat.le_refl _) (.cells #[.int .u32 x, .int .u32 y, .int .i64 (min k 64), .slice none 0 0] 112)
      have B1 := Blk.new w #[.int .u32 x, .int .u32 y, .int .i64 (min k 64), .slice none 0 0] 112
      obtain ⟨l0, k0, f0⟩ := B.more hb1
      have hb1h := hid hb1
      have B1h := hid B1
      have K := hid (fun s d w => ksat_nil s d w)
      generalize hm : min k 64 = m at *
      clear hk hb1 B1 B
      go_enter Try.func27, Try.ntmps27
      go_wp2_with fail
      try rw [hm]
      refine (K.out _ _ _).mono ?_
      rintro e w1 ⟨rfl, hw⟩
      rw [hw]
      clear hw w1 K
      obtain ⟨l1, k1, f1⟩ := B1h.out
      go_wp2
      go_ret
      exact ⟨rfl, hb1h.out⟩
set_option maxRecDepth 100000 in
theorem khalve_nil (p : Option Addr) (c : Nat) (d : Int) (w : World) : Calls Try.prog 54 #[.slice p 0 c, .int .i64 d] w fun e w' => e = .returned (.pointer none) ∧ Below w.heap.size w w' := by
  have hb1 := hid ((Below.refl w.heap.size w).alloc (Nat.le_refl _) (.cells #[.int .i64 d] 3))
  go_enter Try.func54, Try.ntmps54
  go_wp2
  go_ret
  exact ⟨rfl, hb1.out⟩
set_option maxRecDepth 100000 in
theorem knew_nil (w : World) : Calls Try.prog 25 #[.slice none 0 0] w fun e w' => ∃ p, e = .returned (.pointer (some ⟨p, 0, none⟩)) ∧ w.heap.size ≤ p ∧ Blk w' p #[.pointer none] ∧ Below w.heap.size w w' := by
  have KS := hid (fun w => kpsort_nil w)
  have KC := hid (fun f w => kcompact none 0 0 (Nat.zero_le _) f w)
  have KH := hid (fun w => khalve_nil none 0 0 w)
  go_enter Try.func25, Try.ntmps25
  go_wp2_with fail
  refine (KS.out _).mono ?_
  rintro e w1 ⟨rfl, hw⟩
  rw [hw]
  clear hw w1 KS
  go_wp2_with fail
  refine (KC.out _ _).mono ?_
  rintro e w1 ⟨rfl, hw⟩
  rw [hw]
  clear hw w1 KC
  go_wp2_with fail
  refine (KH.out _).mono ?_
  rintro e w1 ⟨rfl, hb1⟩
  have D1 := hid (hb1.alloc hb1.size (.cells #[.pointer none] 74))
  have hs := hid hb1.size
  clear hb1 KH
  go_wp2
  go_ret
  exact ⟨_, rfl, hs.out, Blk.new _ _ _, D1.out⟩
end Go.Proofs.Ytghcfidmhabfhaa
