/-
  Layer 34: the law's cut of four points: their small places, in a row of its own. (Written by gencut4.py.)
-/
import Derived.Test.YtohdhbamdeenlaaPolyCut
namespace Go.Proofs.Ytohdhbamdeenlaa
open Go.RowKit
set_option linter.unusedVariables false
set_option linter.unusedSimpArgs false

set_option maxRecDepth 100000 in
set_option maxHeartbeats 8000000 in
theorem cut4_any (b : Nat) (i1 x1 y1 i2 x2 y2 i3 x3 y3 i4 x4 y4 : Int) (d1 d2 d3 d4 : Value) (u1 : 0 ≤ x1) (u1' : x1 ≤ 4294967295) (v1 : 0 ≤ y1) (v1' : y1 ≤ 4294967295) (u2 : 0 ≤ x2) (u2' : x2 ≤ 4294967295) (v2 : 0 ≤ y2) (v2' : y2 ≤ 4294967295) (u3 : 0 ≤ x3) (u3' : x3 ≤ 4294967295) (v3 : 0 ≤ y3) (v3' : y3 ≤ 4294967295) (u4 : 0 ≤ x4) (u4' : x4 ≤ 4294967295) (v4 : 0 ≤ y4) (v4' : y4 ≤ 4294967295)
    (w : World) (B : Blk w b #[.int .i64 i1, .int .u32 x1, .int .u32 y1, d1, .int .i64 i2, .int .u32 x2, .int .u32 y2, d2, .int .i64 i3, .int .u32 x3, .int .u32 y3, d3, .int .i64 i4, .int .u32 x4, .int .u32 y4, d4]) :
    Calls Try.prog 50 #[.slice (some ⟨b, 0, none⟩) 4 4] w fun e w' => ∃ v, e = .returned v ∧ w'.ownsRow w.heap.size 86 4 v 4 [.int .i64 i1, .int .u32 (sm x1), .int .u32 (sm y1), es, .int .i64 i2, .int .u32 (sm x2), .int .u32 (sm y2), es, .int .i64 i3, .int .u32 (sm x3), .int .u32 (sm y3), es, .int .i64 i4, .int .u32 (sm x4), .int .u32 (sm y4), es] ∧ Below w.heap.size w w' := by
  obtain ⟨i0, hi, hz0, hz1, hz2⟩ := info_parts ptInfo
  have K1 := hid (fun w => small_any i1 x1 y1 d1 u1 u1' v1 v1' w)
  have K2 := hid (fun w => small_any i2 x2 y2 d2 u2 u2' v2 v2' w)
  have K3 := hid (fun w => small_any i3 x3 y3 d3 u3 u3' v3 v3' w)
  have K4 := hid (fun w => small_any i4 x4 y4 d4 u4 u4' v4 v4' w)
  have bx1 := sm_bd x1
  have by1 := sm_bd y1
  have bx2 := sm_bd x2
  have by2 := sm_bd y2
  have bx3 := sm_bd x3
  have by3 := sm_bd y3
  have bx4 := sm_bd x4
  have by4 := sm_bd y4
  generalize sm x1 = X1 at *
  generalize sm y1 = Y1 at *
  generalize sm x2 = X2 at *
  generalize sm y2 = Y2 at *
  generalize sm x3 = X3 at *
  generalize sm y3 = Y3 at *
  generalize sm x4 = X4 at *
  generalize sm y4 = Y4 at *
  clear u1 u1' v1 v1' u2 u2' v2 v2' u3 u3' v3 v3' u4 u4' v4 v4'
  have HB0 := hid B
  obtain ⟨l0, k0, f0⟩ := B
  go_enter Try.func50, Try.ntmps50
  go_wp2
  refine wp_loop_rounds 5 ?_
  rw [rounds_succ]
  go_wp2_with fail
  refine (K1.out _).mono ?_
  rintro e a1 ⟨rfl, hb⟩
  have G1 := hid hb
  clear l0 k0 f0 hb
  obtain ⟨l0, k0, f0⟩ := HB0.out.more G1.out
  go_wp2_with (at_builtin; refine wpList_append_own _ rfl _ _ 80 rfl w.heap.size 86 i0 (.agg #[.int .i64 0, .int .u32 0, .int .u32 0, .string ByteArray.empty]) 4 32 Try.underlying80 hi hz0 hz1 hz2 rfl (by decide) (.slice none 0 0) 0 [] rfl (World.ownsRow_nil _ _ _ _) ⟨a1.heap.size, 0, none⟩ 1 1 [.int .i64 i1, .int .u32 X1, .int .u32 Y1, es] rfl rfl four_new ?c2 ?c3 ?c4 ?c5 ?_)
  case c2 => intro u hu; simp at hu; rcases hu with rfl | rfl | rfl | rfl <;> rfl
  case c3 => unfold maxLen; omega
  case c4 => omega
  case c5 => have := G1.out.size; simp; omega
  intro v1 w1 hown hgrow hne
  have H1 := hid (Below.grown (Below.alloc G1.out G1.out.size _) hgrow (by have := G1.out.size; simp; omega) (fun k e => by simp [Value.ownBlock] at e))
  have O1 := hid hown
  clear hown hgrow hne l0 k0 f0
  obtain ⟨l0, k0, f0⟩ := HB0.out.more H1.out
  go_wp2_with fail
  rw [rounds_succ]
  go_wp2_with fail
  refine (K2.out _).mono ?_
  rintro e a2 ⟨rfl, hb⟩
  have P2 := hid (own_more O1.out hb)
  have G2 := hid (below2 H1.out hb H1.out.size)
  clear l0 k0 f0 hb
  obtain ⟨l0, k0, f0⟩ := HB0.out.more G2.out
  go_wp2_with (at_builtin; refine wpList_append_own _ rfl _ _ 80 rfl w.heap.size 86 i0 (.agg #[.int .i64 0, .int .u32 0, .int .u32 0, .string ByteArray.empty]) 4 32 Try.underlying80 hi hz0 hz1 hz2 rfl (by decide) _ _ _ rfl (P2.out.alloc _) ⟨a2.heap.size, 0, none⟩ 1 1 [.int .i64 i2, .int .u32 X2, .int .u32 Y2, es] rfl rfl four_new ?c2 ?c3 ?c4 ?c5 ?_)
  case c2 => intro u hu; simp at hu; rcases hu with rfl | rfl | rfl | rfl <;> rfl
  case c3 => unfold maxLen; omega
  case c4 => omega
  case c5 => have := G2.out.size; simp; omega
  intro v2 w2 hown hgrow hne
  have H2 := hid (Below.grown (Below.alloc G2.out G2.out.size _) hgrow (by have := G2.out.size; simp; omega) (fun k e => (P2.out.lt k e).1))
  have O2 := hid hown
  clear hown hgrow hne l0 k0 f0
  obtain ⟨l0, k0, f0⟩ := HB0.out.more H2.out
  go_wp2_with fail
  rw [rounds_succ]
  go_wp2_with fail
  refine (K3.out _).mono ?_
  rintro e a3 ⟨rfl, hb⟩
  have P3 := hid (own_more O2.out hb)
  have G3 := hid (below2 H2.out hb H2.out.size)
  clear l0 k0 f0 hb
  obtain ⟨l0, k0, f0⟩ := HB0.out.more G3.out
  go_wp2_with (at_builtin; refine wpList_append_own _ rfl _ _ 80 rfl w.heap.size 86 i0 (.agg #[.int .i64 0, .int .u32 0, .int .u32 0, .string ByteArray.empty]) 4 32 Try.underlying80 hi hz0 hz1 hz2 rfl (by decide) _ _ _ rfl (P3.out.alloc _) ⟨a3.heap.size, 0, none⟩ 1 1 [.int .i64 i3, .int .u32 X3, .int .u32 Y3, es] rfl rfl four_new ?c2 ?c3 ?c4 ?c5 ?_)
  case c2 => intro u hu; simp at hu; rcases hu with rfl | rfl | rfl | rfl <;> rfl
  case c3 => unfold maxLen; omega
  case c4 => omega
  case c5 => have := G3.out.size; simp; omega
  intro v3 w3 hown hgrow hne
  have H3 := hid (Below.grown (Below.alloc G3.out G3.out.size _) hgrow (by have := G3.out.size; simp; omega) (fun k e => (P3.out.lt k e).1))
  have O3 := hid hown
  clear hown hgrow hne l0 k0 f0
  obtain ⟨l0, k0, f0⟩ := HB0.out.more H3.out
  go_wp2_with fail
  rw [rounds_succ]
  go_wp2_with fail
  refine (K4.out _).mono ?_
  rintro e a4 ⟨rfl, hb⟩
  have P4 := hid (own_more O3.out hb)
  have G4 := hid (below2 H3.out hb H3.out.size)
  clear l0 k0 f0 hb
  obtain ⟨l0, k0, f0⟩ := HB0.out.more G4.out
  go_wp2_with (at_builtin; refine wpList_append_own _ rfl _ _ 80 rfl w.heap.size 86 i0 (.agg #[.int .i64 0, .int .u32 0, .int .u32 0, .string ByteArray.empty]) 4 32 Try.underlying80 hi hz0 hz1 hz2 rfl (by decide) _ _ _ rfl (P4.out.alloc _) ⟨a4.heap.size, 0, none⟩ 1 1 [.int .i64 i4, .int .u32 X4, .int .u32 Y4, es] rfl rfl four_new ?c2 ?c3 ?c4 ?c5 ?_)
  case c2 => intro u hu; simp at hu; rcases hu with rfl | rfl | rfl | rfl <;> rfl
  case c3 => unfold maxLen; omega
  case c4 => omega
  case c5 => have := G4.out.size; simp; omega
  intro v4 w4 hown hgrow hne
  have H4 := hid (Below.grown (Below.alloc G4.out G4.out.size _) hgrow (by have := G4.out.size; simp; omega) (fun k e => (P4.out.lt k e).1))
  have O4 := hid hown
  clear hown hgrow hne l0 k0 f0
  obtain ⟨l0, k0, f0⟩ := HB0.out.more H4.out
  go_wp2_with fail
  rw [rounds_succ]
  go_wp2
  go_ret
  exact ⟨_, rfl, by simpa using O4.out, H4.out⟩
end Go.Proofs.Ytohdhbamdeenlaa
