/-
  Layer 34: the law's cut of three points: their small places, in a row of its own.
-/
import Derived.Test.YtohdhbamdeenlaaPolyLaw
import Derived.WalkKit
namespace Go.Proofs.Ytohdhbamdeenlaa
open Go.RowKit
set_option linter.unusedVariables false
set_option linter.unusedSimpArgs false

theorem ptInfo : (Try.prog.info? 86).map (fun i => (i.zero, i.size, i.bytes)) = some (some (.agg #[.int .i64 0, .int .u32 0, .int .u32 0, .string ByteArray.empty]), 4, 32) := by kernel_rfl

theorem four_new {w : World} {v0 v1 v2 v3 : Value} {t : TypeId} : ∀ j u, [v0, v1, v2, v3][j]? = some u → (w.alloc (.cells #[v0, v1, v2, v3] t)).cell? (Addr.add ⟨w.heap.size, 0, none⟩ j) = some u := by
  intro j u hj
  match j, hj with
  | 0, hj => simp at hj; subst hj; simp [Addr.add]
  | 1, hj => simp at hj; subst hj; simp [Addr.add]
  | 2, hj => simp at hj; subst hj; simp [Addr.add]
  | 3, hj => simp at hj; subst hj; simp [Addr.add]

theorem own_more {w w' : World} {base : Nat} {e : TypeId} {size : Nat} {v : Value} {n : Nat} {xs : List Value} (h : w.ownsRow base e size v n xs) (hb : Below w.heap.size w w') : w'.ownsRow base e size v n xs := by
  obtain ⟨h1, h2⟩ := h
  refine ⟨h1, h2.imp id ?_⟩
  rintro ⟨g, cap, cur, e1, e2, e3, rest⟩
  exact ⟨g, cap, cur, e1, e2, (hb.block g (Array.getElem?_eq_some_iff.1 e3).1).trans e3, rest⟩

abbrev es : Value := .string ByteArray.empty

set_option maxRecDepth 100000 in
set_option maxHeartbeats 4000000 in
theorem cut3_any (b : Nat) (i1 i2 i3 x1 y1 x2 y2 x3 y3 : Int) (d1 d2 d3 : Value) (h1 : 0 ≤ x1) (h1' : x1 ≤ 4294967295) (h2 : 0 ≤ y1) (h2' : y1 ≤ 4294967295) (h3 : 0 ≤ x2) (h3' : x2 ≤ 4294967295) (h4 : 0 ≤ y2) (h4' : y2 ≤ 4294967295) (h5 : 0 ≤ x3) (h5' : x3 ≤ 4294967295) (h6 : 0 ≤ y3) (h6' : y3 ≤ 4294967295)
    (w : World) (B : Blk w b #[.int .i64 i1, .int .u32 x1, .int .u32 y1, d1, .int .i64 i2, .int .u32 x2, .int .u32 y2, d2, .int .i64 i3, .int .u32 x3, .int .u32 y3, d3]) :
    Calls Try.prog 50 #[.slice (some ⟨b, 0, none⟩) 3 3] w fun e w' => ∃ v, e = .returned v ∧ w'.ownsRow w.heap.size 86 4 v 3 [.int .i64 i1, .int .u32 (sm x1), .int .u32 (sm y1), es, .int .i64 i2, .int .u32 (sm x2), .int .u32 (sm y2), es, .int .i64 i3, .int .u32 (sm x3), .int .u32 (sm y3), es] ∧ Below w.heap.size w w' := by
  obtain ⟨i0, hi, hz0, hz1, hz2⟩ := info_parts ptInfo
  have K1 := hid (fun w => small_any i1 x1 y1 d1 h1 h1' h2 h2' w)
  have K2 := hid (fun w => small_any i2 x2 y2 d2 h3 h3' h4 h4' w)
  have K3 := hid (fun w => small_any i3 x3 y3 d3 h5 h5' h6 h6' w)
  have b1 := sm_bd x1
  have b2 := sm_bd y1
  have b3 := sm_bd x2
  have b4 := sm_bd y2
  have b5 := sm_bd x3
  have b6 := sm_bd y3
  generalize sm x1 = X1 at *
  generalize sm y1 = Y1 at *
  generalize sm x2 = X2 at *
  generalize sm y2 = Y2 at *
  generalize sm x3 = X3 at *
  generalize sm y3 = Y3 at *
  clear h1 h1' h2 h2' h3 h3' h4 h4' h5 h5' h6 h6'
  have HB0 := hid B
  obtain ⟨l0, k0, f0⟩ := B
  go_enter Try.func50, Try.ntmps50
  go_wp2
  refine wp_loop_rounds 4 ?_
  rw [rounds_succ]
  go_wp2_with fail
  refine (K1.out _).mono ?_
  rintro e a1 ⟨rfl, hb⟩
  have G1 := hid (hb)
  clear l0 k0 f0 hb
  obtain ⟨l0, k0, f0⟩ := HB0.out.more G1.out
  go_wp2_with (at_builtin; refine wpList_append_own _ rfl _ _ 80 rfl w.heap.size 86 i0 (.agg #[.int .i64 0, .int .u32 0, .int .u32 0, .string ByteArray.empty]) 4 32 Try.underlying80 hi hz0 hz1 hz2 rfl (by decide) (.slice none 0 0) 0 [] rfl (World.ownsRow_nil _ _ _ _) ⟨a1.heap.size, 0, none⟩ 1 1 [.int .i64 i1, .int .u32 X1, .int .u32 Y1, es] rfl rfl four_new ?c2 ?c3 ?c4 ?c5 ?_)
  case c2 => intro u hu; simp at hu; rcases hu with rfl | rfl | rfl | rfl <;> rfl
  case c3 => unfold maxLen; omega
  case c4 => omega
  case c5 => have := G1.out.size; simp; omega
  intro v1 w1 hown hgrow hne
  have H1 := hid (Below.grown (Below.alloc G1.out G1.out.size _) hgrow (by have := G1.out.size; simp; omega) (fun k e => by simp [Value.ownBlock] at e))
  have O1 := hid hown
  clear hown hgrow hne l0 k0 f0
  obtain ⟨l0, k0, f0⟩ := HB0.out.more H1.out
  go_wp2_with fail
  rw [rounds_succ]
  go_wp2_with fail
  refine (K2.out _).mono ?_
  rintro e a2 ⟨rfl, hb⟩
  have P2 := hid (own_more O1.out hb)
  have G2 := hid (below2 H1.out hb H1.out.size)
  clear l0 k0 f0 hb
  obtain ⟨l0, k0, f0⟩ := HB0.out.more G2.out
  go_wp2_with (at_builtin; refine wpList_append_own _ rfl _ _ 80 rfl w.heap.size 86 i0 (.agg #[.int .i64 0, .int .u32 0, .int .u32 0, .string ByteArray.empty]) 4 32 Try.underlying80 hi hz0 hz1 hz2 rfl (by decide) _ _ _ rfl (P2.out.alloc _) ⟨a2.heap.size, 0, none⟩ 1 1 [.int .i64 i2, .int .u32 X2, .int .u32 Y2, es] rfl rfl four_new ?c2 ?c3 ?c4 ?c5 ?_)
  case c2 => intro u hu; simp at hu; rcases hu with rfl | rfl | rfl | rfl <;> rfl
  case c3 => unfold maxLen; omega
  case c4 => omega
  case c5 => have := G2.out.size; simp; omega
  intro v2 w2 hown hgrow hne
  have H2 := hid (Below.grown (Below.alloc G2.out G2.out.size _) hgrow (by have := G2.out.size; simp; omega) (fun k e => (P2.out.lt k e).1))
  have O2 := hid hown
  clear hown hgrow hne l0 k0 f0
  obtain ⟨l0, k0, f0⟩ := HB0.out.more H2.out
  go_wp2_with fail
  rw [rounds_succ]
  go_wp2_with fail
  refine (K3.out _).mono ?_
  rintro e a3 ⟨rfl, hb⟩
  have P3 := hid (own_more O2.out hb)
  have G3 := hid (below2 H2.out hb H2.out.size)
  clear l0 k0 f0 hb
  obtain ⟨l0, k0, f0⟩ := HB0.out.more G3.out
  go_wp2_with (at_builtin; refine wpList_append_own _ rfl _ _ 80 rfl w.heap.size 86 i0 (.agg #[.int .i64 0, .int .u32 0, .int .u32 0, .string ByteArray.empty]) 4 32 Try.underlying80 hi hz0 hz1 hz2 rfl (by decide) _ _ _ rfl (P3.out.alloc _) ⟨a3.heap.size, 0, none⟩ 1 1 [.int .i64 i3, .int .u32 X3, .int .u32 Y3, es] rfl rfl four_new ?c2 ?c3 ?c4 ?c5 ?_)
  case c2 => intro u hu; simp at hu; rcases hu with rfl | rfl | rfl | rfl <;> rfl
  case c3 => unfold maxLen; omega
  case c4 => omega
  case c5 => have := G3.out.size; simp; omega
  intro v3 w3 hown hgrow hne
  have H3 := hid (Below.grown (Below.alloc G3.out G3.out.size _) hgrow (by have := G3.out.size; simp; omega) (fun k e => (P3.out.lt k e).1))
  have O3 := hid hown
  clear hown hgrow hne l0 k0 f0
  obtain ⟨l0, k0, f0⟩ := HB0.out.more H3.out
  go_wp2_with fail
  rw [rounds_succ]
  go_wp2
  go_ret
  exact ⟨_, rfl, by simpa using O3.out, H3.out⟩
end Go.Proofs.Ytohdhbamdeenlaa
