/-
  package span: Roads of one place and of two, as the law's own beginning asks.
-/
import Derived.Test.YtahdhgaoofpefaaSpan
import Derived.Test.YtahdhgaoofpefaaSole
import Derived.WalkKit
import Derived.Deep.AppendLies
namespace Go.Proofs.Ytahdhgaoofpefaa
open Go.RowKit
set_option linter.unusedVariables false
set_option linter.unusedSimpArgs false

theorem openTab : (Try.prog.info? 99).map (fun i => (i.zero, i.size, i.bytes)) = some (some (.agg #[.int .i64 0, .int .i64 0, .int .i64 0, .int .u64 0, .int .u64 0]), 5, 40) := by kernel_rfl
theorem roadTab : (Try.prog.info? 70).map (fun i => (i.zero, i.size, i.bytes)) = some (some (.agg #[.int .i64 0, .int .i64 0, .int .u64 0, .int .u64 0]), 4, 32) := by kernel_rfl
theorem newsR (w : World) (c : Array Value) (t : TypeId) : ∀ j u, c.toList[j]? = some u → (w.alloc (.cells c t)).cell? (Addr.add ⟨w.heap.size, 0, none⟩ j) = some u :=
  World.news_of_block (cs := c) (t := t) (fr := (0, 0)) (heap_alloc_new w _)
theorem own_more' {w w' : World} {base : Nat} {e : TypeId} {size : Nat} {v : Value} {n : Nat} {xs : List Value} (h : w.ownsRow base e size v n xs) (hb : Below w.heap.size w w') : w'.ownsRow base e size v n xs :=
  own_sole h (Sole.made (S := fun _ => False) hb) fun _ _ x => x
/-- A row of one element: its block. -/
theorem own_first {w : World} {base : Nat} {e : TypeId} {size : Nat} {v : Value} {xs : List Value} (h : w.ownsRow base e size v 1 xs) : ∃ g cap cur, v = .slice (some ⟨g, 0, none⟩) 1 cap ∧ base ≤ g ∧ 1 ≤ cap ∧ cap ≤ maxLen ∧ Blk w g cur ∧ (∀ j, j < size → cur[j]? = xs[j]?) := by
  rcases h.2 with ⟨_, h0⟩ | ⟨g, cap, cur, rfl, hb, hg, h1, h2, h3, h4⟩
  · omega
  · refine ⟨g, cap, cur, rfl, hb, h1, h2, ⟨(h.lt g rfl).2, fun o => by simp [World.cell?, hg], fun o => by simp [World.frozen?, hg]⟩, fun j hj => ?_⟩
    rw [← h4, List.getElem?_take_of_lt (by omega)]
    simp

set_option maxRecDepth 100000 in
set_option maxHeartbeats 8000000 in
theorem roads_two (b : Nat) (w : World) (HB : Blk w b two42) :
    Calls Try.prog 46 #[.slice (some ⟨b, 0, none⟩) 2 2] w fun e w' => ∃ g cap cur, e = .returned (.slice (some ⟨g, 0, none⟩) 1 cap) ∧ Blk w' g cur ∧ (∀ j, j < 4 → cur[j]? = (rcells ⟨0, 1, 0, 9⟩)[j]?) ∧ Below w.heap.size w w' := by
  obtain ⟨i0, hi, hz0, hz1, hz2⟩ := info_parts openTab
  obtain ⟨j0, hj, hy0, hy1, hy2⟩ := info_parts roadTab
  have K := hid (road_two b w HB)
  clear HB
  unfold rdval at K
  go_enter Try.func46, Try.ntmps46
  go_wp2_with fail
  refine wp_loop_rounds 2 ?_
  rw [rounds_succ]
  go_wp2_with fail
  refine K.out.mono ?_
  rintro e w1 ⟨rfl, hb1⟩
  have G1 := hid hb1
  clear hb1 K
  go_wp2_with (at_builtin; refine wpList_append_own _ rfl _ _ 96 rfl w.heap.size 99 i0 (.agg #[.int .i64 0, .int .i64 0, .int .i64 0, .int .u64 0, .int .u64 0]) 5 40 Try.underlying96 hi hz0 hz1 hz2 rfl (by decide) (.slice none 0 0) 0 [] rfl (World.ownsRow_nil _ _ _ _) ⟨w1.heap.size, 0, none⟩ 1 1 [.int .i64 1, .int .i64 0, .int .i64 1, .int .u64 0, .int .u64 9] rfl rfl (newsR _ _ _) ?c2 ?c3 ?c4 ?c5 ?_)
  case c2 => intro u hu; simp at hu; rcases hu with rfl | rfl | rfl | rfl | rfl <;> rfl
  case c3 => unfold maxLen; omega
  case c4 => omega
  case c5 => have := G1.out.size; simp; omega
  intro v1 w2 hown hgrow hne
  have H2 := hid (Below.grown (Below.alloc G1.out G1.out.size _) hgrow (by have := G1.out.size; simp; omega) (fun k e => by simp [Value.ownBlock] at e))
  obtain ⟨g1, cap1, c1, rfl, hg1, hc1, hm1, B1, E1⟩ := own_first hown
  have B1h := hid B1
  have E1h := hid E1
  have hge := hid hg1
  have hcl := hid (And.intro hc1 hm1)
  clear hown hgrow hne G1 B1 E1 hg1 hc1 hm1
  go_wp2_with fail
  rw [rounds_succ]
  go_wp2_with fail
  refine wp_loop_rounds 2 ?_
  rw [rounds_succ]
  go_wp2_with fail
  refine (nearest_one g1 cap1 1 ⟨0, 1, 0, 9⟩ w2 c1 B1h.out (E1h.out 0 (by omega)) (E1h.out 1 (by omega)) (E1h.out 2 (by omega)) (E1h.out 3 (by omega)) (E1h.out 4 (by omega))).mono ?_
  rintro e w3 ⟨rfl, hb3⟩
  have B3 := B1h.out.more hb3
  have H3 := hid (below2 H2.out hb3 H2.out.size)
  have l3 := B3.lt
  have f3 := B3.frz
  have z0 := (B3.cell 0).trans (E1h.out 0 (by omega))
  have z1 := (B3.cell 1).trans (E1h.out 1 (by omega))
  have z2 := (B3.cell 2).trans (E1h.out 2 (by omega))
  have z3 := (B3.cell 3).trans (E1h.out 3 (by omega))
  have z4 := (B3.cell 4).trans (E1h.out 4 (by omega))
  simp at z0 z1 z2 z3 z4
  have B3h := hid B3
  clear hb3 B3 B1h
  go_wp2_with (at_builtin; refine wpList_append_own _ rfl _ _ 68 rfl w3.heap.size 70 j0 (.agg #[.int .i64 0, .int .i64 0, .int .u64 0, .int .u64 0]) 4 32 Try.underlying68 hj hy0 hy1 hy2 rfl (by decide) (.slice none 0 0) 0 [] rfl (World.ownsRow_nil _ _ _ _) ⟨w3.heap.size + 1, 0, none⟩ 1 1 [.int .i64 0, .int .i64 1, .int .u64 0, .int .u64 9] rfl rfl ?c1 ?c2 ?c3 ?c4 ?c5 ?_)
  case c1 => intro j u hu; have h := newsR (w3.alloc (.cells #[.int .i64 1, .int .i64 0, .int .i64 1, .int .u64 0, .int .u64 9] 99)) #[.int .i64 0, .int .i64 1, .int .u64 0, .int .u64 9] 70 j u hu; rw [World.size_alloc] at h; exact h
  case c2 => intro u hu; simp at hu; rcases hu with rfl | rfl | rfl | rfl <;> rfl
  case c3 => unfold maxLen; omega
  case c4 => omega
  case c5 => simp only [World.size_alloc]; omega
  intro v4 w4 hown hgrow hne
  have Hx : Below w3.heap.size w3 w4 := Below.grown (Below.alloc (Below.alloc (Below.refl _ _) (Nat.le_refl _) _) (by simp) _) hgrow (by simp only [World.size_alloc]; omega) (fun k e => by simp [Value.ownBlock] at e)
  obtain ⟨g2, cap2, c2, rfl, hg2, hc2, hm2, B2, E2⟩ := own_first hown
  have B4 := B3h.out.more Hx
  have H4 := hid (H3.out.trans (Hx.mono H3.out.size))
  have l4 := B4.lt
  have f4 := B4.frz
  have y0 := (B4.cell 0).trans (E1h.out 0 (by omega))
  have y1 := (B4.cell 1).trans (E1h.out 1 (by omega))
  have y2 := (B4.cell 2).trans (E1h.out 2 (by omega))
  have y3 := (B4.cell 3).trans (E1h.out 3 (by omega))
  have y4 := (B4.cell 4).trans (E1h.out 4 (by omega))
  simp at y0 y1 y2 y3 y4
  have hne2 := hid (show g1 ≠ g2 by omega)
  have B2h := hid B2
  have E2h := hid E2
  have hcap := hcl.out.1
  clear hown hgrow hne B4 B3h Hx B2 E2 z0 z1 z2 z3 z4 l3 f3 H3
  go_wp2_with fail
  refine wp_loop_rounds 1 ?_
  rw [rounds_succ]
  go_wp2_with fail
  rw [rounds_succ]
  go_wp2_with fail
  refine (sort_short _ 1 cap2 (by omega) _ _).mono ?_
  rintro e w' ⟨rfl, rfl⟩
  go_wp2_with fail
  go_ret
  have hg := hge.out
  refine ⟨g2, cap2, c2, rfl, ?_, E2h.out, ?_⟩
  · exact ((((B2h.out.other _ hne2.out _).other _ hne2.out _).other _ hne2.out _).other _ hne2.out _).other _ hne2.out _
  · exact Below.setCell (Below.setCell (Below.setCell (Below.setCell (Below.setCell H4.out hg _) hg _) hg _) hg _) hg _

set_option maxRecDepth 100000 in
theorem roads_one (b : Nat) (w : World) :
    Calls Try.prog 46 #[.slice (some ⟨b, 0, none⟩) 1 1] w fun e w' => e = .returned (.slice none 0 0) ∧ w' = w := by
  go_enter Try.func46, Try.ntmps46
  go_wp2_with fail
  refine wp_loop_rounds 1 ?_
  rw [rounds_succ]
  go_wp2_with fail
  refine wp_loop_rounds 1 ?_
  rw [rounds_succ]
  go_wp2_with fail
  refine (sort_short none 0 0 (by omega) _ _).mono ?_
  rintro e w' ⟨rfl, rfl⟩
  go_wp2_with fail
  go_ret
  exact ⟨rfl, rfl⟩

set_option maxRecDepth 100000 in
set_option maxHeartbeats 4000000 in
theorem alive42 (w : World) : Calls Try.prog 32 #[] w fun e w' => e = .returned (.bool true) ∧ Below w.heap.size w w' := by
  go_enter Try.func32, Try.ntmps32
  go_wp2_with fail
  refine (roads_two _ _ (Blk.new _ _ _)).mono ?_
  rintro e w1 ⟨g, cap, cur, rfl, B1, E1, hb1⟩
  obtain ⟨B0, H1⟩ := boxed1 hb1
  have H1h := hid H1
  have B1h := hid B1
  have E1h := hid E1
  clear B0 hb1 H1 B1 E1
  go_wp2_with fail
  refine (roads_one _ _).mono ?_
  rintro e w2 ⟨rfl, rfl⟩
  generalize hW : World.alloc w1 _ = W
  have B2 : Blk W g cur := hW ▸ B1h.out.alloc _
  have H2 : Hid (Below w.heap.size w W) := hid (hW ▸ Below.alloc H1h.out H1h.out.size _)
  have z0 := (B2.cell 0).trans (E1h.out 0 (by omega))
  have z1 := (B2.cell 1).trans (E1h.out 1 (by omega))
  have z2 := (B2.cell 2).trans (E1h.out 2 (by omega))
  have z3 := (B2.cell 3).trans (E1h.out 3 (by omega))
  simp [rcells] at z0 z1 z2 z3
  have l2 := B2.lt
  clear B2 B1h E1h hW H1h
  go_wp2_with fail
  go_ret
  exact ⟨rfl, H2.out⟩
end Go.Proofs.Ytahdhgaoofpefaa
