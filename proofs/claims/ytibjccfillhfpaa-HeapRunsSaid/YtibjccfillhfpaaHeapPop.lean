/-
  package heap: Pop.
-/
import Derived.Test.YtibjccfillhfpaaHeapSink
namespace Go.Proofs.Ytibjccfillhfpaa
open Go.RowKit
set_option linter.unusedVariables false
set_option linter.unusedSimpArgs false

set_option maxRecDepth 100000 in
set_option maxHeartbeats 4000000 in
theorem sink_empty (h : Nat) (q : Option Addr) (cap : Nat) (w : World) (HB : Blk w h #[.slice q 0 cap]) :
    Calls Try.prog 25 #[.pointer (some ⟨h, 0, none⟩), .int .i64 0] w fun e w' => e = .returned (.tuple #[]) ∧ Below w.heap.size w w' := by
  have hBh := hid HB
  obtain ⟨l0, k0, f0⟩ := HB
  go_enter Try.func25, Try.ntmps25
  go_wp2_with fail
  refine wp_loop_rounds 1 ?_
  rw [rounds_succ]
  go_wp2_with fail
  refine wp_loop_rounds 3 ?_
  rw [rounds_succ]
  have q0 := fun u : Later w => u.blk hBh.out
  go_wp2_with fail
  refine wp_region_late 23 (by kernel_rfl) (by kernel_rfl) ?_
  simp only [List.take_succ_cons, List.take_zero, List.drop_succ_cons, List.drop_zero]
  iterate 23 (go_big_quiet_step (fail))
  refine wpQuiet_nil ?_
  intro w3 h3'
  have h3 := late_out h3'
  have B3 := hBh.out.more h3
  have H3 := hid h3
  have B3h := hid B3
  obtain ⟨l3, k3, f3⟩ := B3
  clear h3' h3 q0 l0 k0 f0
  go_wp2_with fail
  rw [rounds_succ]
  have q0 := fun u : Later w3 => u.blk B3h.out
  go_wp2_with fail
  refine wp_region_late 23 (by kernel_rfl) (by kernel_rfl) ?_
  simp only [List.take_succ_cons, List.take_zero, List.drop_succ_cons, List.drop_zero]
  iterate 23 (go_big_quiet_step (fail))
  refine wpQuiet_nil ?_
  intro w4 h4'
  have h4 := late_out h4'
  have H4 := hid (H3.out.trans (h4.mono H3.out.size))
  clear h4' h4 q0 l3 k3 f3
  go_wp2_with fail
  rw [rounds_succ]
  go_wp2_with fail
  refine bodyPost_ret (results_none rfl _ _ _) rfl ⟨rfl, H4.out⟩

set_option maxRecDepth 100000 in
set_option maxHeartbeats 4000000 in
theorem pop_nil (w : World) : Calls Try.prog 15 #[.pointer none] w fun e w' => e = .returned (.tuple #[itval zIt, .bool false]) ∧ Below w.heap.size w w' := by
  go_enter Try.func15, Try.ntmps15
  go_wp2_with fail
  refine (hlen_nil _).mono ?_
  rintro e w1 ⟨rfl, rfl⟩
  go_wp2_with fail
  refine bodyPost_ret (v := .tuple #[itval zIt, .bool false]) (by simp [results, Try.results15, go_sem, zIt]) rfl ⟨rfl, ?_⟩
  go_grown

set_option maxRecDepth 100000 in
set_option maxHeartbeats 4000000 in
theorem pop_empty (h B : Nat) (v : Value) (w : World) (H : HeapS w h B v []) : Calls Try.prog 15 #[.pointer (some ⟨h, 0, none⟩)] w fun e w' => e = .returned (.tuple #[itval zIt, .bool false]) ∧ Below w.heap.size w w' := by
  have H1 := hid (H.more ((Below.refl _ _).alloc (Nat.le_refl _) (.cells #[.int .u64 0, .int .u64 0, .int .i64 0, .int .i64 0] 55)))
  clear H
  go_enter Try.func15, Try.ntmps15
  go_wp2_with fail
  refine (hlen_any h B v [] _ H1.out).mono ?_
  rintro e w1 ⟨rfl, rfl⟩
  go_wp2_with fail
  refine bodyPost_ret (v := .tuple #[itval zIt, .bool false]) (by simp [results, Try.results15, go_sem, zIt]) rfl ⟨rfl, ?_⟩
  go_grown

theorem sink_pop (h B g cap m : Nat) (L : List It) (hm : L.length = m) (hsm : m ≤ 100000) (hR : SinkOk L 0) (w : World) (H : HeapS w h B (.slice (some ⟨g, 0, none⟩) m cap) L) :
    Calls Try.prog 25 #[.pointer (some ⟨h, 0, none⟩), .int .i64 0] w fun e w' => e = .returned (.tuple #[]) ∧ ∃ L', L'.length = m ∧ HeapOk L' ∧ L'.Perm L ∧ HeapS w' h B (.slice (some ⟨g, 0, none⟩) m cap) L' ∧ Sole (fun j => j = g) w w' := by
  rcases Nat.eq_zero_or_pos m with rfl | hp
  · refine (sink_empty h _ cap w H.box).mono ?_
    rintro e w' ⟨rfl, hb⟩
    exact ⟨rfl, L, hm, fun j h0 hj => by omega, List.Perm.refl _, H.more hb, Sole.made hb⟩
  · exact sink_any h B g cap m 0 L hm hp hsm hR w H

set_option maxRecDepth 100000 in
set_option maxHeartbeats 8000000 in
theorem pop_any (h B : Nat) (v : Value) (L : List It) (hok : HeapOk L) (hpos : 0 < L.length) (hsm : L.length ≤ 100000) (w : World) (H : HeapS w h B v L) :
    Calls Try.prog 15 #[.pointer (some ⟨h, 0, none⟩)] w fun e w' => e = .returned (.tuple #[itval (itAt L 0), .bool true]) ∧ ∃ v' L', L'.length + 1 = L.length ∧ HeapOk L' ∧ (itAt L 0 :: L').Perm L ∧ HeapS w' h B v' L' ∧ v'.ownBlock = v.ownBlock ∧ Sole (fun j => j = h ∨ v.ownBlock = some j) w w' := by
  obtain ⟨m, hm⟩ : ∃ m, L.length = m + 1 := ⟨L.length - 1, by omega⟩
  obtain ⟨g, cap, rfl, hBg, hgl, hc1, hc2, R, fz⟩ := H.own.blk hpos
  have hgh := H.ne g rfl
  have hhl := H.box.lt
  have hpL : popL L = (L.set 0 (itAt L m)).dropLast := by unfold popL; rw [hm]; rfl
  have KS := hid (fun W H => sink_pop h B g cap m (popL L) (by rw [popL_len]; omega) (by omega) (pop_sink hok) W H)
  have hpp := hid (popL_perm L hpos)
  have hpl := hid (show (popL L).length = m by rw [popL_len]; omega)
  have hm100 : m < 100000 := by omega
  have hwr : IntKind.i64.wrap ((m : Int) + 1 - 1) = (m : Int) := by rw [show (m : Int) + 1 - 1 = (m : Int) by omega]; exact IntWalk.i64_in _ ⟨by omega, by omega⟩
  have hwm : IntKind.i64.wrap (m : Int) = (m : Int) := IntWalk.i64_in _ ⟨by omega, by omega⟩
  have hm0 : (0 : Int) ≤ (m : Int) := by omega
  rw [hm] at hc1 R
  obtain ⟨W1, hW1⟩ : ∃ W, w.alloc (.cells #[.int .u64 0, .int .u64 0, .int .i64 0, .int .i64 0] 55) = W := ⟨_, rfl⟩
  have hb1 : Below w.heap.size w W1 := hW1 ▸ (Below.refl _ _).alloc (Nat.le_refl _) _
  have T1 := hid (hW1 ▸ Blk.new w _ _ : Blk W1 w.heap.size #[.int .u64 0, .int .u64 0, .int .i64 0, .int .i64 0])
  have H1 := hid (H.more hb1)
  have hLen := hid (hlen_any h B _ L W1 H1.out)
  rw [hm] at hLen H1
  have HN := hid H1.out.own
  have R1 := R.more hb1
  have z0 := R1.at0 (i := 0) (by omega) (v := .int .u64 (itAt L 0).h) rfl
  have z1 := R1.at1 (i := 0) (by omega) (v := .int .u64 (itAt L 0).l) rfl
  have z2 := R1.at2 (i := 0) (by omega) (v := .int .i64 (itAt L 0).o) rfl
  have z3 := R1.at3 (i := 0) (by omega) (v := .int .i64 (itAt L 0).i) rfl
  have y0 := R1.at0 (i := m) (by omega) (v := .int .u64 (itAt L m).h) rfl
  have y1 := R1.at1 (i := m) (by omega) (v := .int .u64 (itAt L m).l) rfl
  have y2 := R1.at2 (i := m) (by omega) (v := .int .i64 (itAt L m).o) rfl
  have y3 := R1.at3 (i := m) (by omega) (v := .int .i64 (itAt L m).i) rfl
  simp only [Nat.zero_add, Nat.zero_mul] at z0 z1 z2 z3 y0 y1 y2 y3
  obtain ⟨l1, k1, f1⟩ := H1.out.box
  have hg1 : g < W1.heap.size := by have := hb1.size; omega
  have fz1 : ∀ o, W1.frozen? ⟨g, o, none⟩ = false := by
    obtain ⟨g', cap', e', _, _, _, _, _, fz'⟩ := H1.out.own.blk hpos
    rw [hm] at e'
    cases e'
    exact fz'
  have hb1h := hid hb1
  clear H R R1 hok hb1 fz
  go_enter Try.func15, Try.ntmps15
  go_wp2_with fail
  try rw [hW1]
  clear hW1
  refine hLen.out.mono ?_
  rintro e w1 ⟨rfl, rfl⟩
  clear hLen
  go_wp2_with fail
  have O0 := HN.out.put (by rw [hm]) 0 (by omega) (itAt L m)
  simp only [Nat.zero_mul, Nat.zero_add] at O0
  have hwg : w.heap.size ≠ g := by omega
  have hB0 := hid ((((H1.out.box.other ⟨g, 0, none⟩ hgh (.int .u64 (itAt L m).h)).other ⟨g, 1, none⟩ hgh (.int .u64 (itAt L m).l)).other ⟨g, 2, none⟩ hgh (.int .i64 (itAt L m).o)).other ⟨g, 3, none⟩ hgh (.int .i64 (itAt L m).i))
  have hT0 := hid ((((T1.out.other ⟨g, 0, none⟩ hwg.symm (.int .u64 (itAt L m).h)).other ⟨g, 1, none⟩ hwg.symm (.int .u64 (itAt L m).l)).other ⟨g, 2, none⟩ hwg.symm (.int .i64 (itAt L m).o)).other ⟨g, 3, none⟩ hwg.symm (.int .i64 (itAt L m).i))
  have hS0 := hid ((((Sole.setCell (S := fun j => j = h ∨ (Value.slice (some ⟨g, 0, none⟩) (m + 1) cap).ownBlock = some j) w1 (o := 0) (.int .u64 (itAt L m).h) (.inr rfl)).trans (Sole.setCell _ (o := 1) (.int .u64 (itAt L m).l) (.inr rfl))).trans (Sole.setCell _ (o := 2) (.int .i64 (itAt L m).o) (.inr rfl))).trans (Sole.setCell _ (o := 3) (.int .i64 (itAt L m).i) (.inr rfl)))
  have hO0 := hid O0
  have hS1 := hid (Sole.made (S := fun j => j = h ∨ (Value.slice (some ⟨g, 0, none⟩) (m + 1) cap).ownBlock = some j) hb1h.out)
  have hw01 := hb1h.out.size
  have hne := hid H1.out.ne
  clear O0 H1 HN T1 hb1h
  go_region
  have hsz : ((((w1.setCell ⟨g, 0, none⟩ (.int .u64 (itAt L m).h)).setCell ⟨g, 1, none⟩ (.int .u64 (itAt L m).l)).setCell ⟨g, 2, none⟩ (.int .i64 (itAt L m).o)).setCell ⟨g, 3, none⟩ (.int .i64 (itAt L m).i)).heap.size = w1.heap.size := by simp [World.setCell]
  clear z0 z1 z2 z3 y0 y1 y2 y3 l1 k1 f1 fz1
  generalize (((w1.setCell ⟨g, 0, none⟩ (.int .u64 (itAt L m).h)).setCell ⟨g, 1, none⟩ (.int .u64 (itAt L m).l)).setCell ⟨g, 2, none⟩ (.int .i64 (itAt L m).o)).setCell ⟨g, 3, none⟩ (.int .i64 (itAt L m).i) = Wa at *
  have X3 : Blk (Wa.alloc (.cells #[.int .u64 (itAt L 0).h, .int .u64 (itAt L 0).l, .int .i64 (itAt L 0).o, .int .i64 (itAt L 0).i] 55)).drew w1.heap.size _ := (hsz ▸ Blk.new Wa #[.int .u64 (itAt L 0).h, .int .u64 (itAt L 0).l, .int .i64 (itAt L 0).o, .int .i64 (itAt L 0).i] 55).drew
  have B3 := (hB0.out.alloc (.cells #[.int .u64 (itAt L 0).h, .int .u64 (itAt L 0).l, .int .i64 (itAt L 0).o, .int .i64 (itAt L 0).i] 55)).drew
  have T3 := (hT0.out.alloc (.cells #[.int .u64 (itAt L 0).h, .int .u64 (itAt L 0).l, .int .i64 (itAt L 0).o, .int .i64 (itAt L 0).i] 55)).drew
  have O3 : ItsOwn (Wa.alloc (.cells #[.int .u64 (itAt L 0).h, .int .u64 (itAt L 0).l, .int .i64 (itAt L 0).o, .int .i64 (itAt L 0).i] 55)).drew B (.slice (some ⟨g, 0, none⟩) (m + 1) cap) (L.set 0 (itAt L m)) := (hO0.out.more ((Below.refl _ _).alloc (Nat.le_refl _) _)).drew
  have S3 := hid ((hS1.out.trans hS0.out).trans (Sole.alloc Wa (.cells #[.int .u64 (itAt L 0).h, .int .u64 (itAt L 0).l, .int .i64 (itAt L 0).o, .int .i64 (itAt L 0).i] 55)).drew)
  generalize (Wa.alloc (.cells #[.int .u64 (itAt L 0).h, .int .u64 (itAt L 0).l, .int .i64 (itAt L 0).o, .int .i64 (itAt L 0).i] 55)).drew = W3 at *
  have O4 := (O3.drop (by rw [List.length_set, hm])).sole (Sole.setCell (S := fun j => j = h) W3 (b := h) (o := 0) (.slice (some ⟨g, 0, none⟩) m cap) rfl) (fun k hk e => by simp [Value.ownBlock] at hk; omega)
  have B4 := B3.set 0 (.slice (some ⟨g, 0, none⟩) m cap) (by simp)
  rw [← hpL] at O4
  have hws1 : w1.heap.size ≠ h := by omega
  have hws0 : w.heap.size ≠ h := by omega
  have X4 := hid (X3.other ⟨h, 0, none⟩ (Ne.symm hws1) (.slice (some ⟨g, 0, none⟩) m cap))
  have T4 := hid (T3.other ⟨h, 0, none⟩ (Ne.symm hws0) (.slice (some ⟨g, 0, none⟩) m cap))
  have S4 := hid (S3.out.trans (Sole.setCell W3 (b := h) (o := 0) (.slice (some ⟨g, 0, none⟩) m cap) (.inl rfl)))
  have H4 := hid (show HeapS _ h B (.slice (some ⟨g, 0, none⟩) m cap) (popL L) from ⟨B4, O4, fun k hk => by simp [Value.ownBlock] at hk; omega⟩)
  have hm1 : (m : Int) ≤ (cap : Int) := by omega
  obtain ⟨l3, k3, f3⟩ := B3
  clear B4 O4 X3 T3 O3 hB0 hT0 hO0 hS0 hS1 hsz
  go_wp2_with fail
  refine (KS.out _ H4.out).mono ?_
  rintro e w5 ⟨rfl, L', hl', hok', hp', H5, S5⟩
  have X5 := X4.out.sole S5 (by omega)
  have T5 := T4.out.sole S5 hwg
  have S6 := hid (S4.out.trans' S5 (fun k hk e => by subst e; exact .inr rfl))
  have H5h := hid H5
  have T5h := hid T5
  have hp'' := hid ((hp'.cons (itAt L 0)).trans hpp.out)
  obtain ⟨l5, k5, f5⟩ := X5
  obtain ⟨l6, k6, f6⟩ := T5
  have hx : ∀ (o : Nat) (u : Value) (W : World), HeapS W h B (.slice (some ⟨g, 0, none⟩) m cap) L' → HeapS (W.setCell ⟨w.heap.size, o, none⟩ u) h B (.slice (some ⟨g, 0, none⟩) m cap) L' := fun o u W H => H.sole (Sole.setCell (S := fun j => j = w.heap.size) W u rfl) (by omega) (fun k hk e => by simp [Value.ownBlock] at hk; omega)
  have hs : ∀ (o : Nat) (u : Value) (W : World), Sole (fun j => j = h ∨ (Value.slice (some ⟨g, 0, none⟩) (m + 1) cap).ownBlock = some j) w W → w.heap.size < W.heap.size → Sole (fun j => j = h ∨ (Value.slice (some ⟨g, 0, none⟩) (m + 1) cap).ownBlock = some j) w (W.setCell ⟨w.heap.size, o, none⟩ u) := fun o u W S hl => S.trans' (Sole.setCell (S := fun j => j = w.heap.size) W u rfl) (fun k hk e => by omega)
  have hszc : ∀ (o : Nat) (u : Value) (W : World), w.heap.size < W.heap.size → w.heap.size < (W.setCell ⟨w.heap.size, o, none⟩ u).heap.size := fun o u W hl => by simpa [World.setCell] using hl
  have H9 := hid (hx 3 (.int .i64 (itAt L 0).i) _ (hx 2 (.int .i64 (itAt L 0).o) _ (hx 1 (.int .u64 (itAt L 0).l) _ (hx 0 (.int .u64 (itAt L 0).h) _ H5h.out))))
  have S9 := hid (hs 3 (.int .i64 (itAt L 0).i) _ (hs 2 (.int .i64 (itAt L 0).o) _ (hs 1 (.int .u64 (itAt L 0).l) _ (hs 0 (.int .u64 (itAt L 0).h) _ S6.out l6) (hszc _ _ _ l6)) (hszc _ _ _ (hszc _ _ _ l6))) (hszc _ _ _ (hszc _ _ _ (hszc _ _ _ l6))))
  clear KS H4 X4 T4 S4 S5 H5 l3 k3 f3 hx hs hszc S6 H5h T5h
  go_wp2_with fail
  refine bodyPost_ret (v := .tuple #[itval (itAt L 0), .bool true]) (by simp [results, Try.results15, go_sem, k6]) rfl ⟨rfl, _, L', ?_, hok', hp''.out, H9.out, rfl, S9.out⟩
  rw [hl', hm]
/-- A heap of nothing. -/
theorem heapS_new (w : World) (B : Nat) : HeapS (w.alloc (.cells #[.slice none 0 0] 49)) w.heap.size B (.slice none 0 0) [] :=
  ⟨Blk.new _ _ _, ItsOwn.nil _ _, fun k hk => by simp [Value.ownBlock] at hk⟩
theorem heapOk_nil : HeapOk [] := fun j h0 hj => by simp at hj
theorem HeapS.frame {w w' : World} {h B : Nat} {v : Value} {L : List It} (H : HeapS w h B v L) {A : Nat} (hA : A ≤ w.heap.size) (h1 : A ≤ h) (h2 : A ≤ B) (S : Sole (fun j => j = h ∨ v.ownBlock = some j) w w') : Below A w w' :=
  S.below hA fun k hk => by
    rcases hk with rfl | hk
    · exact h1
    · exact Nat.le_trans h2 (H.own.lt k hk).1

end Go.Proofs.Ytibjccfillhfpaa
