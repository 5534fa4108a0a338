/-
  The document's own disk: Done; what stays as its numbers become others.
-/
import Derived.Test.YtpgibngohbohdaaRefFates
import Derived.Deep.DeepCutAuto
namespace Go.Proofs.Ytpgibngohbohdaa
open Go.RowKit Go.Maps
set_option linter.unusedVariables false
set_option linter.unusedSimpArgs false

/-- One cell of the call's own becomes another. -/
theorem Mid'.cell {w W : World} {J : Nat → Prop} {mm : RM} (h : Mid' w J W mm) (hJ : ∀ k, J k → k < w.heap.size) (o : Nat) (v : Value) (mm' : RM) (ho : o < 7) (hR : ∀ W' J', RefM W' mm J' → RefM W' mm' J') (hc : mm.cells.toArray.setIfInBounds o v = mm'.cells.toArray) : Mid' w J (W.setCell ⟨w.heap.size, o, none⟩ v) mm' := by
  have hsz : (W.setCell ⟨w.heap.size, o, none⟩ v).heap.size = W.heap.size := by simp [World.setCell]
  refine ⟨?_, ?_, h.Z.other ⟨w.heap.size, o, none⟩ (by simp) v, Below.setCell (p := ⟨w.heap.size, o, none⟩) h.D (Nat.le_refl _) v⟩
  · rw [hsz]
    exact hR _ _ (h.R.sole (Sole.setCell (S := fun j => j = w.heap.size) W (b := w.heap.size) (o := o) v rfl) (fun j hj e => by rcases hj with x | x; (have := hJ j x; omega); omega))
  · rw [← hc]
    exact h.B.set o v (by simpa using ho)
/-- The result is stored. -/
theorem Mid'.fin {w W : World} {J : Nat → Prop} {mm : RM} (h : Mid' w J W mm) (hJ : ∀ k, J k → k < w.heap.size) : Blk (setAll W (w.heap.size + 1) 0 mm.cells) (w.heap.size + 1) mm.cells.toArray ∧ Below w.heap.size w (setAll W (w.heap.size + 1) 0 mm.cells) ∧ RefM (setAll W (w.heap.size + 1) 0 mm.cells) mm (JN J w (setAll W (w.heap.size + 1) 0 mm.cells)) := by
  refine ⟨?_, below_fill (b := w.heap.size + 1) (Nat.le_succ _) mm.cells 0 h.D, RefM.fill h.R hJ (Nat.le_succ _) mm.cells⟩
  have e : fillC rz 0 mm.cells = mm.cells.toArray := by simp [RM.cells, rdv, fillC]
  rw [← e]
  exact Blk.fill mm.cells 0 h.Z (by simp)
/-- What a callee has made is stored as the result. -/
theorem Mid'.pass {w W W1 : World} {J : Nat → Prop} {mm m' : RM} (h : Mid' w J W mm) (hJ : ∀ k, J k → k < w.heap.size) (hb : Below W.heap.size W W1) (R1 : RefM W1 m' (JN (fun j => J j ∨ (w.heap.size + 1 + 1 ≤ j ∧ j < W.heap.size)) W W1)) :
    Blk (setAll W1 (w.heap.size + 1) 0 m'.cells) (w.heap.size + 1) m'.cells.toArray ∧ Below w.heap.size w (setAll W1 (w.heap.size + 1) 0 m'.cells) ∧ RefM (setAll W1 (w.heap.size + 1) 0 m'.cells) m' (JN J w (setAll W1 (w.heap.size + 1) 0 m'.cells)) := by
  have hz := h.Z.lt
  refine ⟨?_, below_fill (b := w.heap.size + 1) (Nat.le_succ _) m'.cells 0 (below2 h.D hb h.D.size), RefM.fill (R1.wide (fun k hk => ?_) (fun k hk => ?_)) hJ (Nat.le_succ _) m'.cells⟩
  · have e : fillC rz 0 m'.cells = m'.cells.toArray := by simp [RM.cells, rdv, fillC]
    rw [← e]
    exact Blk.fill m'.cells 0 (h.Z.more hb) (by simp)
  · rcases hk with (h1 | h1) | h1
    · exact .inl h1
    · exact .inr ⟨h1.1, Nat.lt_of_lt_of_le h1.2 hb.size⟩
    · exact .inr ⟨by omega, h1.2⟩
  · rcases hk with h1 | h1
    · exact R1.jlt k (.inl (.inl h1))
    · exact h1.2
/-- What Done leaves. -/
def DoneD (m m' : RM) : Prop := (m.cut = 0 ∧ m' = m) ∨ (m.cut = 1 ∧ ∃ p0 c0 L p2 c2 O, m' = { (m.sec p0 c0 L p2 c2 O).clean with cut := 0, off := true } ∧ L.length = m.L.length ∧ (m.sec p0 c0 L p2 c2 O).sd = rset m.Q m.F m.sd m.Q.length) ∨ (m.cut ≠ 0 ∧ m.cut ≠ 1 ∧ m' = { m with cut := m.cut - 1 })
set_option maxRecDepth 100000 in
set_option maxHeartbeats 1000000 in
theorem rdone_any (m : RM) (J : Nat → Prop) (w : World) (R : RefM w m J) (hFw : ∀ f ∈ m.F, f ≤ 9223372036854775807) (hc0 : 0 ≤ m.cut) (hc1 : m.cut ≤ 9223372036854775807) :
    Calls Try.prog 64 #[m.v] w fun e w' => ∃ m', e = .returned m'.v ∧ RefM w' m' (JN J w w') ∧ Below w.heap.size w w' ∧ DoneD m m' := by
  have hJ := hid R.jlt
  have M0 := Mid'.start w J m R
  have Mh := hid M0
  have hlF := hid R.lF
  obtain ⟨l1, m1, f1⟩ := M0.B
  obtain ⟨l2, m2, f2⟩ := M0.Z
  have hFwh := hid hFw
  clear R M0 hFw
  generalize hW0 : (w.alloc (.cells m.cells.toArray 31)).alloc (.cells rz 31) = W0 at *
  go_enter Try.func64, Try.ntmps64
  by_cases h0 : m.cut = 0
  · have h0' : (m.cut == 0) = true := by rw [h0]; rfl
    have hD : Hid (DoneD m m) := hid (.inl ⟨h0, rfl⟩)
    replace h0 := hid h0
    go_wp2_with fail
    have F := hid (Mh.out.fin hJ.out)
    simp only [setAll, RM.cells, rdv, Nat.zero_add, Nat.reduceAdd] at F
    clear l1 m1 f1 l2 m2 f2 Mh hW0
    generalize World.setCell _ _ _ = W3 at *
    obtain ⟨l9, q9, f9⟩ := F.out.1
    refine bodyPost_ret (v := m.v) (by simp [results, Try.results64, go_sem, q9]) rfl ⟨m, rfl, F.out.2.2, F.out.2.1, hD.out⟩
  · have h0' : (m.cut == 0) = false := by rw [beq_eq_false_iff_ne]; exact h0
    have hw : wrap64 (m.cut - 1) = m.cut - 1 := IntWalk.wrap64_in _ ⟨by omega, by omega⟩
    have M1 := hid (Mh.out.cell hJ.out 4 (.int .i64 (m.cut - 1)) { m with cut := m.cut - 1 } (by decide) (fun W' J' h => h.scal m.off (m.cut - 1) m.fail) (by simp [RM.cells, rdv]))
    have B1 := M1.out.B
    have Z1 := M1.out.Z
    simp only [RM.cells, rdv] at B1
    obtain ⟨l3, m3, f3⟩ := B1
    obtain ⟨l4, m4, f4⟩ := Z1
    by_cases h1 : m.cut = 1
    · have h1' : (m.cut - 1 == 0) = true := by rw [h1]; rfl
      have e0 : m.cut - 1 = 0 := by omega
      have KS := hid (rsettle_any { m with cut := m.cut - 1 } _ _ M1.out.R m.p5 m.c5 m.F M1.out.R.F hlF.out hFwh.out)
      simp only [RM.v, RM.cells, rdv] at KS
      have h1h := hid h1
      have e0h := hid e0
      clear h0 h1 e0 hc0 hc1
      go_wp2_with fail
      refine KS.out.mono ?_
      rintro e w5 ⟨p0, c0, L, p2, c2, O, rfl, hL, R5, hb5, hsd⟩
      have M5 := M1.out.stored hJ.out hb5 R5
      have M6 := hid (M5.cell hJ.out 3 (.bool true) { (m.sec p0 c0 L p2 c2 O).clean with cut := m.cut - 1, off := true } (by decide) (fun W' J' h => h.scal true (m.cut - 1) m.fail) (by simp [RM.cells, rdv]))
      have M5h := hid M5
      have hDD : Hid (DoneD m { (m.sec p0 c0 L p2 c2 O).clean with cut := m.cut - 1, off := true }) := hid (.inr (.inl ⟨h1h.out, p0, c0, L, p2, c2, O, by rw [e0h.out], hL, hsd⟩))
      have BB5 := M1.out.B.more hb5
      have Z5 := M1.out.Z.more hb5
      simp only [RM.cells, rdv] at BB5 Z5
      obtain ⟨l7, m7, f7⟩ := Z5
      obtain ⟨l8, m8, f8⟩ := BB5
      clear M5 R5 hb5 KS hL hsd l1 m1 f1 l2 m2 f2 l3 m3 f3 l4 m4 f4 M1 hw h0' h1' hW0 Mh
      simp only [RM.v, RM.cells, rdv]
      go_upto_region 6 with (fail)
      have B5 := M5h.out.B
      have Z5 := M5h.out.Z
      have M6x := M6
      simp only [setAll, RM.cells, rdv, Nat.zero_add, Nat.reduceAdd] at B5 Z5 M6 M5h
      clear l7 m7 f7 l8 m8 f8 M6x
      generalize World.setCell (World.setCell _ _ _) _ _ = W5 at *
      have B6 := M6.out.B
      simp only [RM.cells, rdv] at B6
      obtain ⟨l5, m5, f5⟩ := B5
      obtain ⟨l6, m6, f6⟩ := B6
      obtain ⟨l7, m7, f7⟩ := Z5
      go_upto_region 7 with (fail)
      have Z6 := M6.out.Z
      have F := hid (M6.out.fin hJ.out)
      clear l5 m5 f5 l7 m7 f7
      generalize World.setCell W5 _ _ = W6 at *
      obtain ⟨l7, m7, f7⟩ := Z6
      go_wp2_with fail
      simp only [setAll, RM.cells, rdv, Nat.zero_add, Nat.reduceAdd] at F
      clear l6 m6 f6 l7 m7 f7 M6 M5h
      generalize World.setCell _ _ _ = W3 at *
      obtain ⟨l9, q9, f9⟩ := F.out.1
      refine bodyPost_ret (v := RM.v { (m.sec p0 c0 L p2 c2 O).clean with cut := m.cut - 1, off := true }) (by simp [results, Try.results64, go_sem, q9]) rfl ⟨_, rfl, F.out.2.2, F.out.2.1, hDD.out⟩
    · have h1' : (m.cut - 1 == 0) = false := by rw [beq_eq_false_iff_ne]; omega
      have hDD : Hid (DoneD m { m with cut := m.cut - 1 }) := hid (.inr (.inr ⟨h0, h1, rfl⟩))
      clear h0 h1 hc0 hc1
      go_wp2_with fail
      have F := hid (M1.out.fin hJ.out)
      simp only [setAll, RM.cells, rdv, Nat.zero_add, Nat.reduceAdd] at F
      clear l1 m1 f1 l2 m2 f2 l3 m3 f3 l4 m4 f4 Mh hW0 M1
      generalize World.setCell _ _ _ = W3 at *
      obtain ⟨l9, q9, f9⟩ := F.out.1
      refine bodyPost_ret (v := RM.v { m with cut := m.cut - 1 }) (by simp [results, Try.results64, go_sem, q9]) rfl ⟨_, rfl, F.out.2.2, F.out.2.1, hDD.out⟩
end Go.Proofs.Ytpgibngohbohdaa
