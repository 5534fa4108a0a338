/-
  The document's own disk: put: a sector is as it is told.
-/
import Derived.Test.YtpgibngohbohdaaRefMem
import Derived.Test.YtpgibngohbohdaaDiskMore
namespace Go.Proofs.Ytpgibngohbohdaa
open Go.RowKit Go.Maps
set_option linter.unusedVariables false
set_option linter.unusedSimpArgs false

theorem flatR_set1 {α : Type} {T : RowT α} (hsz : T.sz = 1) (K : T.Ok) (c : α → Value) (hc : ∀ x, T.cells x = [c x]) (L : List α) (k : Nat) (x : α) : (flatR T L).set k (c x) = flatR T (L.set k x) := by
  have hf : ∀ M : List α, flatR T M = M.map c := fun M => by
    induction M with
    | nil => rfl
    | cons a M ih => simp only [flatR, List.flatMap_cons, List.map_cons, hc] at ih ⊢; rw [ih]; rfl
  rw [hf, hf, List.map_set]
/-- A store into an owned row whose elements are one cell each. -/
theorem row_set1 {α : Type} {T : RowT α} (hsz : T.sz = 1) (K : T.Ok) (c : α → Value) (hc : ∀ x, T.cells x = [c x]) {w : World} {base g cap : Nat} {L : List α} (h : RowOwn T w base (.slice (some ⟨g, 0, none⟩) L.length cap) L) (k : Nat) (x : α) :
    RowOwn T (w.setCell ⟨g, k, none⟩ (c x)) base (.slice (some ⟨g, 0, none⟩) (L.set k x).length cap) (L.set k x) := by
  unfold RowOwn at h ⊢
  rw [hsz] at h ⊢
  rw [List.length_set, ← flatR_set1 hsz K c hc]
  exact own_set h k (c x)
/-- A row of the call's own as a block that may be written. -/
theorem row_blk1 {α : Type} {T : RowT α} (hsz : T.sz = 1) {w : World} {base g cap : Nat} {L : List α} (h : RowOwn T w base (.slice (some ⟨g, 0, none⟩) L.length cap) L) (hn : L.length ≠ 0) : ∃ cur, Blk w g cur ∧ L.length ≤ cur.size := by
  unfold RowOwn at h
  rw [hsz] at h
  obtain ⟨g', cap', cur, e, _, h1, _, B, hs, _⟩ := own_blk h hn
  cases e
  exact ⟨cur, B, by omega⟩
theorem row_of {α : Type} {T : RowT α} (K : T.Ok) {w : World} {base : Nat} {p : Option Addr} {n cap : Nat} {L : List α} (h : RowOwn T w base (.slice p n cap) L) : RowOf T w p L := by
  obtain ⟨p', c', e, _, _, R⟩ := RowOwn.open K h
  simp only [Value.slice.injEq] at e
  rw [e.1]; exact R

theorem own_g {g n c j : Nat} (e : (Value.slice (some ⟨g, 0, none⟩) n c).ownBlock = some j) : j = g := by cases e; rfl
/-- The disk with this sector. -/
abbrev RM.put (m : RM) (p0 : Option Addr) (c0 : Nat) (p2 : Option Addr) (c2 : Nat) (k : Nat) (y : OcS) (odd : Bool) : RM := { m with p0 := p0, c0 := c0, L := m.L.set k y, p2 := p2, c2 := c2, O := m.O.set k odd }
set_option maxRecDepth 100000 in
set_option maxHeartbeats 1000000 in
theorem rput_any (m : RM) (J : Nat → Prop) (w : World) (R : RefM w m J) (k : Nat) (hk : k < m.L.length) (x : OcS) (hx : x.there w) (hxl : x.l.length = 256) (odd : Bool) :
    Calls Try.prog 67 #[m.v, .int .i64 (k : Int), .slice x.a x.l.length x.cap, .bool odd] w fun e w' => ∃ p0 c0 p2 c2 y, y.l = x.l ∧ e = .returned (m.put p0 c0 p2 c2 k y odd).v ∧ RefM w' (m.put p0 c0 p2 c2 k y odd) (JN J w w') ∧ Below w.heap.size w w' := by
  have hlO := R.lO
  have hlL := R.lL
  have hOn : 0 < m.L.length := by omega
  -- the blocks of the call's own
  obtain ⟨W0, hW0⟩ : ∃ W0, (w.alloc (.cells m.cells.toArray 31)).alloc (.cells (rdv none 0 0 none 0 0 none 0 0 false 0 none 0 0 0).toArray 31) = W0 := ⟨_, rfl⟩
  have hb0 : Below w.heap.size w W0 := by rw [← hW0]; exact (rbelow_one _ _).trans ((rbelow_one _ _).mono (by simp))
  have hs0 : W0.heap.size = w.heap.size + 2 := by rw [← hW0]; simp
  have B1 : Blk W0 w.heap.size m.cells.toArray := by rw [← hW0]; exact (Blk.new w _ _).more (rbelow_one _ _)
  have B2 : Blk W0 (w.heap.size + 1) (rdv none 0 0 none 0 0 none 0 0 false 0 none 0 0 0).toArray := by
    rw [← hW0]
    have := Blk.new (w.alloc (.cells m.cells.toArray 31)) (rdv none 0 0 none 0 0 none 0 0 false 0 none 0 0 0).toArray 31
    simpa using this
  -- sure, anew
  obtain ⟨g0, c0, W2, hr1, O2, b2, hg0, hg0'⟩ := copy_row ocOk W0 _ rfl m.p0 m.c0 m.L (RowOf.more R.L hb0) (by show m.L.length * 24 ≤ _; omega) (by unfold maxLen; omega)
  have A2 := B1.more b2
  have B1' := (B1.more b2).set 0 (.slice (some ⟨g0, 0, none⟩) m.L.length c0) (by simp)
  have B2' := (B2.more b2).other ⟨w.heap.size, 0, none⟩ (by simp) (.slice (some ⟨g0, 0, none⟩) m.L.length c0)
  have b02 : Below w.heap.size w (W2.setCell ⟨w.heap.size, 0, none⟩ (.slice (some ⟨g0, 0, none⟩) m.L.length c0)) := Below.setCell (p := ⟨w.heap.size, 0, none⟩) (hb0.trans (b2.mono hb0.size)) (Nat.le_refl _) _
  have S2 : Sole (fun k => k = w.heap.size) W2 (W2.setCell ⟨w.heap.size, 0, none⟩ (.slice (some ⟨g0, 0, none⟩) m.L.length c0)) := Sole.setCell W2 _ rfl
  have O2' := O2.sole S2 (fun k e e' => by have := own_g e; omega)
  have s2 : (W2.setCell ⟨w.heap.size, 0, none⟩ (.slice (some ⟨g0, 0, none⟩) m.L.length c0)).heap.size = W2.heap.size := by simp [World.setCell]
  -- odd, anew
  obtain ⟨g2, c2, W5, hr2, O5, b5, hg2, hg2'⟩ := copy_row blOk (W2.setCell ⟨w.heap.size, 0, none⟩ (.slice (some ⟨g0, 0, none⟩) m.L.length c0)) W2.heap.size s2 m.p2 m.c2 m.O (RowOf.more R.O b02) (by show m.O.length * 1 ≤ _; omega) (by unfold maxLen; omega)
  have hg02 : g0 ≠ g2 := by omega
  have O2'' := RowOwn.more O2' b5
  have A5 := B1'.more b5
  have B1'' := (B1'.more b5).set 2 (.slice (some ⟨g2, 0, none⟩) m.O.length c2) (by simp)
  have B2'' := (B2'.more b5).other ⟨w.heap.size, 2, none⟩ (by simp) (.slice (some ⟨g2, 0, none⟩) m.O.length c2)
  have hz2 := b02.size
  have S5 : Sole (fun k => k = w.heap.size) W5 (W5.setCell ⟨w.heap.size, 2, none⟩ (.slice (some ⟨g2, 0, none⟩) m.O.length c2)) := Sole.setCell W5 _ rfl
  have b05 : Below w.heap.size w (W5.setCell ⟨w.heap.size, 2, none⟩ (.slice (some ⟨g2, 0, none⟩) m.O.length c2)) := Below.setCell (p := ⟨w.heap.size, 2, none⟩) (b02.trans (b5.mono hz2)) (Nat.le_refl _) _
  have O5' := O5.sole S5 (fun k e e' => by have := own_g e; omega)
  have O2x := O2''.sole S5 (fun k e e' => by have := own_g e; omega)
  have hs5 : W2.heap.size ≤ W5.heap.size := by have := b5.size; omega
  have s5 : (W5.setCell ⟨w.heap.size, 2, none⟩ (.slice (some ⟨g2, 0, none⟩) m.O.length c2)).drew.heap.size = W5.heap.size := by simp [World.setCell, World.drew]
  -- the octets, anew
  obtain ⟨g8, c8, W8, hr3, T8, O8, b8, hg8, hg8'⟩ := copy_octs (W5.setCell ⟨w.heap.size, 2, none⟩ (.slice (some ⟨g2, 0, none⟩) m.O.length c2)).drew W5.heap.size s5 x.a x.cap x.l (hx.more b05).1 (by omega)
  have b58 : Below (W5.setCell ⟨w.heap.size, 2, none⟩ (.slice (some ⟨g2, 0, none⟩) m.O.length c2)).heap.size (W5.setCell ⟨w.heap.size, 2, none⟩ (.slice (some ⟨g2, 0, none⟩) m.O.length c2)) W8 := (Below.refl _ _).drew.trans b8
  have b08 : Below w.heap.size w W8 := b05.trans (b58.mono b05.size)
  have B18 := B1''.more b58
  have B28 := B2''.more b58
  have X0 := RowOwn.more O2x b58
  have X2 := RowOwn.more O5' b58
  obtain ⟨cur0, C0, hc0⟩ := row_blk1 rfl X0 (by omega)
  obtain ⟨cur2, C2, hc2⟩ := row_blk1 rfl X2 (by omega)
  have hge0 := hid (show w.heap.size + 2 ≤ g0 ∧ w.heap.size + 2 ≤ g2 ∧ g0 ≠ g2 ∧ w.heap.size + 2 ≤ g8 ∧ g8 ≠ g0 ∧ g8 ≠ g2 from ⟨by omega, by omega, hg02, by omega, by omega, by omega⟩)
  -- stores
  have C2s := hid (C2.other ⟨g0, k, none⟩ (fun e => hge0.out.2.2.1 e) (.slice (some ⟨g8, 0, none⟩) x.l.length c8))
  have S9 : Sole (fun j => j = g0 ∨ j = g2) W8 ((W8.setCell ⟨g0, k, none⟩ (.slice (some ⟨g8, 0, none⟩) x.l.length c8)).setCell ⟨g2, k, none⟩ (.bool odd)) := (Sole.setCell (S := fun j => j = g0 ∨ j = g2) W8 (b := g0) (o := k) _ (.inl rfl)).trans (Sole.setCell _ (b := g2) (o := k) _ (.inr rfl))
  have Y0 := (row_set1 rfl ocOk (fun y => .slice y.a y.l.length y.cap) (fun _ => rfl) X0 k (⟨some ⟨g8, 0, none⟩, c8, x.l⟩ : OcS)).sole (Sole.setCell (S := fun j => j = g2) _ (b := g2) (o := k) (.bool odd) rfl) (fun j e e' => by have := own_g e; exact hge0.out.2.2.1 (this.symm.trans e'))
  have X2' := X2.sole (Sole.setCell (S := fun j => j = g0) W8 (b := g0) (o := k) (.slice (some ⟨g8, 0, none⟩) x.l.length c8) rfl) (fun j e e' => by have := own_g e; exact hge0.out.2.2.1 (e'.symm.trans this))
  have Y2 := row_set1 rfl blOk (fun y => .bool y) (fun _ => rfl) X2' k odd
  have BM := B18.other ⟨g0, k, none⟩ (by have := hge0.out; show g0 ≠ _; omega) (.slice (some ⟨g8, 0, none⟩) x.l.length c8)
  have BE1 := hid ((B18.other ⟨g0, k, none⟩ (by have := hge0.out; show g0 ≠ _; omega) (.slice (some ⟨g8, 0, none⟩) x.l.length c8)).other ⟨g2, k, none⟩ (by have := hge0.out; show g2 ≠ _; omega) (.bool odd))
  have BE2 := hid ((B28.other ⟨g0, k, none⟩ (by have := hge0.out; show g0 ≠ _; omega) (.slice (some ⟨g8, 0, none⟩) x.l.length c8)).other ⟨g2, k, none⟩ (by have := hge0.out; show g2 ≠ _; omega) (.bool odd))
  have b09 := b08.trans (S9.below (B := w.heap.size) b08.size fun j e => by have := hge0.out; omega)
  have hm : ∀ W', Below w.heap.size w W' → RefM W' m J := fun W' hb => R.more hb
  have sz9 : ((W8.setCell ⟨g0, k, none⟩ (.slice (some ⟨g8, 0, none⟩) x.l.length c8)).setCell ⟨g2, k, none⟩ (.bool odd)).heap.size = W8.heap.size := by simp [World.setCell]
  have hJlt := hid R.jlt
  have FIN := hid (show RefM ((W8.setCell ⟨g0, k, none⟩ (.slice (some ⟨g8, 0, none⟩) x.l.length c8)).setCell ⟨g2, k, none⟩ (.bool odd)) (m.put (some ⟨g0, 0, none⟩) c0 (some ⟨g2, 0, none⟩) c2 k ⟨some ⟨g8, 0, none⟩, c8, x.l⟩ odd) (fun j => J j ∨ (w.heap.size + 1 + 1 ≤ j ∧ j < ((W8.setCell ⟨g0, k, none⟩ (.slice (some ⟨g8, 0, none⟩) x.l.length c8)).setCell ⟨g2, k, none⟩ (.bool odd)).heap.size)) from by
    have M9 := R.more b09
    have hw8 : ∀ j, w.heap.size + 2 ≤ j → j < W8.heap.size → J j ∨ (w.heap.size + 1 + 1 ≤ j ∧ j < ((W8.setCell ⟨g0, k, none⟩ (.slice (some ⟨g8, 0, none⟩) x.l.length c8)).setCell ⟨g2, k, none⟩ (.bool odd)).heap.size) := fun j h1 h2 => .inr ⟨by omega, by rw [sz9]; exact h2⟩
    exact
    { L := row_of ocOk Y0
      Q := M9.Q
      O := row_of blOk Y2
      F := M9.F
      LO := fun y hy => by
        rcases List.mem_or_eq_of_mem_set hy with h | rfl
        · obtain ⟨h1, h2, h3⟩ := M9.LO y h
          exact ⟨h1, h2, fun b o e => .inl (h3 b o e)⟩
        · exact ⟨oc_sole T8 S9 fun b o e => by cases e; have := hge0.out; omega, hxl, fun b o e => by cases e; exact hw8 g8 (by have := hge0.out; omega) hg8'⟩
      QO := fun y hy => by
        obtain ⟨⟨h1, h2, h3⟩, h4⟩ := M9.QO y hy
        exact ⟨⟨h1, h2, fun b o e => .inl (h3 b o e)⟩, by simpa using h4⟩
      lO := by simp [hlO]
      lL := by simpa using hlL
      lQ := R.lQ
      lF := R.lF
      j0 := fun b o e => by cases e; exact hw8 g0 (by have := hge0.out; omega) C0.lt
      j1 := fun b o e => .inl (R.j1 b o e)
      j2 := fun b o e => by cases e; exact hw8 g2 (by have := hge0.out; omega) C2.lt
      j5 := fun b o e => .inl (R.j5 b o e)
      jlt := fun j hj => by
        rcases hj with h | h
        · have := R.jlt j h; have := b09.size; omega
        · exact h.2 })
  have D9 := hid b09
  have hcells : m.cells = rdv m.p0 m.L.length m.c0 m.p1 m.Q.length m.c1 m.p2 m.O.length m.c2 m.off m.cut m.p5 m.F.length m.c5 m.fail := rfl
  replace hr1 := hid hr1
  replace hr2 := hid hr2
  replace hr3 := hid hr3
  clear R hm Y0 Y2 X2' X0 X2 S9 b09 sz9 T8 O8 b8 b58 b08 S5 b05 O5 O5' O2x O2'' S2 b02 O2' O2 b2 b5 hb0 hx hxl s2 s5 hz2 hs5 hg0 hg0' hg2 hg2' hg8 hg8' hlL hs0
  simp only [RM.cells, rdv, List.setIfInBounds_toArray, List.set_cons_zero, List.set_cons_succ] at B1 B1' B1'' B18 A2 A5 BM
  obtain ⟨lm, mm, fm⟩ := BM
  obtain ⟨l1, m1, f1⟩ := B1
  obtain ⟨l2, m2, f2⟩ := B1'
  obtain ⟨l5, m5, f5⟩ := B1''
  obtain ⟨l8, m8, f8⟩ := B18
  obtain ⟨l2', m2', f2'⟩ := A2
  obtain ⟨l5', m5', f5'⟩ := A5
  obtain ⟨la, ma, fa⟩ := C0
  obtain ⟨lb, mb, fb⟩ := C2s.out
  have hk2 : k < m.O.length := by omega
  have hlOh := hid hlO
  clear hlO hOn hcells
  change Calls _ _ #[.agg (rdv m.p0 m.L.length m.c0 m.p1 m.Q.length m.c1 m.p2 m.O.length m.c2 m.off m.cut m.p5 m.F.length m.c5 m.fail).toArray, _, _, _] _ _
  go_enter Try.func67, Try.ntmps67
  go_wp2_with (at_builtin; first
    | refine Lib.wpList_append_run _ rfl _ _ _ _ rfl _ _ rfl rfl _ _ (hr1.out _) ?_
    | refine Lib.wpList_append_run _ rfl _ _ _ _ rfl _ _ rfl rfl _ _ (hr2.out _) ?_)
  obtain ⟨u0, hu0⟩ : ∃ u, cur0[k]? = some u := ⟨_, Array.getElem?_eq_getElem (by omega)⟩
  obtain ⟨u2, hu2⟩ : ∃ u, cur2[k]? = some u := ⟨_, Array.getElem?_eq_getElem (by omega)⟩
  have hr3' := hr3.out
  rw [show (W5.setCell ⟨w.heap.size, 2, none⟩ (.slice (some ⟨g2, 0, none⟩) m.O.length c2)).drew.alloc (.cells #[] 5) = ((W5.setCell ⟨w.heap.size, 2, none⟩ (.slice (some ⟨g2, 0, none⟩) m.O.length c2)).alloc (.cells #[] 5)).drew from rfl] at hr3'
  clear hr3
  go_region_law (first
    | (refine step_append_run (by rfl) _ _ _ (by rfl) _ _ (by rfl) (by rfl) _ _ hr3' ?_))
  all_goals
    have B1e := BE1.out
    have B2e := BE2.out
    simp only [RM.cells, rdv, List.setIfInBounds_toArray, List.set_cons_zero, List.set_cons_succ] at B1e
    clear hr3' l1 m1 f1 l2 m2 f2 l5 m5 f5 l8 m8 f8 lm mm fm l2' m2' f2' l5' m5' f5' la ma fa lb mb fb hr1 hr2 hW0 hu0 hu2 B2 B2' B2'' B28 C2 C2s hc0 hc2 hge0 BE1
    generalize (W8.setCell ⟨g0, k, none⟩ (.slice (some ⟨g8, 0, none⟩) x.l.length c8)).setCell ⟨g2, k, none⟩ (.bool odd) = W9 at *
    obtain ⟨l1, m1, f1⟩ := B1e
    obtain ⟨l2, m2, f2⟩ := B2e
    go_wp2
    have hcell : (m.put (some ⟨g0, 0, none⟩) c0 (some ⟨g2, 0, none⟩) c2 k ⟨some ⟨g8, 0, none⟩, c8, x.l⟩ odd).cells = rdv (some ⟨g0, 0, none⟩) m.L.length c0 m.p1 m.Q.length m.c1 (some ⟨g2, 0, none⟩) m.O.length c2 m.off m.cut m.p5 m.F.length m.c5 m.fail := by simp [RM.cells]
    have B3 := Blk.fill (rdv (some ⟨g0, 0, none⟩) m.L.length c0 m.p1 m.Q.length m.c1 (some ⟨g2, 0, none⟩) m.O.length c2 m.off m.cut m.p5 m.F.length m.c5 m.fail) 0 BE2.out (by simp)
    have D3 := hid (below_fill (b := w.heap.size + 1) (Nat.le_succ _) (rdv (some ⟨g0, 0, none⟩) m.L.length c0 m.p1 m.Q.length m.c1 (some ⟨g2, 0, none⟩) m.O.length c2 m.off m.cut m.p5 m.F.length m.c5 m.fail) 0 D9.out)
    have F3 := hid (RefM.fill FIN.out hJlt.out (Nat.le_succ _) (rdv (some ⟨g0, 0, none⟩) m.L.length c0 m.p1 m.Q.length m.c1 (some ⟨g2, 0, none⟩) m.O.length c2 m.off m.cut m.p5 m.F.length m.c5 m.fail))
    simp only [setAll, Nat.zero_add, Nat.reduceAdd] at B3 D3 F3
    clear l1 m1 f1 l2 m2 f2 BE2 D9 FIN
    generalize World.setCell _ _ _ = W3 at *
    obtain ⟨l9, q9, f9⟩ := B3
    refine bodyPost_ret (v := .agg (rdv (some ⟨g0, 0, none⟩) m.L.length c0 m.p1 m.Q.length m.c1 (some ⟨g2, 0, none⟩) m.O.length c2 m.off m.cut m.p5 m.F.length m.c5 m.fail).toArray) (by simp [results, Try.results67, go_sem, q9, fillC]) rfl ⟨_, c0, _, c2, ⟨some ⟨g8, 0, none⟩, c8, x.l⟩, rfl, by unfold RM.v; rw [hcell], F3.out, D3.out⟩
end Go.Proofs.Ytpgibngohbohdaa
