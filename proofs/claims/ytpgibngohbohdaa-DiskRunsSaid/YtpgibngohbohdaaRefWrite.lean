/-
  The document's own disk: Write: it waits.
-/
import Derived.Test.YtpgibngohbohdaaRefDone
namespace Go.Proofs.Ytpgibngohbohdaa
open Go.RowKit Go.Maps
set_option linter.unusedVariables false
set_option linter.unusedSimpArgs false

/-- One more waits. -/
abbrev RM.wait (m : RM) (p1 : Option Addr) (c1 : Nat) (y : WtS) : RM := { m with p1 := p1, c1 := c1, Q := m.Q ++ [y] }
theorem Mid'.waits {w W W6 : World} {J : Nat → Prop} {mm : RM} (h : Mid' w J W mm) (hJ : ∀ k, J k → k < w.heap.size) (hb : Below W.heap.size W W6) {g c : Nat} {y : WtS} (O : RowOwn rwT W6 W.heap.size (.slice (some ⟨g, 0, none⟩) (mm.Q.length + 1) c) (mm.Q ++ [y]))
    (hy : y.x.there W6) (hyl : y.x.l.length = 256) (hyg : ∃ g2, y.x.a = some ⟨g2, 0, none⟩ ∧ W.heap.size ≤ g2 ∧ g2 < W6.heap.size) (h0 : 0 ≤ y.at_) (h1 : y.at_ < (mm.L.length : Int)) (hn : mm.Q.length + 1 ≤ 4096) :
    Mid' w J (W6.setCell ⟨w.heap.size, 1, none⟩ (.slice (some ⟨g, 0, none⟩) (mm.Q.length + 1) c)) (mm.wait (some ⟨g, 0, none⟩) c y) := by
  have M6 := h.more hb
  have hsz : (W6.setCell ⟨w.heap.size, 1, none⟩ (.slice (some ⟨g, 0, none⟩) (mm.Q.length + 1) c)).heap.size = W6.heap.size := by simp [World.setCell]
  have hS : Sole (fun j => j = w.heap.size) W6 (W6.setCell ⟨w.heap.size, 1, none⟩ (.slice (some ⟨g, 0, none⟩) (mm.Q.length + 1) c)) := Sole.setCell W6 _ rfl
  have hzl := h.Z.lt
  have R9 := M6.R.sole hS (fun j hj e => by rcases hj with x | x; (have := hJ j x; omega); omega)
  have hgl := O.lt g rfl
  obtain ⟨g2, hg2, hg2a, hg2b⟩ := hyg
  have O9 : RowOwn rwT (W6.setCell ⟨w.heap.size, 1, none⟩ (.slice (some ⟨g, 0, none⟩) (mm.Q.length + 1) c)) W.heap.size (.slice (some ⟨g, 0, none⟩) (mm.Q.length + 1) c) (mm.Q ++ [y]) := RowOwn.sole O hS (fun k e e' => by have := own_g e; omega)
  refine ⟨?_, ?_, M6.Z.other ⟨w.heap.size, 1, none⟩ (by simp) _, Below.setCell (p := ⟨w.heap.size, 1, none⟩) M6.D (Nat.le_refl _) _⟩
  · rw [hsz]
    exact
    { L := R9.L
      Q := row_of rwOk O9
      O := R9.O
      F := R9.F
      LO := R9.LO
      QO := fun z hz => by
        rcases List.mem_append.1 hz with e | e
        · exact R9.QO z e
        · rw [List.mem_singleton.1 e]
          exact ⟨⟨oc_sole hy hS fun b o e e' => by rw [hg2] at e; cases e; omega, hyl, fun b o e => by rw [hg2] at e; cases e; exact .inr ⟨by omega, hg2b⟩⟩, h0, h1⟩
      lO := R9.lO
      lL := R9.lL
      lQ := by simpa using hn
      lF := R9.lF
      j0 := R9.j0
      j1 := fun b o e => by cases e; exact .inr ⟨by omega, hgl.2⟩
      j2 := R9.j2
      j5 := R9.j5
      jlt := fun k hk => by rw [hsz]; exact M6.R.jlt k hk }
  · have := M6.B.set 1 (.slice (some ⟨g, 0, none⟩) (mm.Q.length + 1) c) (by simp)
    simpa [RM.cells, rdv] using this
set_option maxRecDepth 100000 in
set_option maxHeartbeats 1000000 in
theorem rwrite_any (m : RM) (J : Nat → Prop) (w : World) (R : RefM w m J) (hFw : ∀ f ∈ m.F, f ≤ 9223372036854775807) (hc0 : 0 ≤ m.cut) (hc1 : m.cut ≤ 9223372036854775807) (i : Nat) (hi : i < m.L.length) (x : OcS) (hx : x.there w) (hxl : x.l.length = 256) (hq : m.Q.length + 1 ≤ 4096) :
    Calls Try.prog 36 #[m.v, .int .i64 (i : Int), .slice x.a x.l.length x.cap] w fun e w' => ∃ p1 c1 y m', y.l = x.l ∧ e = .returned m'.v ∧ RefM w' m' (JN J w w') ∧ Below w.heap.size w w' ∧ DoneD (m.wait p1 c1 ⟨(i : Int), y⟩) m' := by
  have hJ := hid R.jlt
  have M0 := Mid'.start w J m R
  have hsz0 : ((w.alloc (.cells m.cells.toArray 31)).alloc (.cells rz 31)).heap.size = w.heap.size + 2 := by simp
  have hx0 := hx.more M0.D
  generalize hW0 : (w.alloc (.cells m.cells.toArray 31)).alloc (.cells rz 31) = W0 at *
  obtain ⟨g1, d1, W2, hr1, O2, b2, hg1, hg1'⟩ := copy_row rwOk W0 _ rfl m.p1 m.c1 m.Q M0.R.Q (by show m.Q.length * 32 ≤ _; omega) (by unfold maxLen; omega)
  obtain ⟨g2, d2, W4, hr2, T4, O4, b4, hg2, hg2'⟩ := copy_octs W2 _ rfl x.a x.cap x.l (hx0.more b2).1 (by omega)
  have b5 : Below W4.heap.size W4 (W4.alloc (.cells #[.int .i64 (i : Int), .slice (some ⟨g2, 0, none⟩) x.l.length d2] 131)) := (Below.refl _ _).alloc (Nat.le_refl _) _
  have B5 := Blk.new W4 #[.int .i64 (i : Int), .slice (some ⟨g2, 0, none⟩) x.l.length d2] 131
  have O5 := RowOwn.more (RowOwn.more O2 b4) b5
  have b24 : Below W0.heap.size W0 W4 := b2.trans (b4.mono b2.size)
  have b25 : Below W0.heap.size W0 (W4.alloc (.cells #[.int .i64 (i : Int), .slice (some ⟨g2, 0, none⟩) x.l.length d2] 131)) := b24.trans (b5.mono b24.size)
  obtain ⟨v6, W6, hr3, O6, gr6, mv6⟩ := append_row rwOk W0.heap.size rwT.sl _ _ m.Q O5 (some ⟨W4.heap.size, 0, none⟩) 1 [(⟨(i : Int), ⟨some ⟨g2, 0, none⟩, d2, x.l⟩⟩ : WtS)] (rowOf_one rwOk B5 rfl) (by show (m.Q.length + 1) * 32 ≤ _; omega) (by show m.Q.length + 1 ≤ _; unfold maxLen; omega) b25.size
  have hv6 : ∃ g d, v6 = .slice (some ⟨g, 0, none⟩) (m.Q.length + 1) d := by
    rcases O6.form with ⟨_, e⟩ | ⟨g, cap, e, _⟩
    · simp at e
    · exact ⟨g, cap, by simpa using e⟩
  obtain ⟨g6, d6, rfl⟩ := hv6
  have b06 : Below W0.heap.size W0 W6 := Below.grown b25 gr6 b25.size fun k hk => (O5.within k hk).1
  have T6 : (⟨some ⟨g2, 0, none⟩, d2, x.l⟩ : OcS).there W6 := oc_sole (T4.more b5) (Sole.grown (S := fun k => (Value.slice (some ⟨g1, 0, none⟩) m.Q.length d1).ownBlock = some k) gr6 fun k e => e) (fun b o e e' => by cases e; have := own_g e'; omega)
  have M7 := M0.waits hJ.out b06 O6 T6 hxl ⟨g2, rfl, by have := b2.size; omega, by have := b5.size; have := gr6.size; omega⟩ (by show (0 : Int) ≤ (i : Int); omega) (by show (i : Int) < (m.L.length : Int); omega) hq
  have KD := hid (rdone_any (m.wait (some ⟨g6, 0, none⟩) d6 ⟨(i : Int), ⟨some ⟨g2, 0, none⟩, d2, x.l⟩⟩) _ _ M7.R hFw hc0 hc1)
  have BX := M0.B
  have BX6 := M0.B.more b06
  have M7h := hid M7
  replace hr1 := hid hr1
  replace hr2 := hid hr2
  replace hr3 := hid (fun (ty : TypeId) => show (Builtin.append_ #[rwT.sl, rwT.sl] ty #[.slice (some ⟨g1, 0, none⟩) m.Q.length d1, .slice (some ⟨W4.heap.size, 0, none⟩) 1 1]).run Try.prog _ = .ok _ W6 from hr3)
  have ZX := M7.Z
  simp only [RM.v, RM.cells, rdv, List.length_append, List.length_singleton] at KD
  clear M7 M0 T6 b06 O6 gr6 mv6 b25 b24 O5 B5 b5 T4 O4 b4 O2 b2 hx0 hx R hFw hsz0 hg1 hg1' hg2 hg2' hc0 hc1
  replace hxl := hid hxl
  replace hq := hid hq
  obtain ⟨l1, m1, f1⟩ := BX
  obtain ⟨l6, m6, f6⟩ := BX6
  obtain ⟨lz, mz, fz⟩ := ZX
  go_enter Try.func36, Try.ntmps36
  go_wp2_with (at_builtin; first
    | refine Lib.wpList_append_run _ rfl _ _ _ _ rfl _ _ rfl rfl _ _ (hr1.out _) ?_
    | refine Lib.wpList_append_run _ rfl _ _ _ _ rfl _ _ rfl rfl _ _ (hr2.out _) ?_
    | refine Lib.wpList_append_run _ rfl _ _ _ _ rfl _ _ rfl rfl _ _ (hr3.out _) ?_)
  refine KD.out.mono ?_
  rintro e w9 ⟨m', rfl, R9, hb9, hDD⟩
  have F := hid (M7h.out.pass hJ.out hb9 R9)
  have Z9 := M7h.out.Z.more hb9
  have hDDh := hid hDD
  clear hb9 R9 KD hr1 hr2 hr3 l1 m1 f1 l6 m6 f6 lz mz fz hW0 M7h hDD
  obtain ⟨lz, mz, fz⟩ := Z9
  go_wp2_with fail
  simp only [setAll, RM.cells, rdv, Nat.zero_add, Nat.reduceAdd] at F
  clear lz mz fz
  generalize World.setCell _ _ _ = W3 at *
  obtain ⟨l9, q9, f9⟩ := F.out.1
  refine bodyPost_ret (v := RM.v m') (by simp [results, Try.results36, go_sem, q9]) rfl ⟨_, d6, ⟨some ⟨g2, 0, none⟩, d2, x.l⟩, m', rfl, rfl, F.out.2.2, F.out.2.1, hDDh.out⟩
end Go.Proofs.Ytpgibngohbohdaa
