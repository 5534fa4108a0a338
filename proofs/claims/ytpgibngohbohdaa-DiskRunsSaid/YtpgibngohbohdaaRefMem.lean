/-
  The document's own disk as data, and where it lies; copies of rows.
-/
import Derived.Test.YtpgibngohbohdaaRefDisk
namespace Go.Proofs.Ytpgibngohbohdaa
open Go.RowKit Go.Maps
set_option linter.unusedVariables false
set_option linter.unusedSimpArgs false

theorem r_rowp_sole {S : Nat → Prop} {w w' : World} {p : Option Addr} {sz n : Nat} {f : Nat → List Value} (h : RowP w p sz n f) (hs : Sole S w w') (hn : ∀ b o, p = some ⟨b, o, none⟩ → ¬ S b) : RowP w' p sz n f := by
  rcases h with h | ⟨b, o, e, R⟩
  · exact .inl h
  · exact .inr ⟨b, o, e, Nat.lt_of_lt_of_le R.lt hs.size, fun i hi j v hv => (hs.cell R.lt (hn b o e)).trans (R.cell i hi j v hv)⟩
/-- The document's disk. -/
structure RM where
  p0 : Option Addr
  c0 : Nat
  L : List OcS
  p1 : Option Addr
  c1 : Nat
  Q : List WtS
  p2 : Option Addr
  c2 : Nat
  O : List Bool
  off : Bool
  cut : Int
  p5 : Option Addr
  c5 : Nat
  F : List Int
  fail : Int
abbrev RM.cells (m : RM) : List Value := rdv m.p0 m.L.length m.c0 m.p1 m.Q.length m.c1 m.p2 m.O.length m.c2 m.off m.cut m.p5 m.F.length m.c5 m.fail
abbrev RM.v (m : RM) : Value := .agg m.cells.toArray
/-- Its parts lie in blocks of J. -/
structure RefM (w : World) (m : RM) (J : Nat → Prop) : Prop where
  L : RowOf ocT w m.p0 m.L
  Q : RowOf rwT w m.p1 m.Q
  O : RowOf blT w m.p2 m.O
  F : RowOf fatT w m.p5 m.F
  LO : ∀ x ∈ m.L, x.there w ∧ x.l.length = 256 ∧ ∀ b o, x.a = some ⟨b, o, none⟩ → J b
  QO : ∀ y ∈ m.Q, (y.x.there w ∧ y.x.l.length = 256 ∧ ∀ b o, y.x.a = some ⟨b, o, none⟩ → J b) ∧ 0 ≤ y.at_ ∧ y.at_ < (m.L.length : Int)
  lO : m.O.length = m.L.length
  lL : m.L.length ≤ 4096
  lQ : m.Q.length ≤ 4096
  lF : m.F.length ≤ 17592186044416
  j0 : ∀ b o, m.p0 = some ⟨b, o, none⟩ → J b
  j1 : ∀ b o, m.p1 = some ⟨b, o, none⟩ → J b
  j2 : ∀ b o, m.p2 = some ⟨b, o, none⟩ → J b
  j5 : ∀ b o, m.p5 = some ⟨b, o, none⟩ → J b
  jlt : ∀ k, J k → k < w.heap.size
theorem RefM.sole {S : Nat → Prop} {w w' : World} {m : RM} {J : Nat → Prop} (h : RefM w m J) (hs : Sole S w w') (hn : ∀ k, J k → ¬ S k) : RefM w' m J :=
  ⟨r_rowp_sole h.L hs fun b o e => hn _ (h.j0 b o e), r_rowp_sole h.Q hs fun b o e => hn _ (h.j1 b o e), r_rowp_sole h.O hs fun b o e => hn _ (h.j2 b o e), r_rowp_sole h.F hs fun b o e => hn _ (h.j5 b o e),
    fun x hx => ⟨oc_sole (h.LO x hx).1 hs fun b o e => hn _ ((h.LO x hx).2.2 b o e), (h.LO x hx).2⟩,
    fun y hy => ⟨⟨oc_sole (h.QO y hy).1.1 hs fun b o e => hn _ ((h.QO y hy).1.2.2 b o e), (h.QO y hy).1.2⟩, (h.QO y hy).2⟩,
    h.lO, h.lL, h.lQ, h.lF, h.j0, h.j1, h.j2, h.j5, fun k hk => Nat.lt_of_lt_of_le (h.jlt k hk) hs.size⟩
theorem RefM.more {w w' : World} {m : RM} {J : Nat → Prop} (h : RefM w m J) (hb : Below w.heap.size w w') : RefM w' m J := h.sole (Sole.made (S := fun _ => False) hb) fun _ _ x => x
theorem RefM.wide {w : World} {m : RM} {J J' : Nat → Prop} (h : RefM w m J) (hj : ∀ k, J k → J' k) (hlt : ∀ k, J' k → k < w.heap.size) : RefM w m J' :=
  ⟨h.L, h.Q, h.O, h.F, fun x hx => ⟨(h.LO x hx).1, (h.LO x hx).2.1, fun b o e => hj _ ((h.LO x hx).2.2 b o e)⟩, fun y hy => ⟨⟨(h.QO y hy).1.1, (h.QO y hy).1.2.1, fun b o e => hj _ ((h.QO y hy).1.2.2 b o e)⟩, (h.QO y hy).2⟩,
    h.lO, h.lL, h.lQ, h.lF, fun b o e => hj _ (h.j0 b o e), fun b o e => hj _ (h.j1 b o e), fun b o e => hj _ (h.j2 b o e), fun b o e => hj _ (h.j5 b o e), hlt⟩
/-- Its own numbers become others. -/
theorem RefM.scal {w : World} {m : RM} {J : Nat → Prop} (h : RefM w m J) (off : Bool) (cut fail : Int) : RefM w { m with off := off, cut := cut, fail := fail } J :=
  ⟨h.L, h.Q, h.O, h.F, h.LO, h.QO, h.lO, h.lL, h.lQ, h.lF, h.j0, h.j1, h.j2, h.j5, h.jlt⟩
/-- Nothing waits any more. -/
theorem RefM.clean {w : World} {m : RM} {J : Nat → Prop} (h : RefM w m J) : RefM w { m with p1 := none, c1 := 0, Q := [] } J :=
  ⟨h.L, .inl rfl, h.O, h.F, h.LO, (fun _ hy => by cases hy), h.lO, h.lL, Nat.zero_le _, h.lF, h.j0, (fun _ _ e => by cases e), h.j2, h.j5, h.jlt⟩

/-- Blocks of J, and those made since. -/
def JN (J : Nat → Prop) (w w' : World) : Nat → Prop := fun k => J k ∨ (w.heap.size ≤ k ∧ k < w'.heap.size)
theorem jn_trans {J : Nat → Prop} {a b c : World} (h1 : a.heap.size ≤ b.heap.size) (h2 : b.heap.size ≤ c.heap.size) : ∀ k, JN (JN J a b) b c k → JN J a c k := by
  intro k hk
  rcases hk with (h | h) | h
  · exact .inl h
  · exact .inr ⟨h.1, by omega⟩
  · exact .inr ⟨by omega, h.2⟩
theorem jn_lt {J : Nat → Prop} {a b : World} (h1 : a.heap.size ≤ b.heap.size) (hJ : ∀ k, J k → k < a.heap.size) : ∀ k, JN J a b k → k < b.heap.size := by
  intro k hk
  rcases hk with h | h
  · have := hJ k h; omega
  · exact h.2

theorem sole_setAll {S : Nat → Prop} {b : Nat} (hb : S b) : ∀ (vs : List Value) (o : Nat) (w : World), Sole S w (setAll w b o vs)
  | [], _, w => Sole.refl S w
  | v :: vs, o, w => (Sole.setCell (S := S) w (b := b) (o := o) v hb).trans (sole_setAll hb vs (o + 1) _)
/-- The result is stored into the call's own block: the disk is as it was. -/
theorem RefM.fill {w W : World} {m : RM} {J : Nat → Prop} {b : Nat} (h : RefM W m (fun k => J k ∨ (b + 1 ≤ k ∧ k < W.heap.size))) (hJ : ∀ k, J k → k < w.heap.size) (hb : w.heap.size ≤ b) (vs : List Value) : RefM (setAll W b 0 vs) m (JN J w (setAll W b 0 vs)) := by
  have hs := size_setAll (b := b) vs 0 W
  refine (h.sole (sole_setAll (S := fun k => k = b) rfl vs 0 W) fun k hk e => ?_).wide (fun k hk => ?_) (fun k hk => ?_)
  · rcases hk with h1 | h1
    · have := hJ k h1; omega
    · omega
  · rcases hk with h1 | h1
    · exact .inl h1
    · exact .inr ⟨by omega, by rw [hs]; exact h1.2⟩
  · rcases hk with h1 | h1
    · rw [hs]; exact h.jlt k (.inl h1)
    · exact h1.2
/-- append([]T{}, L...): a row of the call's own. -/
theorem copy_row {α : Type} {T : RowT α} (K : T.Ok) (W : World) (s : Nat) (hs : W.heap.size = s) (q : Option Addr) (c : Nat) (L : List α) (R : RowOf T W q L) (h1 : L.length * T.bytes ≤ 140737488355328) (h2 : L.length ≤ maxLen) :
    ∃ g c' w', (∀ ty, (Builtin.append_ #[T.sl, T.sl] ty #[.slice (some ⟨s, 0, none⟩) 0 0, .slice q L.length c]).run Try.prog (W.alloc (.cells #[] T.ty)) = .ok (.slice (some ⟨g, 0, none⟩) L.length c') w') ∧
      RowOwn T w' W.heap.size (.slice (some ⟨g, 0, none⟩) L.length c') L ∧ Below W.heap.size W w' ∧ W.heap.size ≤ g ∧ g < w'.heap.size := by
  subst hs
  have OM : RowOwn T (W.alloc (.cells #[] T.ty)) W.heap.size (.slice (some ⟨W.heap.size, 0, none⟩) 0 0) [] := World.ownsRow_made (size := T.sz) W #[] 0 (Nat.le_refl _) (Nat.zero_le _) (by simp)
  have hb0 : Below W.heap.size W (W.alloc (.cells #[] T.ty)) := Below.alloc (Below.refl _ _) (Nat.le_refl _) _
  obtain ⟨v', w', hr, O', gr, mv⟩ := append_row K W.heap.size T.sl (W.alloc (.cells #[] T.ty)) _ [] OM q c L (RowOf.more R hb0) (by simpa using h1) (by simpa using h2) (by simp)
  rw [List.nil_append] at O'
  have hg : ∃ g, v'.ownBlock = some g := by
    rcases mv with e | e
    · exact ⟨_, e⟩
    · exact ⟨_, e⟩
  obtain ⟨g, hg⟩ := hg
  rcases O'.form with ⟨rfl, _⟩ | ⟨g', cap, rfl, hb1, hb2, _, _⟩
  · cases hg
  · exact ⟨g', cap, w', fun ty => hr, O', Below.grown hb0 gr (by simp) fun k hk => (OM.within k hk).1, hb1, hb2⟩
theorem copy_octs (W : World) (s : Nat) (hs : W.heap.size = s) (a : Option Addr) (c : Nat) (l : List UInt8) (hl : Octs W a l) (h1 : l.length ≤ 140737488355328) :
    ∃ g c' w', (∀ ty, (Builtin.append_ #[35, 35] ty #[.slice (some ⟨s, 0, none⟩) 0 0, .slice a l.length c]).run Try.prog (W.alloc (.cells #[] 5)) = .ok (.slice (some ⟨g, 0, none⟩) l.length c') w') ∧
      (⟨some ⟨g, 0, none⟩, c', l⟩ : OcS).there w' ∧ w'.ownsRow W.heap.size 5 1 (.slice (some ⟨g, 0, none⟩) l.length c') l.length (Lib.byteCells l) ∧ Below W.heap.size W w' ∧ W.heap.size ≤ g ∧ g < w'.heap.size := by
  subst hs
  have OM := World.ownsRow_made (size := 1) (e := 5) (base := W.heap.size) W #[] 0 (Nat.le_refl _) (Nat.zero_le _) rfl
  have hb0 : Below W.heap.size W (W.alloc (.cells #[] 5)) := Below.alloc (Below.refl _ _) (Nat.le_refl _) _
  obtain ⟨v', w', hr, O', gr, mv⟩ := append_octs W.heap.size 35 (W.alloc (.cells #[] 5)) _ 0 [] OM a c l (hl.more hb0) (by omega) (by simp)
  rw [Nat.zero_add, List.nil_append] at O'
  have hg : ∃ g, v'.ownBlock = some g := by
    rcases mv with e | ⟨g, e, _⟩
    · exact ⟨_, e⟩
    · exact ⟨_, e⟩
  obtain ⟨g, hg⟩ := hg
  have hlt := O'.lt g hg
  rcases O'.2 with ⟨rfl, _⟩ | ⟨g', cap, cur, rfl, hb1, hg1, hc1, hc2, _, _⟩
  · cases hg
  · cases hg
    exact ⟨g', cap, w', fun ty => hr, ⟨Octs.of_own O', hc1, hc2⟩, O', Below.grown hb0 gr (by simp) fun k hk => (OM.lt k hk).1, hlt.1, hlt.2⟩
end Go.Proofs.Ytpgibngohbohdaa
