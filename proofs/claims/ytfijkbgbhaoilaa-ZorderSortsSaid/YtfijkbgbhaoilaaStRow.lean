/-
  Points in a row that is sorted in place: a store of one, two that change their places.
-/
import Derived.Test.YtfijkbgbhaoilaaPtT
import Derived.Test.YtfijkbgbhaoilaaStMath
namespace Go.Proofs.Ytfijkbgbhaoilaa
open Go.RowKit
set_option linter.unusedVariables false
set_option linter.unusedSimpArgs false

theorem flatP_set : ∀ (L : List Pt) (i : Nat) (x : Pt), i < L.length → flatR gpT (L.set i x) = ((((flatR gpT L).set (i * 4) (.int .i64 x.id)).set (i * 4 + 1) (.int .u32 x.x)).set (i * 4 + 2) (.int .u32 x.y)).set (i * 4 + 3) (.string x.d)
  | [], i, x, h => absurd h (Nat.not_lt_zero _)
  | q :: L, 0, x, h => by simp [flatR, gpT, pcells]
  | q :: L, i + 1, x, h => by
    have ih := flatP_set L i x (by simpa using h)
    simp only [flatR, List.flatMap_cons, List.set_cons_succ] at ih ⊢
    rw [ih]
    have hl : (gpT.cells q).length = 4 := rfl
    have e : ∀ (k : Nat) (M : List Value) (v : Value), (gpT.cells q ++ M).set ((i + 1) * 4 + k) v = gpT.cells q ++ M.set (i * 4 + k) v := by
      intro k M v
      rw [List.set_append_right _ _ (by rw [hl]; omega)]
      congr 2
      rw [hl]; omega
    have e0 := e 0
    simp only [Nat.add_zero] at e0
    rw [e0, e, e, e]
theorem own_setR {w : World} {base g cap size : Nat} {e : TypeId} {n : Nat} {xs : List Value} (h : w.ownsRow base e size (.slice (some ⟨g, 0, none⟩) n cap) n xs) (j : Nat) (v : Value) : (w.setCell ⟨g, j, none⟩ v).ownsRow base e size (.slice (some ⟨g, 0, none⟩) n cap) n (xs.set j v) := by
  refine ⟨by rw [List.length_set]; exact h.1, .inr ?_⟩
  rcases h.2 with ⟨hv, _⟩ | ⟨g', cap', cur, hv, hb, hg, h1, h2, h3, h4⟩
  · cases hv
  · cases hv
    refine ⟨g, cap, cur.setIfInBounds j v, rfl, hb, Lib.heap_setCell_same hg v, h1, h2, by simpa using h3, ?_⟩
    rw [Array.toList_setIfInBounds, ← h4, List.take_set]

/-- The world with x as the i-th point of block g. -/
abbrev setP (w : World) (g i : Nat) (x : Pt) : World := (((w.setCell ⟨g, i * 4, none⟩ (.int .i64 x.id)).setCell ⟨g, i * 4 + 1, none⟩ (.int .u32 x.x)).setCell ⟨g, i * 4 + 2, none⟩ (.int .u32 x.y)).setCell ⟨g, i * 4 + 3, none⟩ (.string x.d)
theorem put_pt {w : World} {base g n cap : Nat} {L : List Pt} (h : RowOwn gpT w base (.slice (some ⟨g, 0, none⟩) n cap) L) (hn : L.length = n) (i : Nat) (hi : i < L.length) (x : Pt) : RowOwn gpT (setP w g i x) base (.slice (some ⟨g, 0, none⟩) n cap) (L.set i x) := by
  unfold RowOwn at *
  rw [List.length_set, hn, flatP_set L i x hi]
  rw [hn] at h
  exact own_setR (own_setR (own_setR (own_setR h _ _) _ _) _ _) _ _
theorem sole_setP (w : World) (g i : Nat) (x : Pt) : Sole (fun j => j = g) w (setP w g i x) :=
  (((Sole.setCell (S := fun j => j = g) w (o := i * 4) _ rfl).trans (Sole.setCell _ (o := i * 4 + 1) _ rfl)).trans (Sole.setCell _ (o := i * 4 + 2) _ rfl)).trans (Sole.setCell _ (o := i * 4 + 3) _ rfl)

/-- A row that is being sorted: n points F, those at the places g tells. -/
def StR (w : World) (base b n cap : Nat) (F : Nat → Pt) (g : Nat → Nat) : Prop := RowOwn gpT w base (.slice (some ⟨b, 0, none⟩) n cap) (ptL n (fun i => F (g i)))
theorem ptL_ext {n : Nat} {f g : Nat → Pt} (h : ∀ i, i < n → f i = g i) : ptL n f = ptL n g := by
  unfold ptL
  apply List.map_congr_left
  intro i hi
  exact h i (by simpa using hi)
theorem ptL_set {n : Nat} {f : Nat → Pt} {i : Nat} {x : Pt} : (ptL n f).set i x = ptL n (fun k => if k = i then x else f k) := by
  apply List.ext_getElem
  · simp [ptL]
  · intro k h1 h2
    rw [List.getElem_set]
    simp [ptL]
    split
    · rename_i h; rw [if_pos h.symm]
    · rename_i h; rw [if_neg (fun e => h e.symm)]
theorem StR.ext {w : World} {base b n cap : Nat} {F : Nat → Pt} {g h : Nat → Nat} (H : StR w base b n cap F g) (e : ∀ i, i < n → h i = g i) : StR w base b n cap F h := by
  unfold StR at *
  have e2 : ptL n (fun i => F (h i)) = ptL n (fun i => F (g i)) := ptL_ext (fun i hi => by rw [e i hi])
  rw [e2]
  exact H
theorem StR.swap {w : World} {base b n cap : Nat} {F : Nat → Pt} {g : Nat → Nat} (H : StR w base b n cap F g) (i k : Nat) (hi : i < n) (hk : k < n) :
    StR (setP (setP w b i (F (g k))) b k (F (g i))) base b n cap F (swp2 g i k) := by
  unfold StR at *
  have h1 := put_pt H (ptL_len _ _) i (by rw [ptL_len]; exact hi) (F (g k))
  have h2 := put_pt h1 (by rw [List.length_set, ptL_len]) k (by rw [List.length_set, ptL_len]; exact hk) (F (g i))
  rw [ptL_set, ptL_set] at h2
  have e : ptL n (fun x => if x = k then F (g i) else if x = i then F (g k) else F (g x)) = ptL n (fun x => F (swp2 g i k x)) := by
    apply ptL_ext
    intro x hx
    unfold swp2
    by_cases e1 : x = k
    · by_cases e2 : x = i
      · subst e1; subst e2; simp
      · subst e1
        simp only [if_true]
        rw [if_neg e2]
    · by_cases e2 : x = i
      · simp [e2]
        intro e3
        rw [e3]
      · simp [e1, e2]
  rw [e] at h2
  exact h2
theorem sole_swap (w : World) (b i k : Nat) (x y : Pt) : Sole (fun j => j = b) w (setP (setP w b i x) b k y) := (sole_setP w b i x).trans (sole_setP _ b k y)
theorem StR.made {w w' : World} {base b n cap : Nat} {F : Nat → Pt} {g : Nat → Nat} (H : StR w base b n cap F g) (hb : Below w.heap.size w w') : StR w' base b n cap F g := RowOwn.more H hb
theorem StR.drew {w : World} {base b n cap : Nat} {F : Nat → Pt} {g : Nat → Nat} (H : StR w base b n cap F g) : StR w.drew base b n cap F g := RowOwn.drew H
theorem StR.lt {w : World} {base b n cap : Nat} {F : Nat → Pt} {g : Nat → Nat} (H : StR w base b n cap F g) : b < w.heap.size := (RowOwn.within H b rfl).2
theorem StR.row {w : World} {base b n cap : Nat} {F : Nat → Pt} {g : Nat → Nat} (H : StR w base b n cap F g) : n ≤ cap ∧ cap ≤ maxLen ∧ ∀ i, i < n → w.cell? ⟨b, i * 4, none⟩ = some (.int .i64 (F (g i)).id) ∧ w.cell? ⟨b, i * 4 + 1, none⟩ = some (.int .u32 (F (g i)).x) ∧ w.cell? ⟨b, i * 4 + 2, none⟩ = some (.int .u32 (F (g i)).y) ∧ w.cell? ⟨b, i * 4 + 3, none⟩ = some (.string (F (g i)).d) := by
  obtain ⟨p', cap', hv, h1, h2, h3⟩ := RowOwn.open gpOk H
  rw [ptL_len] at hv h1
  cases hv
  refine ⟨h1, h2, fun i hi => ?_⟩
  obtain ⟨b', o', e, R⟩ := RowP.row (list_rowp h3) (by omega)
  cases e
  have z0 := R.at0 (i := i) hi (v := .int .i64 (F (g i)).id) rfl
  have z1 := R.at1 (i := i) hi (v := .int .u32 (F (g i)).x) rfl
  have z2 := R.at2 (i := i) hi (v := .int .u32 (F (g i)).y) rfl
  have z3 := R.at3 (i := i) hi (v := .string (F (g i)).d) rfl
  simp only [Nat.zero_add] at z0 z1 z2 z3
  exact ⟨z0, z1, z2, z3⟩
theorem StR.frz {w : World} {base b n cap : Nat} {F : Nat → Pt} {g : Nat → Nat} (H : StR w base b n cap F g) (hn : 0 < n) : ∀ o, w.frozen? ⟨b, o, none⟩ = false := by
  intro o
  unfold StR RowOwn at H
  rw [ptL_len] at H
  rcases H.2 with ⟨hv, _⟩ | ⟨g', cap', cur, hv, hb, hg, _⟩
  · cases hv
  · cases hv
    simp [World.frozen?, hg]

/-- A comparison that looks at nothing that is sorted: 'cf' says what it answers. -/
structure CmpF (f : Nat) (cb : Array Value) (I : World → Prop) (b : Nat) (cf : Pt → Pt → Int) (Q : Pt → Prop) : Prop where
  enters : ∀ args w, (callFunc f args).run Try.prog w = .ok (.enter f args) w
  calls : ∀ (x y : Pt), Q x → Q y → ∀ (w : World), I w → Calls Try.prog f (#[.agg #[.int .i64 x.id, .int .u32 x.x, .int .u32 x.y, .string x.d], .agg #[.int .i64 y.id, .int .u32 y.x, .int .u32 y.y, .string y.d]] ++ cb) w fun e w' => e = .returned (.int .i64 (cf x y)) ∧ Below w.heap.size w w'
  keeps : ∀ w w', I w → Sole (fun j => j = b) w w' → I w'
  weak : Weak (fun x y => decide (cf x y < 0))
abbrev ltC (cf : Pt → Pt → Int) : Pt → Pt → Bool := fun x y => decide (cf x y < 0)
end Go.Proofs.Ytfijkbgbhaoilaa
