/-
  Blocks whose cells are known as a whole: an array of many cells, by value.
-/
import Derived.Test.YtghboanmiggcnaaAidMore
import Derived.Deep.MidRow
namespace Go.Proofs.Ytghboanmiggcnaa
open Go.RowKit
set_option linter.unusedVariables false

theorem setAll_eq {b : Nat} : ∀ (vs : List Value) (o : Nat) (w : World), setAll w b o vs = w.setCells b o vs
  | [], _, _ => rfl
  | v :: vs, o, w => setAll_eq vs (o + 1) _

theorem fillC_get {vs : List Value} : ∀ (o : Nat) (c : Array Value) (j : Nat), o + vs.length ≤ c.size → (fillC c o vs)[j]? = if o ≤ j ∧ j < o + vs.length then vs[j - o]? else c[j]? := by
  induction vs with
  | nil => intro o c j h; simp only [fillC, List.length_nil]; rw [if_neg (by omega)]
  | cons v vs ih =>
    intro o c j h
    simp only [List.length_cons] at h
    show (fillC (c.setIfInBounds o v) (o + 1) vs)[j]? = _
    rw [ih (o + 1) _ j (by simp; omega)]
    by_cases h1 : o + 1 ≤ j ∧ j < o + 1 + vs.length
    · rw [if_pos h1, if_pos (by simp; omega), show j - o = (j - (o + 1)) + 1 by omega, List.getElem?_cons_succ]
    · rw [if_neg h1]
      by_cases h2 : j = o
      · subst h2
        have hj : j < c.size := by omega
        rw [if_pos (by simp), Nat.sub_self]
        simp [hj]
      · rw [if_neg (by simp; omega), Array.getElem?_setIfInBounds_ne (by omega)]
theorem fillC_whole {c d : Array Value} (h : d.size = c.size) : fillC c 0 d.toList = d := by
  apply Array.ext_getElem?
  intro j
  rw [fillC_get 0 c j (by simp; omega)]
  by_cases hj : j < d.size
  · rw [if_pos (by simp; omega)]; simp
  · rw [if_neg (by simp; omega)]
    rw [Array.getElem?_eq_none (by omega), Array.getElem?_eq_none (by omega)]

theorem Blk.whole {w : World} {b : Nat} {c d : Array Value} (h : Blk w b c) (hs : d.size = c.size) : Blk (w.setCells b 0 d.toList) b d := by
  have := Blk.fill d.toList 0 h (by simp; omega)
  rw [setAll_eq, fillC_whole hs] at this
  exact this
theorem Blk.beside {w : World} {b b' : Nat} {c : Array Value} (h : Blk w b c) (hne : b' ≠ b) (o : Nat) (vs : List Value) : Blk (w.setCells b' o vs) b c := by
  have := Blk.past hne vs o h
  rwa [setAll_eq] at this
theorem below_cells {B b : Nat} {w1 w : World} (h : Below B w1 w) (hB : B ≤ b) (o : Nat) (vs : List Value) : Below B w1 (w.setCells b o vs) := by
  have := below_fill hB vs o h
  rwa [setAll_eq] at this
theorem size_cells {b o : Nat} {w : World} {vs : List Value} : (w.setCells b o vs).heap.size = w.heap.size := by
  have := size_setAll (b := b) vs o w
  rwa [setAll_eq] at this
theorem Blk.range {w : World} {b : Nat} {c : Array Value} (h : Blk w b c) : w.rangeAt b 0 c.toList := fun j v hv => by
  rw [Nat.zero_add, h.cell]; simpa using hv
theorem Blk.there {w : World} {b n : Nat} {c : Array Value} (h : Blk w b c) (hn : n = c.size) : w.there b 0 n := fun j hj => by
  rw [Nat.zero_add, h.cell]
  exact ⟨by simp; omega, h.frz j⟩

/-- The cells hold these numbers. -/
structure Nums (c : Array Value) (k : IntKind) (n : Nat) (f : Nat → Int) : Prop where
  size : c.size = n
  get : ∀ j, j < n → c[j]? = some (.int k (f j))

theorem Nums.set {c : Array Value} {k : IntKind} {n : Nat} {f : Nat → Int} (h : Nums c k n f) {i : Nat} {v : Int} {g : Nat → Int} (hi : i < n) (hg : ∀ j, j < n → g j = if j = i then v else f j) : Nums (c.setIfInBounds i (.int k v)) k n g :=
  ⟨by simp [h.size], fun j hj => by
    rw [hg j hj]
    by_cases e : j = i
    · subst e
      have hs : j < c.size := by rw [h.size]; exact hj
      rw [if_pos rfl]; simp [hs]
    · rw [if_neg e, Array.getElem?_setIfInBounds_ne (fun h => e h.symm)]; exact h.get j hj⟩
theorem Nums.congr {c : Array Value} {k : IntKind} {n : Nat} {f g : Nat → Int} (h : Nums c k n f) (hg : ∀ j, j < n → g j = f j) : Nums c k n g :=
  ⟨h.size, fun j hj => by rw [hg j hj]; exact h.get j hj⟩
theorem Nums.one {c : Array Value} {k : IntKind} {n : Nat} {f : Nat → Int} (h : Nums c k n f) : c.all (·.oneCell') = true := by
  rw [Array.all_eq_true]
  intro i hi
  have := h.get i (by rw [← h.size]; exact hi)
  rw [Array.getElem?_eq_getElem hi] at this
  rw [Option.some.inj this]
  rfl
theorem nums_eq {c d : Array Value} {k : IntKind} {n : Nat} {f : Nat → Int} (h : Nums c k n f) (h' : Nums d k n f) : c = d := by
  apply Array.ext_getElem?
  intro j
  by_cases hj : j < n
  · rw [h.get j hj, h'.get j hj]
  · rw [Array.getElem?_eq_none (by rw [h.size]; omega), Array.getElem?_eq_none (by rw [h'.size]; omega)]
theorem nums_rep (k : IntKind) (n : Nat) : Nums (Array.replicate n (.int k 0)) k n (fun _ => 0) := ⟨by simp, fun j hj => by simp [hj]⟩

theorem results_blk {P : Program} {fn : Func} {p : Tmp} {ty : TypeId} (h : fn.results = #[.cell p ty]) (tmps : Array Value) (w : World) (g : Nat) (c : Array Value) (d : TypeDesc)
    (hp : tmps.getD p undef = .pointer (some ⟨g, 0, none⟩)) (B : Blk w g c) (hu : P.underlying ty = some d) (hd : d.isRow = true) (hi : (P.info? ty).map (·.size) = some c.size) :
    (results fn tmps).run P w = .ok (.agg c) w := by
  have hp' : tmps[p]?.getD undef = .pointer (some ⟨g, 0, none⟩) := by simpa using hp
  have := run_loadVar_mid (P := P) w g 0 ty c.toList d B.range hu hd (by rw [hi]; simp)
  simp [results, h, hp', asAddr, this]
end Go.Proofs.Ytghboanmiggcnaa
