/-
  Small facts of memory for walks: a block of the call's own, carried along; what a call leaves as it was.
-/
import Derived.Handy
import Derived.StillTailTactics
import Derived.Deep.RegionHeld3
import Derived.Deep.QuietTactic
import Derived.BigQuiet
import Derived.WalkSpells
namespace Go.Proofs.Ytghboanmiggcnaa
open Go.RowKit
set_option linter.unusedVariables false

theorem hid {p : Prop} (h : p) : Go.RowKit.Hid p := h
theorem ret_int {k : IntKind} {a b : Int} (h : a = b) : Ending.returned (.int k a) = .returned (.int k b) := by rw [h]
theorem ret_bool {a b : Bool} (h : a = b) : Ending.returned (.bool a) = .returned (.bool b) := by rw [h]

@[go_sem high] theorem run_min_mm {P : Program} {w : World} (ts : Array TypeId) (t : TypeId) (k k' : IntKind) (x y : Int) : (Builtin.min_ ts t #[.int k x, .int k' y]).run P w = .ok (.int k (min x y)) w := by
  rw [run_min_int2]; congr 2; split <;> omega
@[go_sem high] theorem run_max_mm {P : Program} {w : World} (ts : Array TypeId) (t : TypeId) (k k' : IntKind) (x y : Int) : (Builtin.max_ ts t #[.int k x, .int k' y]).run P w = .ok (.int k (max x y)) w := by
  rw [run_max_int2]; congr 2; split <;> omega

/-- Block b holds the cells c, and may be written. -/
structure Blk (w : World) (b : Nat) (c : Array Value) : Prop where
  lt : b < w.heap.size
  cell : ∀ o, w.cell? ⟨b, o, none⟩ = c[o]?
  frz : ∀ o, w.frozen? ⟨b, o, none⟩ = false

theorem Blk.new (w : World) (c : Array Value) (t : TypeId) : Blk (w.alloc (.cells c t)) w.heap.size c :=
  ⟨by simp, fun o => by simp, fun o => World.frozen?_alloc_new w c t o⟩
theorem Blk.more {w w' : World} {b : Nat} {c : Array Value} (h : Blk w b c) (hb : Below w.heap.size w w') : Blk w' b c :=
  ⟨Nat.lt_of_lt_of_le h.lt hb.size, fun o => (hb.cell (p := ⟨b, o, none⟩) h.lt).trans (h.cell o), fun o => (hb.frozen (p := ⟨b, o, none⟩) h.lt).trans (h.frz o)⟩
theorem Blk.below {w w' : World} {b B : Nat} {c : Array Value} (h : Blk w b c) (hb : Below B w w') (hlt : b < B) : Blk w' b c :=
  ⟨Nat.lt_of_lt_of_le h.lt hb.size, fun o => (hb.cell (p := ⟨b, o, none⟩) hlt).trans (h.cell o), fun o => (hb.frozen (p := ⟨b, o, none⟩) hlt).trans (h.frz o)⟩
theorem Blk.alloc {w : World} {b : Nat} {c : Array Value} (h : Blk w b c) (o : Obj) : Blk (w.alloc o) b c :=
  h.more (Below.alloc (Below.refl _ _) (Nat.le_refl _) o)
theorem Blk.drew {w : World} {b : Nat} {c : Array Value} (h : Blk w b c) : Blk w.drew b c := ⟨h.lt, h.cell, h.frz⟩
theorem Blk.drewN {w : World} {b : Nat} {c : Array Value} (h : Blk w b c) (n : Nat) : Blk (w.drewN n) b c := ⟨h.lt, h.cell, h.frz⟩
theorem Blk.other {w : World} {b : Nat} {c : Array Value} (h : Blk w b c) (p : Addr) (hp : p.block ≠ b) (v : Value) : Blk (w.setCell p v) b c := by
  have e : (w.setCell p v).heap[b]? = w.heap[b]? := Below.heap_setCell _ _ _ _ (Ne.symm hp)
  exact ⟨by simpa [World.setCell] using h.lt, fun o => (World.cell?_of_block (a := ⟨b, o, none⟩) e).trans (h.cell o), fun o => (World.frozen?_of_block (a := ⟨b, o, none⟩) e).trans (h.frz o)⟩
theorem Blk.set {w : World} {b : Nat} {c : Array Value} (h : Blk w b c) (o : Nat) (v : Value) (ho : o < c.size) : Blk (w.setCell ⟨b, o, none⟩ v) b (c.setIfInBounds o v) := by
  refine ⟨by simpa [World.setCell] using h.lt, fun o' => ?_, fun o' => ?_⟩
  · by_cases e : o = o'
    · subst e
      have h1 : w.cell? ⟨b, o, none⟩ = some c[o] := by rw [h.cell]; simp [ho]
      rw [World.cell?_setCell_same w ⟨b, o, none⟩ v h1]
      simp [ho]
    · rw [World.cell?_setCell_other w ⟨b, o, none⟩ ⟨b, o', none⟩ v (by intro h; cases h; exact e rfl), h.cell]
      rw [Array.getElem?_setIfInBounds_ne e]
  · rw [World.frozen?_setCell]; exact h.frz o'

theorem bcell {W w1 : World} (hb : Below W.heap.size W w1) : (∀ b o, b < W.heap.size → w1.cell? ⟨b, o, none⟩ = W.cell? ⟨b, o, none⟩) ∧ (∀ b o, b < W.heap.size → w1.frozen? ⟨b, o, none⟩ = W.frozen? ⟨b, o, none⟩) :=
  ⟨fun b o h => hb.cell (p := ⟨b, o, none⟩) h, fun b o h => hb.frozen (p := ⟨b, o, none⟩) h⟩

/-- Two steps of 'Below'. -/
theorem below2 {B : Nat} {a b c : World} (h : Below B a b) (k : Below b.heap.size b c) (hB : B ≤ b.heap.size) : Below B a c := h.trans (k.mono hB)

theorem belowN {B n : Nat} {a b c : World} (h : Below B a b) (k : Below (b.drewN n).heap.size (b.drewN n) c) : Below B a c ∨ ¬ B ≤ b.heap.size := by
  by_cases hB : B ≤ b.heap.size
  · exact .inl (h.trans (Below.trans (b := b.drewN n) ⟨rfl, rfl, rfl, Nat.le_refl _, fun _ _ => rfl⟩ (k.mono hB)))
  · exact .inr hB
theorem below2N {B n : Nat} {a b c : World} (h : Below B a b) (k : Below (b.drewN n).heap.size (b.drewN n) c) (hB : B ≤ b.heap.size) : Below B a c := (belowN h k).resolve_right (fun x => x hB)
theorem Blk.moreN {w w' : World} {b n : Nat} {c : Array Value} (h : Blk w b c) (hb : Below (w.drewN n).heap.size (w.drewN n) w') : Blk w' b c := (h.drewN n).more hb

/-- Parameters of the call's own, boxed, behind a callee. -/
theorem boxed1 {w w1 : World} {c : Array Value} {t : TypeId} (hb : Below (w.alloc (.cells c t)).heap.size (w.alloc (.cells c t)) w1) : Blk w1 w.heap.size c ∧ Below w.heap.size w w1 :=
  ⟨(Blk.new w c t).more hb, below2 (Below.alloc (Below.refl _ _) (Nat.le_refl _) _) hb (by simp)⟩
theorem boxed2 {w w1 : World} {c c' : Array Value} {t t' : TypeId} (hb : Below ((w.alloc (.cells c t)).alloc (.cells c' t')).heap.size ((w.alloc (.cells c t)).alloc (.cells c' t')) w1) :
    Blk w1 w.heap.size c ∧ Blk w1 (w.heap.size + 1) c' ∧ Below w.heap.size w w1 := by
  obtain ⟨h1, h2⟩ := boxed1 hb
  rw [World.size_alloc] at h1
  exact ⟨((Blk.new w c t).alloc _).more hb, h1, below2 (Below.alloc (Below.refl _ _) (Nat.le_refl _) _) h2 (by simp)⟩
theorem boxed3 {w w1 : World} {c c' c'' : Array Value} {t t' t'' : TypeId} (hb : Below (((w.alloc (.cells c t)).alloc (.cells c' t')).alloc (.cells c'' t'')).heap.size (((w.alloc (.cells c t)).alloc (.cells c' t')).alloc (.cells c'' t'')) w1) :
    Blk w1 w.heap.size c ∧ Blk w1 (w.heap.size + 1) c' ∧ Blk w1 (w.heap.size + 1 + 1) c'' ∧ Below w.heap.size w w1 := by
  obtain ⟨h1, h2, h3⟩ := boxed2 hb
  rw [World.size_alloc] at h1 h2
  exact ⟨(((Blk.new w c t).alloc _).alloc _).more hb, h1, h2, below2 (Below.alloc (Below.refl _ _) (Nat.le_refl _) _) h3 (by simp)⟩
theorem boxed4 {w w1 : World} {c c' c'' d : Array Value} {t t' t'' u : TypeId} (hb : Below ((((w.alloc (.cells c t)).alloc (.cells c' t')).alloc (.cells c'' t'')).alloc (.cells d u)).heap.size ((((w.alloc (.cells c t)).alloc (.cells c' t')).alloc (.cells c'' t'')).alloc (.cells d u)) w1) :
    Blk w1 w.heap.size c ∧ Blk w1 (w.heap.size + 1) c' ∧ Blk w1 (w.heap.size + 1 + 1) c'' ∧ Blk w1 (w.heap.size + 1 + 1 + 1) d ∧ Below w.heap.size w w1 := by
  obtain ⟨h1, h2, h3, h4⟩ := boxed3 hb
  rw [World.size_alloc] at h1 h2 h3
  exact ⟨((((Blk.new w c t).alloc _).alloc _).alloc _).more hb, h1, h2, h3, below2 (Below.alloc (Below.refl _ _) (Nat.le_refl _) _) h4 (by simp)⟩
end Go.Proofs.Ytghboanmiggcnaa
