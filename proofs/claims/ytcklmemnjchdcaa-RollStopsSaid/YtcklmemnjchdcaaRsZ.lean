/-
  A region that draws its order, by what is known as it goes: a condition on which operations are done, their values and the world; each operation keeps it, in whatever order they come.
-/
import Derived.Handy
import Derived.StillTailTactics
import Derived.Deep.RegionHeld3
import Derived.Deep.QuietTactic
import Derived.BigQuiet
import Derived.WalkSpells
import Derived.Test.YtcklmemnjchdcaaProg
import Derived.Laws.AppendOwn
import Derived.Lib.BufferMore
import Derived.Lib.BufferRead
import Derived.Lib.SlBytesRow
import Derived.Lib.AppendZerosOnto
import Derived.OwnWalk
import Derived.WalkKit
import Derived.Test.YtcklmemnjchdcaaRows
import Derived.ProofKit
import Derived.OpenShut
import Derived.ShutString
import Derived.ChangeOld
import Derived.Below
import Derived.SizedLaws
import Derived.Lib.SmallJoins
import Derived.Deep.Slices
import Derived.Deep.Fields
import Derived.ChangeSame
import Derived.ChangeSlices
import Derived.Deep.MidRow
import Derived.Deep.AppendLies
import Derived.Deep.RegionLaw
import Derived.Lib.AppendZeros
import Derived.Orders
import Derived.StillTail
import Derived.Deep.Quiet
import Derived.OrdersIn
import Derived.TacticsIn
import Derived.LoopTactic

/-
  Small facts of memory for walks: a block of the call's own, carried along; what a call leaves as it was.
-/






namespace Go.Proofs.Ytcklmemnjchdcaa
open Go.RowKit
set_option linter.unusedVariables false

theorem hid {p : Prop} (h : p) : Go.RowKit.Hid p := h
@[go_sem high] theorem run_min_mm {P : Program} {w : World} (ts : Array TypeId) (t : TypeId) (k k' : IntKind) (x y : Int) : (Builtin.min_ ts t #[.int k x, .int k' y]).run P w = .ok (.int k (min x y)) w := by
  rw [run_min_int2]; congr 2; split <;> omega
@[go_sem high] theorem run_max_mm {P : Program} {w : World} (ts : Array TypeId) (t : TypeId) (k k' : IntKind) (x y : Int) : (Builtin.max_ ts t #[.int k x, .int k' y]).run P w = .ok (.int k (max x y)) w := by
  rw [run_max_int2]; congr 2; split <;> omega

/-- Block b holds the cells c, and may be written. -/
structure Blk (w : World) (b : Nat) (c : Array Value) : Prop where
  lt : b < w.heap.size
  cell : ∀ o, w.cell? ⟨b, o, none⟩ = c[o]?
  frz : ∀ o, w.frozen? ⟨b, o, none⟩ = false

theorem Blk.new (w : World) (c : Array Value) (t : TypeId) : Blk (w.alloc (.cells c t)) w.heap.size c :=
  ⟨by simp, fun o => by simp, fun o => World.frozen?_alloc_new w c t o⟩
theorem Blk.more {w w' : World} {b : Nat} {c : Array Value} (h : Blk w b c) (hb : Below w.heap.size w w') : Blk w' b c :=
  ⟨Nat.lt_of_lt_of_le h.lt hb.size, fun o => (hb.cell (p := ⟨b, o, none⟩) h.lt).trans (h.cell o), fun o => (hb.frozen (p := ⟨b, o, none⟩) h.lt).trans (h.frz o)⟩
theorem Blk.below {w w' : World} {b B : Nat} {c : Array Value} (h : Blk w b c) (hb : Below B w w') (hlt : b < B) : Blk w' b c :=
  ⟨Nat.lt_of_lt_of_le h.lt hb.size, fun o => (hb.cell (p := ⟨b, o, none⟩) hlt).trans (h.cell o), fun o => (hb.frozen (p := ⟨b, o, none⟩) hlt).trans (h.frz o)⟩
theorem Blk.alloc {w : World} {b : Nat} {c : Array Value} (h : Blk w b c) (o : Obj) : Blk (w.alloc o) b c :=
  h.more (Below.alloc (Below.refl _ _) (Nat.le_refl _) o)
theorem Blk.drew {w : World} {b : Nat} {c : Array Value} (h : Blk w b c) : Blk w.drew b c := ⟨h.lt, h.cell, h.frz⟩
theorem Blk.other {w : World} {b : Nat} {c : Array Value} (h : Blk w b c) (p : Addr) (hp : p.block ≠ b) (v : Value) : Blk (w.setCell p v) b c := by
  have e : (w.setCell p v).heap[b]? = w.heap[b]? := Below.heap_setCell _ _ _ _ (Ne.symm hp)
  exact ⟨by simpa [World.setCell] using h.lt, fun o => (World.cell?_of_block (a := ⟨b, o, none⟩) e).trans (h.cell o), fun o => (World.frozen?_of_block (a := ⟨b, o, none⟩) e).trans (h.frz o)⟩
theorem Blk.set {w : World} {b : Nat} {c : Array Value} (h : Blk w b c) (o : Nat) (v : Value) (ho : o < c.size) : Blk (w.setCell ⟨b, o, none⟩ v) b (c.setIfInBounds o v) := by
  refine ⟨by simpa [World.setCell] using h.lt, fun o' => ?_, fun o' => ?_⟩
  · by_cases e : o = o'
    · subst e
      have h1 : w.cell? ⟨b, o, none⟩ = some c[o] := by rw [h.cell]; simp [ho]
      rw [World.cell?_setCell_same w ⟨b, o, none⟩ v h1]
      simp [ho]
    · rw [World.cell?_setCell_other w ⟨b, o, none⟩ ⟨b, o', none⟩ v (by intro h; cases h; exact e rfl), h.cell]
      rw [Array.getElem?_setIfInBounds_ne e]
  · rw [World.frozen?_setCell]; exact h.frz o'

/-- Two steps of 'Below'. -/
theorem below2 {B : Nat} {a b c : World} (h : Below B a b) (k : Below b.heap.size b c) (hB : B ≤ b.heap.size) : Below B a c := h.trans (k.mono hB)

/-- Parameters of the call's own, boxed, behind a callee. -/
theorem boxed1 {w w1 : World} {c : Array Value} {t : TypeId} (hb : Below (w.alloc (.cells c t)).heap.size (w.alloc (.cells c t)) w1) : Blk w1 w.heap.size c ∧ Below w.heap.size w w1 :=
  ⟨(Blk.new w c t).more hb, below2 (Below.alloc (Below.refl _ _) (Nat.le_refl _) _) hb (by simp)⟩
theorem boxed2 {w w1 : World} {c c' : Array Value} {t t' : TypeId} (hb : Below ((w.alloc (.cells c t)).alloc (.cells c' t')).heap.size ((w.alloc (.cells c t)).alloc (.cells c' t')) w1) :
    Blk w1 w.heap.size c ∧ Blk w1 (w.heap.size + 1) c' ∧ Below w.heap.size w w1 := by
  obtain ⟨h1, h2⟩ := boxed1 hb
  rw [World.size_alloc] at h1
  exact ⟨((Blk.new w c t).alloc _).more hb, h1, below2 (Below.alloc (Below.refl _ _) (Nat.le_refl _) _) h2 (by simp)⟩
theorem boxed3 {w w1 : World} {c c' c'' : Array Value} {t t' t'' : TypeId} (hb : Below (((w.alloc (.cells c t)).alloc (.cells c' t')).alloc (.cells c'' t'')).heap.size (((w.alloc (.cells c t)).alloc (.cells c' t')).alloc (.cells c'' t'')) w1) :
    Blk w1 w.heap.size c ∧ Blk w1 (w.heap.size + 1) c' ∧ Blk w1 (w.heap.size + 1 + 1) c'' ∧ Below w.heap.size w w1 := by
  obtain ⟨h1, h2, h3⟩ := boxed2 hb
  rw [World.size_alloc] at h1 h2
  exact ⟨(((Blk.new w c t).alloc _).alloc _).more hb, h1, h2, below2 (Below.alloc (Below.refl _ _) (Nat.le_refl _) _) h3 (by simp)⟩
theorem boxed4 {w w1 : World} {c c' c'' d : Array Value} {t t' t'' u : TypeId} (hb : Below ((((w.alloc (.cells c t)).alloc (.cells c' t')).alloc (.cells c'' t'')).alloc (.cells d u)).heap.size ((((w.alloc (.cells c t)).alloc (.cells c' t')).alloc (.cells c'' t'')).alloc (.cells d u)) w1) :
    Blk w1 w.heap.size c ∧ Blk w1 (w.heap.size + 1) c' ∧ Blk w1 (w.heap.size + 1 + 1) c'' ∧ Blk w1 (w.heap.size + 1 + 1 + 1) d ∧ Below w.heap.size w w1 := by
  obtain ⟨h1, h2, h3, h4⟩ := boxed3 hb
  rw [World.size_alloc] at h1 h2 h3
  exact ⟨((((Blk.new w c t).alloc _).alloc _).alloc _).more hb, h1, h2, h3, below2 (Below.alloc (Below.refl _ _) (Nat.le_refl _) _) h4 (by simp)⟩
end Go.Proofs.Ytcklmemnjchdcaa

/-
  More small facts of memory: a whole struct stored, cell by cell.
-/

namespace Go.Proofs.Ytcklmemnjchdcaa
open Go.RowKit
set_option linter.unusedVariables false

/-- The world behind these stores, one cell behind the other. -/
def setAll (w : World) (b : Nat) : Nat → List Value → World
  | _, [] => w
  | o, v :: vs => setAll (w.setCell ⟨b, o, none⟩ v) b (o + 1) vs
def fillC (c : Array Value) : Nat → List Value → Array Value
  | _, [] => c
  | o, v :: vs => fillC (c.setIfInBounds o v) (o + 1) vs

theorem Blk.fill {b : Nat} : ∀ (vs : List Value) (o : Nat) {w : World} {c : Array Value}, Blk w b c → o + vs.length ≤ c.size → Blk (setAll w b o vs) b (fillC c o vs)
  | [], _, _, _, h, _ => h
  | v :: vs, o, w, c, h, hs => Blk.fill vs (o + 1) (h.set o v (by simp at hs; omega)) (by simp at hs ⊢; omega)
theorem Blk.past {b b' : Nat} {c : Array Value} (hne : b' ≠ b) : ∀ (vs : List Value) (o : Nat) {w : World}, Blk w b c → Blk (setAll w b' o vs) b c
  | [], _, _, h => h
  | v :: vs, o, w, h => Blk.past hne vs (o + 1) (h.other ⟨b', o, none⟩ hne v)
theorem below_fill {B b : Nat} {w1 : World} (hB : B ≤ b) : ∀ (vs : List Value) (o : Nat) {w : World}, Below B w1 w → Below B w1 (setAll w b o vs)
  | [], _, _, h => h
  | v :: vs, o, w, h => below_fill hB vs (o + 1) (Below.setCell (p := ⟨b, o, none⟩) h hB v)
end Go.Proofs.Ytcklmemnjchdcaa

/-
  Package little: what nobody made.
-/



namespace Go.Proofs.Ytcklmemnjchdcaa
open Go.RowKit
set_option linter.unusedVariables false
set_option linter.unusedSimpArgs false

theorem nearest_any (n lo hi : Int) (w : World) : Calls Try.prog 70 #[.int .i64 n, .int .i64 lo, .int .i64 hi] w fun e w' => e = .returned (.int .i64 (min (max n lo) hi)) ∧ w' = w := by
  go_enter Try.func70, Try.ntmps70
  go_wp2
  go_ret
  exact ⟨rfl, rfl⟩

/-- An Out, and an In, that nobody made. -/
abbrev out0 (e : Int) : Array Value := #[.bool false, .int .i64 0, .slice none 0 0, .int .i64 e]
abbrev in0 (e : Int) : Array Value := #[.bool false, .slice none 0 0, .int .i64 e]
abbrev at' (p : Nat) : Value := .pointer (some ⟨p, 0, none⟩)

end Go.Proofs.Ytcklmemnjchdcaa

/-
  What changes, but for certain blocks: nothing. The frame of calls that write a few blocks and make others.
-/



namespace Go.Proofs.Ytcklmemnjchdcaa
open Go.RowKit
set_option linter.unusedVariables false

/-- Of the blocks that were there only those of S may be others. -/
structure Sole (S : Nat → Prop) (w w' : World) : Prop where
  os : w'.os = w.os
  tape : w'.tape = w.tape
  output : w'.output = w.output
  size : w.heap.size ≤ w'.heap.size
  block : ∀ k, k < w.heap.size → ¬ S k → w'.heap[k]? = w.heap[k]?

theorem Sole.refl (S : Nat → Prop) (w : World) : Sole S w w := ⟨rfl, rfl, rfl, Nat.le_refl _, fun _ _ _ => rfl⟩
theorem Sole.mono {S T : Nat → Prop} {a b : World} (h : Sole S a b) (hs : ∀ k, k < a.heap.size → S k → T k) : Sole T a b :=
  ⟨h.os, h.tape, h.output, h.size, fun k hk hn => h.block k hk fun hS => hn (hs k hk hS)⟩
theorem Sole.trans' {S T : Nat → Prop} {a b c : World} (h : Sole S a b) (k : Sole T b c) (hT : ∀ k, k < a.heap.size → T k → S k) : Sole S a c :=
  ⟨k.os.trans h.os, k.tape.trans h.tape, k.output.trans h.output, Nat.le_trans h.size k.size, fun i hi hn => (k.block i (Nat.lt_of_lt_of_le hi h.size) fun x => hn (hT i hi x)).trans (h.block i hi hn)⟩
theorem Sole.trans {S : Nat → Prop} {a b c : World} (h : Sole S a b) (k : Sole S b c) : Sole S a c := h.trans' k fun _ _ x => x
theorem Sole.of_below {S : Nat → Prop} {B : Nat} {a b : World} (h : Below B a b) (hs : ∀ k, k < a.heap.size → B ≤ k → S k) : Sole S a b :=
  ⟨h.os, h.tape, h.output, h.size, fun k hk hn => h.block k (by by_cases e : k < B; exact e; exact absurd (hs k hk (by omega)) hn)⟩
theorem Sole.made {S : Nat → Prop} {a b : World} (h : Below a.heap.size a b) : Sole S a b := Sole.of_below h fun k hk h2 => by omega
theorem Sole.below {S : Nat → Prop} {B : Nat} {a b : World} (h : Sole S a b) (hB : B ≤ a.heap.size) (hs : ∀ k, S k → B ≤ k) : Below B a b :=
  ⟨h.os, h.tape, h.output, h.size, fun k hk => h.block k (by omega) fun x => by have := hs k x; omega⟩
theorem Sole.grown {S : Nat → Prop} {a b : World} {r : Option Nat} (h : a.grownBy b r) (hs : ∀ k, r = some k → S k) : Sole S a b :=
  ⟨h.os, h.tape, h.output, h.size, fun k hk hn => h.block k hk fun e => hn (hs k e.symm)⟩
theorem Sole.setCell {S : Nat → Prop} (w : World) {b o : Nat} (v : Value) (hs : S b) : Sole S w (w.setCell ⟨b, o, none⟩ v) :=
  ⟨rfl, rfl, rfl, by simp [World.setCell], fun k hk hn => Below.heap_setCell _ _ _ _ fun e => hn (by rw [e]; exact hs)⟩
theorem Sole.drew {S : Nat → Prop} {a b : World} (h : Sole S a b) : Sole S a b.drew := ⟨h.os, h.tape, h.output, h.size, h.block⟩
theorem Sole.alloc {S : Nat → Prop} (w : World) (o : Obj) : Sole S w (w.alloc o) := Sole.made (Below.alloc (Below.refl _ _) (Nat.le_refl _) o)
theorem Sole.cell {S : Nat → Prop} {w w' : World} (h : Sole S w w') {b o : Nat} (hb : b < w.heap.size) (hn : ¬ S b) : w'.cell? ⟨b, o, none⟩ = w.cell? ⟨b, o, none⟩ := World.cell?_of_block (a := ⟨b, o, none⟩) (h.block b hb hn)
theorem Sole.frozen {S : Nat → Prop} {w w' : World} (h : Sole S w w') {b o : Nat} (hb : b < w.heap.size) (hn : ¬ S b) : w'.frozen? ⟨b, o, none⟩ = w.frozen? ⟨b, o, none⟩ := World.frozen?_of_block (a := ⟨b, o, none⟩) (h.block b hb hn)
theorem Blk.sole {S : Nat → Prop} {w w' : World} {b : Nat} {c : Array Value} (h : Blk w b c) (hs : Sole S w w') (hn : ¬ S b) : Blk w' b c :=
  ⟨Nat.lt_of_lt_of_le h.lt hs.size, fun o => (hs.cell h.lt hn).trans (h.cell o), fun o => (hs.frozen h.lt hn).trans (h.frz o)⟩
theorem own_sole {S : Nat → Prop} {w w' : World} {base : Nat} {e : TypeId} {size : Nat} {v : Value} {n : Nat} {xs : List Value} (h : w.ownsRow base e size v n xs) (hs : Sole S w w') (hn : ∀ k, v.ownBlock = some k → ¬ S k) : w'.ownsRow base e size v n xs := by
  refine ⟨h.1, h.2.imp id ?_⟩
  rintro ⟨g, cap, cur, rfl, hb, hg, h1, h2, h3, h4⟩
  exact ⟨g, cap, cur, rfl, hb, (hs.block g (h.lt g rfl).2 (hn g rfl)).trans hg, h1, h2, h3, h4⟩
theorem own_blk {w : World} {base : Nat} {e : TypeId} {v : Value} {n : Nat} {xs : List Value} (h : w.ownsRow base e 1 v n xs) (hn : n ≠ 0) : ∃ g cap cur, v = .slice (some ⟨g, 0, none⟩) n cap ∧ base ≤ g ∧ n ≤ cap ∧ cap ≤ maxLen ∧ Blk w g cur ∧ cur.size = cap ∧ (∀ j, j < n → cur[j]? = xs[j]?) := by
  rcases h.2 with ⟨_, h0⟩ | ⟨g, cap, cur, rfl, hb, hg, h1, h2, h3, h4⟩
  · exact absurd h0 hn
  · refine ⟨g, cap, cur, rfl, hb, h1, h2, ⟨(h.lt g rfl).2, fun o => by simp [World.cell?, hg], fun o => by simp [World.frozen?, hg]⟩, by simpa using h3, fun j hj => ?_⟩
    rw [← h4, List.getElem?_take_of_lt (by omega)]
    simp
/-- A store into an owned row. -/
theorem own_set {w : World} {base g cap : Nat} {e : TypeId} {n : Nat} {xs : List Value} (h : w.ownsRow base e 1 (.slice (some ⟨g, 0, none⟩) n cap) n xs) (j : Nat) (v : Value) : (w.setCell ⟨g, j, none⟩ v).ownsRow base e 1 (.slice (some ⟨g, 0, none⟩) n cap) n (xs.set j v) := by
  refine ⟨by rw [List.length_set]; exact h.1, .inr ?_⟩
  rcases h.2 with ⟨hv, _⟩ | ⟨g', cap', cur, hv, hb, hg, h1, h2, h3, h4⟩
  · cases hv
  · cases hv
    refine ⟨g, cap, cur.setIfInBounds j v, rfl, hb, Lib.heap_setCell_same hg v, h1, h2, by simpa using h3, ?_⟩
    rw [Array.toList_setIfInBounds, ← h4, List.take_set]
end Go.Proofs.Ytcklmemnjchdcaa

/-
  Octets: rows of them, numbers as octets, the lowest first.
-/



namespace Go.Proofs.Ytcklmemnjchdcaa
open Go.RowKit
set_option linter.unusedVariables false

/-- Octets lie there, or there are none. -/
def Octs (w : World) (a : Option Addr) (l : List UInt8) : Prop :=
  l = [] ∨ ∃ b o, a = some ⟨b, o, none⟩ ∧ b < w.heap.size ∧ ∀ i (h : i < l.length), w.cell? ⟨b, o + i, none⟩ = some (.int .u8 (l[i].toNat : Int))

theorem Octs.nil (w : World) (a : Option Addr) : Octs w a [] := .inl rfl
theorem Octs.more {w w' : World} {a : Option Addr} {l : List UInt8} (h : Octs w a l) (hb : Below w.heap.size w w') : Octs w' a l :=
  h.imp id fun ⟨b, o, e, lt, hc⟩ => ⟨b, o, e, Nat.lt_of_lt_of_le lt hb.size, fun i hi => (hb.cell (p := ⟨b, _, none⟩) lt).trans (hc i hi)⟩
theorem Octs.sole {S : Nat → Prop} {w w' : World} {a : Option Addr} {l : List UInt8} (h : Octs w a l) (hs : Sole S w w') (hn : ∀ b o, a = some ⟨b, o, none⟩ → l ≠ [] → ¬ S b) : Octs w' a l := by
  by_cases h0 : l = []
  · exact .inl h0
  · obtain ⟨b, o, e, lt, hc⟩ := h.resolve_left h0
    exact .inr ⟨b, o, e, Nat.lt_of_lt_of_le lt hs.size, fun i hi => (hs.cell lt (hn b o e h0)).trans (hc i hi)⟩
theorem Octs.take {w : World} {a : Option Addr} {l : List UInt8} (h : Octs w a l) (k : Nat) : Octs w a (l.take k) := by
  by_cases h0 : l.take k = []
  · exact .inl h0
  · refine .inr ?_
    rcases h with rfl | ⟨b, o, e, lt, hc⟩
    · simp at h0
    · refine ⟨b, o, e, lt, fun i hi => ?_⟩
      rw [List.length_take] at hi
      rw [hc i (by omega), List.getElem_take]
theorem Octs.drop {w : World} {b o : Nat} {l : List UInt8} (h : Octs w (some ⟨b, o, none⟩) l) (k : Nat) : Octs w (some ⟨b, o + k, none⟩) (l.drop k) := by
  by_cases h0 : l.drop k = []
  · exact .inl h0
  · refine .inr ?_
    rcases h with rfl | ⟨b', o', e, lt, hc⟩
    · simp at h0
    · cases e
      refine ⟨b, o + k, rfl, lt, fun i hi => ?_⟩
      rw [List.length_drop] at hi
      rw [Nat.add_assoc, hc (k + i) (by omega), List.getElem_drop]
theorem Octs.row {w : World} {a : Option Addr} {l : List UInt8} (h : Octs w a l) (hn : l ≠ []) : ∃ b o, a = some ⟨b, o, none⟩ ∧ b < w.heap.size ∧ ∀ i (h : i < l.length), w.cell? ⟨b, o + i, none⟩ = some (.int .u8 (l[i].toNat : Int)) := h.resolve_left hn
theorem Octs.of_own {w : World} {base : Nat} {e : TypeId} {a : Option Addr} {cap : Nat} {l : List UInt8} (h : w.ownsRow base e 1 (.slice a l.length cap) l.length (Lib.byteCells l)) : Octs w a l := by
  by_cases h0 : l.length = 0
  · exact .inl (List.eq_nil_of_length_eq_zero h0)
  · obtain ⟨g, cap', cur, ha, _, _, _, B, _, hc⟩ := own_blk h h0
    cases ha
    refine .inr ⟨g, 0, rfl, B.lt, fun i hi => ?_⟩
    rw [Nat.zero_add, B.cell, hc i hi]
    simp [Lib.byteCells, hi]

/-- Their text. -/
abbrev textOf (l : List UInt8) : ByteArray := ⟨l.toArray⟩
theorem Octs.bytes {w : World} {b o : Nat} {l : List UInt8} (h : Octs w (some ⟨b, o, none⟩) l) : Lib.Bytes w b o (textOf l) := by
  intro i hi
  rcases h with rfl | ⟨b', o', e, lt, hc⟩
  · exact absurd hi (Nat.not_lt_zero _)
  · cases e
    have hi' : i < l.length := by simpa [ByteArray.size] using hi
    rw [hc i hi']
    congr 2
theorem Octs.text {P : Program} {w : World} {a : Option Addr} {l : List UInt8} (h : Octs w a l) (src e dst : TypeId) (cap : Nat) (hs : P.underlying src = some (.slice e)) (he : P.underlying e = some (.int .u8)) (hd : P.underlying dst = some .string)
    (ha : ∀ x, a = some x → x.spot = none) : (convert src dst (.slice a l.length cap)).run P w = .ok (.string (textOf l)) w := by
  rcases a with _ | ⟨b, o, sp⟩
  · rcases h with rfl | ⟨b', o', e, _⟩
    · exact Lib.run_convert_nil_bytes w src dst e cap hs he hd
    · cases e
  · have hsp := ha _ rfl
    simp only at hsp
    subst hsp
    have := Lib.run_convert_whole (P := P) w src e dst hs he hd b o (textOf l) h.bytes cap
    rwa [show (textOf l).size = l.length from by simp [ByteArray.size]] at this
/-- A number in so many octets, the lowest first; and back. -/
def leB (n : Nat) : Nat → List UInt8
  | 0 => []
  | s + 1 => UInt8.ofNat n :: leB (n / 256) s
def numOf : List UInt8 → Nat
  | [] => 0
  | b :: l => b.toNat + 256 * numOf l

theorem leB_length : ∀ (s n : Nat), (leB n s).length = s
  | 0, _ => rfl
  | s + 1, n => by simp [leB, leB_length s]
theorem leB_snoc : ∀ (s n : Nat), leB n (s + 1) = leB n s ++ [UInt8.ofNat (n / 256 ^ s)]
  | 0, n => by simp [leB]
  | s + 1, n => by
    rw [show leB n (s + 1 + 1) = UInt8.ofNat n :: leB (n / 256) (s + 1) from rfl, leB_snoc s (n / 256), Nat.div_div_eq_div_mul, ← Nat.pow_succ']
    rfl
theorem numOf_leB : ∀ (s n : Nat), numOf (leB n s) = n % 256 ^ s
  | 0, n => by simp [leB, numOf, Nat.mod_one]
  | s + 1, n => by
    simp only [leB, numOf, numOf_leB s]
    rw [Nat.pow_succ', Nat.mod_mul]
    simp
theorem numOf_lt : ∀ l : List UInt8, numOf l < 256 ^ l.length
  | [] => by simp [numOf]
  | b :: l => by
    have h := numOf_lt l
    have hb : b.toNat < 256 := b.toNat_lt
    simp only [numOf, List.length_cons, Nat.pow_succ']
    omega
theorem numOf_append : ∀ (l m : List UInt8), numOf (l ++ m) = numOf l + 256 ^ l.length * numOf m
  | [], m => by simp [numOf]
  | b :: l, m => by
    simp only [List.cons_append, numOf, numOf_append l m, List.length_cons, Nat.pow_succ']
    rw [Nat.mul_add, Nat.mul_assoc]; omega
theorem leB_numOf : ∀ l : List UInt8, leB (numOf l) l.length = l
  | [] => rfl
  | b :: l => by
    have hb : b.toNat < 256 := b.toNat_lt
    simp only [numOf, List.length_cons, leB]
    rw [show (b.toNat + 256 * numOf l) / 256 = numOf l by omega, leB_numOf l]
    congr 1
    apply UInt8.toNat_inj.1
    simp
theorem byte_ofNat (n : Nat) : ((UInt8.ofNat n).toNat : Int) = (n : Int) % 256 := by
  rw [show (UInt8.ofNat n).toNat = n % 256 by simp]
  omega
end Go.Proofs.Ytcklmemnjchdcaa

/-
  append(s, make([]byte, m)...) at a row of the call's own: its octets, and m zeros.
-/




namespace Go.Proofs.Ytcklmemnjchdcaa
open Go.RowKit
set_option linter.unusedVariables false
set_option linter.unusedSimpArgs false

theorem u8Info : (Try.prog.info? 5).map (fun i => (i.zero, i.size, i.bytes)) = some (some (.int .u8 0), 1, 1) := by kernel_rfl

theorem zeros_list (m : Nat) : (Builtin.zeroCells #[.int .u8 0] m).toList = List.replicate m (.int .u8 0) := by
  apply List.ext_getElem?
  intro j
  by_cases h : j < m
  · have : j < (Builtin.zeroCells #[Value.int .u8 0] m).toList.length := by simp [size_zeroCells, h]
    rw [List.getElem?_eq_getElem this, List.getElem?_replicate, if_pos h]
    simp [Builtin.zeroCells, Nat.mod_one]
  · rw [List.getElem?_eq_none (by simp [size_zeroCells]; omega), List.getElem?_eq_none (by simp; omega)]

theorem append_zeros_own (base : Nat) (ty : TypeId) (w : World) (v : Value) (n : Nat) (xs : List Value) (hown : w.ownsRow base 5 1 v n xs) (m : Nat) (hm : n + m ≤ 1000000) (hbase : base ≤ w.heap.size) :
    ∃ v' w', (Builtin.append_ #[51, 3] ty #[v, .int .i64 m]).run Try.prog w = .ok v' w' ∧ w'.ownsRow base 5 1 v' (n + m) (xs ++ List.replicate m (.int .u8 0)) ∧ w.grownBy w' v.ownBlock ∧ (v'.ownBlock = v.ownBlock ∨ ∃ g, v'.ownBlock = some g ∧ w.heap.size ≤ g) := by
  obtain ⟨i, hi, hz, hs, hby⟩ := info_parts u8Info
  have ht := Try.underlying51
  have htn := Try.underlying3
  have hx := hown.1
  have hlen : (xs ++ List.replicate m (Value.int .u8 0)).length = (n + m) * 1 := by simp; omega
  have hwm : IntKind.i64.wrap (m : Int) = m := by rw [IntKind.wrap_i64]; omega
  have hneg : ¬ ((m : Int) < 0) := by omega
  have h48i : ¬ (281474976710656 < (m : Int)) := by omega
  have grown : ∀ (old : Nat), old < n + m → ∀ (row : Option Nat),
      (w.drew.alloc (.cells (xs.toArray ++ Builtin.zeroCells #[.int .u8 0] m ++ Builtin.zeroCells #[.int .u8 0] (grownCap w (n + m) old 5 - (n + m))) 5)).ownsRow base 5 1
        (.slice (some ⟨w.heap.size, 0, none⟩) (n + m) (grownCap w (n + m) old 5)) (n + m) (xs ++ List.replicate m (.int .u8 0)) ∧
      w.grownBy (w.drew.alloc (.cells (xs.toArray ++ Builtin.zeroCells #[.int .u8 0] m ++ Builtin.zeroCells #[.int .u8 0] (grownCap w (n + m) old 5 - (n + m))) 5)) row := by
    intro old ho row
    have hge := grownCap_ge w (n + m) old 5
    have hcm : grownCap w (n + m) old 5 ≤ maxLen := grownCap_le_maxLen w (n + m) old 5 (by unfold maxLen; omega)
    refine ⟨⟨hlen, .inr ⟨w.heap.size, _, _, rfl, hbase, heap_alloc_new w.drew _, hge, hcm, ?_, ?_⟩⟩, ⟨rfl, rfl, rfl, by simp, fun k hk _ => heap_alloc_old w.drew _ hk⟩⟩
    · simp only [Array.size_append, List.size_toArray, size_zeroCells, hx]
      simp
      omega
    · simp only [Array.toList_append, List.append_assoc, zeros_list]
      rw [← List.append_assoc, ← hlen]
      exact List.take_left
  by_cases h0 : m = 0
  · subst h0
    have w0 : IntKind.i64.wrap 0 = 0 := rfl
    refine ⟨v, w, ?_, by simpa using hown, ⟨rfl, rfl, rfl, Nat.le_refl _, fun _ _ _ => rfl⟩, .inl rfl⟩
    rcases hown.2 with ⟨rfl, rfl⟩ | ⟨g, cap, cur, rfl, hbg, hg, hnc, hcm, hcs, htake⟩
    · simp [Builtin.append_, run_underlying ht, run_underlying htn, sizeOf, typeInfo, hi, hs, hby, asInt, asIntOf, w0, storeCells]
    · simp [Builtin.append_, run_underlying ht, run_underlying htn, sizeOf, typeInfo, hi, hs, hby, asInt, asIntOf, hnc, w0, storeCells]
  · rcases hown.2 with ⟨rfl, rfl⟩ | ⟨g, cap, cur, rfl, hbg, hg, hnc, hcm, hcs, htake⟩
    · have hx0 : xs = [] := List.eq_nil_of_length_eq_zero (by simpa using hx)
      subst hx0
      have hr := Lib.run_append_nil_zeros (P := Try.prog) w 51 3 ty 5 i (.int .u8 0) .i64 .i64 ht htn hi hz m (by omega) (by omega) (by omega) (by rw [hby]; omega)
      have hgr := grown 0 (by omega) (Value.ownBlock (.slice none 0 0))
      simp only [Nat.zero_add, List.nil_append, Array.empty_append] at hgr ⊢
      exact ⟨_, _, hr, hgr.1, hgr.2, .inr ⟨_, rfl, Nat.le_refl _⟩⟩
    · by_cases hroom : n + m ≤ cap
      · have hst := run_storeCells_at Try.prog g n 5 (List.replicate m (.int .u8 0)) 0 cur w hg (by simp; omega) (fun u hu => by rw [List.eq_of_mem_replicate hu]; rfl)
        simp only [Nat.add_zero] at hst
        refine ⟨.slice (some ⟨g, 0, none⟩) (n + m) cap, w.setRow g (cur.toList.take n ++ List.replicate m (Value.int .u8 0) ++ cur.toList.drop (n + (List.replicate m (Value.int .u8 0)).length)).toArray, ?_, ⟨hlen, .inr ⟨g, cap, _, rfl, hbg, setRow_heap w g cur _ 5 _ hg, hroom, hcm, ?_, ?_⟩⟩, ⟨rfl, rfl, rfl, by simp, fun k _ hk => setRow_other w g k _ (fun e => hk (by simp [Value.ownBlock, e]))⟩, .inl rfl⟩
        · have zl : (Builtin.zeroCells (Value.int .u8 0).cells m).toList = List.replicate m (Value.int .u8 0) := zeros_list m
          simp [Builtin.append_, run_underlying ht, run_underlying htn, sizeOf, typeInfo, zeroValue, hi, hz, hs, hby, asInt, asIntOf, hwm, hneg, h48i, h0, hroom, zl, Addr.add_lit, hst]
        · simp only [List.size_toArray, List.length_append, List.length_take, List.length_drop, Array.length_toList, List.length_replicate]
          omega
        · rw [show cur.toList.take n = xs by rw [← htake, Nat.mul_one], ← hlen]
          exact List.take_left
      · have holds : ∀ j u, xs[j]? = some u → w.cell? ((⟨g, 0, none⟩ : Addr).add j) = some u := hown.cells (g := g) rfl
        have hold := run_firstCells_some (P := Try.prog) w.drew i.size n ⟨g, 0, none⟩ n cap xs (by rw [hs]; exact hx) holds
        have hr := Lib.run_append_grow_zeros (P := Try.prog) w 51 3 ty 5 i (.int .u8 0) .i64 .i64 ht htn hi hz (some ⟨g, 0, none⟩) n cap xs hold m (by omega) (by omega) (by omega) (by omega) (by rw [hby]; omega) (growslice_fits (by omega) (by rw [hby]; omega))
        have hgr := grown cap (by omega) (Value.ownBlock (.slice (some ⟨g, 0, none⟩) n cap))
        exact ⟨_, _, hr, hgr.1, hgr.2, .inr ⟨_, rfl, Nat.le_refl _⟩⟩
end Go.Proofs.Ytcklmemnjchdcaa

/-
  append(s, t...) of octets: s a row of the call's own, t any octets; where the new row lies.
-/


namespace Go.Proofs.Ytcklmemnjchdcaa
open Go.RowKit
set_option linter.unusedVariables false
set_option linter.unusedSimpArgs false

/-- The row is where it was, or new. -/
def Moved (w : World) (v v' : Value) : Prop := v'.ownBlock = v.ownBlock ∨ ∃ g, v'.ownBlock = some g ∧ w.heap.size ≤ g

theorem Moved.refl (w : World) (v : Value) : Moved w v v := .inl rfl
theorem Moved.trans {w w1 : World} {v v1 v2 : Value} (h : Moved w v v1) (k : Moved w1 v1 v2) (hs : w.heap.size ≤ w1.heap.size) : Moved w v v2 := by
  rcases k with k | ⟨g, k, hg⟩
  · rcases h with h | ⟨g, h, hg⟩
    · exact .inl (k.trans h)
    · exact .inr ⟨g, k.trans h, hg⟩
  · exact .inr ⟨g, k, by omega⟩

theorem append_octs (base : Nat) (ty : TypeId) (w : World) (v : Value) (n : Nat) (xs : List Value) (hown : w.ownsRow base 5 1 v n xs) (a : Option Addr) (c : Nat) (l : List UInt8) (hl : Octs w a l) (hn : n + l.length ≤ 140737488355328) (hbase : base ≤ w.heap.size) :
    ∃ v' w', (Builtin.append_ #[51, 51] ty #[v, .slice a l.length c]).run Try.prog w = .ok v' w' ∧ w'.ownsRow base 5 1 v' (n + l.length) (xs ++ Lib.byteCells l) ∧ w.grownBy w' v.ownBlock ∧ Moved w v v' := by
  obtain ⟨i, hi, hz, hs, hby⟩ := info_parts u8Info
  have ht := Try.underlying51
  by_cases h0 : l = []
  · subst h0
    refine ⟨v, w, ?_, by simpa [Lib.byteCells] using hown, ⟨rfl, rfl, rfl, Nat.le_refl _, fun _ _ _ => rfl⟩, .inl rfl⟩
    rcases hown.2 with ⟨rfl, rfl⟩ | ⟨g, cap, cur, rfl, hbg, hg, hnc, hcm, hcs, htake⟩
    · cases a <;> simp [Builtin.append_, run_underlying ht, sizeOf, typeInfo, hi, hs, Builtin.lenOf, Builtin.firstCells, loadCells, loadCellsFrom, storeCells]
    · cases a <;> simp [Builtin.append_, run_underlying ht, sizeOf, typeInfo, hi, hs, Builtin.lenOf, Builtin.firstCells, loadCells, loadCellsFrom, storeCells, hnc]
  · obtain ⟨b, o, rfl, lt, hc⟩ := hl.row h0
    have hp : 0 < l.length := List.length_pos_iff.2 h0
    have hnews : ∀ j u, (Lib.byteCells l)[j]? = some u → w.cell? ((⟨b, o, none⟩ : Addr).add j) = some u := by
      intro j u hu
      have hj : j < l.length := by
        have := (List.getElem?_eq_some_iff.1 hu).1
        rwa [Lib.byteCells_length] at this
      have e : (⟨b, o, none⟩ : Addr).add j = ⟨b, o + j, none⟩ := by
        unfold Addr.add
        split
        · subst j; rfl
        · rfl
      rw [e, hc j hj, ← hu]
      simp [Lib.byteCells, hj]
    have hlen : (Lib.byteCells l).length = l.length * 1 := by rw [Lib.byteCells_length, Nat.mul_one]
    obtain ⟨v', w', hr, O, G, N⟩ := run_append_own (P := Try.prog) w base 51 ty 5 i (.int .u8 0) 1 1 ht hi hz hs hby rfl (by omega) v n xs hown ⟨b, o, none⟩ l.length c (Lib.byteCells l) hlen hnews (Lib.byteCells_one l) (by unfold maxLen; omega) (by omega) hbase
    refine ⟨v', w', hr, O, G, ?_⟩
    rcases hown.2 with ⟨rfl, rfl⟩ | ⟨g, cap, cur, rfl, hbg, hg, hnc, hcm, hcs, htake⟩
    · have hx0 : xs = [] := List.eq_nil_of_length_eq_zero (by simpa using hown.1)
      have h2 := run_append_nil (P := Try.prog) w 51 ty 5 i (.int .u8 0) ht hi hz ⟨b, o, none⟩ l.length c (Lib.byteCells l) (by rw [hs]; exact hlen) hnews hp (by omega) (by rw [hby]; omega)
      rw [h2] at hr
      cases hr
      exact .inr ⟨_, rfl, Nat.le_refl _⟩
    · by_cases hroom : n + l.length ≤ cap
      · have h2 := run_append_room (P := Try.prog) w 51 ty 5 i ht hi g n cap cur hg ⟨b, o, none⟩ l.length c (Lib.byteCells l) (by rw [hs]; exact hlen) hnews (Lib.byteCells_one l) hroom (by rw [hs, hlen, hcs]; omega)
        rw [h2] at hr
        cases hr
        exact .inl rfl
      · have h2 := run_append_grow (P := Try.prog) w 51 ty 5 i (.int .u8 0) ht hi hz ⟨g, 0, none⟩ n cap xs (by rw [hs]; exact hown.1) (hown.cells (g := g) rfl) ⟨b, o, none⟩ l.length c (Lib.byteCells l) (by rw [hs]; exact hlen) hnews (by omega) (by omega) (growslice_fits (by omega) (by rw [hby]; omega))
        rw [h2] at hr
        cases hr
        exact .inr ⟨_, rfl, Nat.le_refl _⟩

/-- The same of zeros. -/
theorem append_zeros_new (base : Nat) (ty : TypeId) (w : World) (v : Value) (n : Nat) (xs : List Value) (hown : w.ownsRow base 5 1 v n xs) (m : Nat) (hm : n + m ≤ 1000000) (hbase : base ≤ w.heap.size) :
    ∃ v' w', (Builtin.append_ #[51, 3] ty #[v, .int .i64 m]).run Try.prog w = .ok v' w' ∧ w'.ownsRow base 5 1 v' (n + m) (xs ++ List.replicate m (.int .u8 0)) ∧ w.grownBy w' v.ownBlock ∧ Moved w v v' := by
  obtain ⟨v', w', hr, O, G, N⟩ := append_zeros_own base ty w v n xs hown m hm hbase
  exact ⟨v', w', hr, O, G, N⟩
/-- The value of a slice of the call's own: these octets. -/
def Fresh (w w' : World) (v : Value) (l : List UInt8) : Prop := ∃ a cap, v = .slice a l.length cap ∧ w'.ownsRow w.heap.size 5 1 (.slice a l.length cap) l.length (Lib.byteCells l) ∧ Below w.heap.size w w'

/-- The text of octets, wherever. -/
theorem conv_octs {w : World} {a : Option Addr} {l : List UInt8} (h : Octs w a l) (cap : Nat) : (convert 51 9 (.slice a l.length cap)).run Try.prog w = .ok (.string (textOf l)) w := by
  by_cases h0 : l = []
  · subst h0
    rw [List.length_nil, run_convert_bytes_string (P := Try.prog) w _ _ _ a 0 cap Try.underlying51 Try.underlying5 Try.underlying9]
    rcases a with _ | x
    · simp [Conv.bytesToString]; rfl
    · simp [Conv.bytesToString]; rfl
  · obtain ⟨b, o, rfl, _, _⟩ := h.row h0
    exact h.text _ _ _ cap Try.underlying51 Try.underlying5 Try.underlying9 (fun x hx => by cases hx; rfl)

end Go.Proofs.Ytcklmemnjchdcaa

/-
  slices.Clone of octets.
-/



namespace Go.Proofs.Ytcklmemnjchdcaa
open Go.RowKit
set_option linter.unusedVariables false
set_option linter.unusedSimpArgs false

set_option maxRecDepth 100000 in
set_option maxHeartbeats 2000000 in
theorem clone_any (l : List UInt8) (a : Option Addr) (cap : Nat) (w : World) (O : Octs w a l) (hl : l.length ≤ 140737488355328) :
    Calls Try.prog 73 #[.slice a l.length cap] w fun e w' => ∃ v, e = .returned v ∧ Fresh w w' v l := by
  rcases a with _ | x
  · obtain rfl : l = [] := by
      rcases O with h | ⟨b, o, e, _⟩
      · exact h
      · cases e
    have ke := fun w => Lib.run_eql_slice_nil_nil (P := Try.prog) w (t := 51) (e := 5) 0 cap Try.underlying51
    go_enter Try.func73, Try.ntmps73
    go_wp2_with fail
    go_ret
    exact ⟨_, rfl, none, 0, rfl, World.ownsRow_nil _ _ _ _, Below.refl _ _⟩
  · have ke := fun w => Lib.run_eql_slice_some_nil (P := Try.prog) w (t := 51) (e := 5) x l.length cap Try.underlying51
    have OM := World.ownsRow_made (size := 1) (e := 5) (base := w.heap.size) w #[] 0 (Nat.le_refl _) (Nat.zero_le _) rfl
    have hb0 : Below w.heap.size w (w.alloc (.cells #[] 5)) := Below.alloc (Below.refl _ _) (Nat.le_refl _) _
    obtain ⟨v', w', hr, O', gr, mv⟩ := append_octs w.heap.size 51 (w.alloc (.cells #[] 5)) _ 0 [] OM (some x) cap l (O.more hb0) (by omega) (by simp)
    have E : Hid (Fresh w w' v' l) := hid (by
      rw [Nat.zero_add, List.nil_append] at O'
      have hb := Below.grown hb0 gr (by simp) fun k hk => (OM.lt k hk).1
      rcases O'.2 with ⟨hv, hn⟩ | ⟨g, cap', cur, hv, _⟩
      · exact ⟨none, 0, by rw [hn]; exact hv, by rw [hn] at O' ⊢; exact hv ▸ O', hb⟩
      · exact ⟨some ⟨g, 0, none⟩, cap', hv, hv ▸ O', hb⟩)
    clear O OM hb0 O' gr mv
    replace hl := hid hl
    go_enter Try.func73, Try.ntmps73
    go_wp2_with (at_builtin; refine Lib.wpList_append_run _ rfl _ _ _ _ rfl _ _ rfl rfl _ _ hr ?_)
    go_ret
    exact ⟨_, rfl, E.out⟩
end Go.Proofs.Ytcklmemnjchdcaa

/-
  From a walk to its row: a law that answers true, and writes nothing that was there.
-/








namespace Go.Proofs.Ytcklmemnjchdcaa
open Go.ChangeShapes Go.WideShapes Go.ChangeAt Go.RowKit
set_option linter.unusedVariables false

theorem own : ownKnob Try.prog.godebug = none := by kernel_rfl
theorem laidOut : laidOutB Try.prog = true := by kernel_rfl

section
variable {H : Type} {enc : TypeId × Value → H} {P : Program}

theorem trodAll_below {W W' : World} (hl : laidOutB P = true) (hb : Below W.heap.size W W') : ∀ {ts : List TypeId} {vs : List Value} {ds : List (DataW H)} {ps : List MemPlace},
    (ts.all fun t => P.readableRec t && decide (t < P.types.size)) = true → DataW.TrodAll enc P W 0 (fun _ => true) true ts vs ds ps → DataW.TrodAll enc P W' 0 (fun b => decide (b < W.heap.size)) true ts vs ds ps
  | [], [], [], ps, _, h => h
  | t :: ts, v :: vs, d :: ds, ps, ht, h => by
    obtain ⟨p, q, hp, hq, rfl⟩ := h
    simp only [List.all_cons, Bool.and_eq_true, decide_eq_true_eq] at ht
    have lt : ∀ x ∈ p, x.block < W.heap.size := by obtain ⟨m, hm⟩ := hp; exact DataW.trod_lt m _ _ _ hm
    exact ⟨p, q, Below.trod hl ht.1.1 ht.1.2 hp hb lt, trodAll_below hl hb (by simp only [List.all_eq_true, Bool.and_eq_true, decide_eq_true_eq]; simpa using ht.2) hq, rfl⟩
  | [], _ :: _, _, _, _, h => by simp [DataW.TrodAll] at h
  | [], [], _ :: _, _, _, h => by simp [DataW.TrodAll] at h
  | _ :: _, [], _, _, _, h => by simp [DataW.TrodAll] at h
  | _ :: _, _ :: _, [], _, _, h => by simp [DataW.TrodAll] at h

theorem trodAll_length {w : World} {base : Nat} {spare : Nat → Bool} {held : Bool} : ∀ {ts : List TypeId} {vs : List Value} {ds : List (DataW H)} {ps : List MemPlace}, DataW.TrodAll enc P w base spare held ts vs ds ps → ds.length = ts.length
  | [], [], [], _, _ => rfl
  | t :: ts, v :: vs, d :: ds, ps, h => by
    obtain ⟨p, q, hp, hq, rfl⟩ := h
    simp [trodAll_length hq]
  | [], _ :: _, _, _, h => by simp [DataW.TrodAll] at h
  | [], [], _ :: _, _, h => by simp [DataW.TrodAll] at h
  | _ :: _, [], _, _, h => by simp [DataW.TrodAll] at h
  | _ :: _, _ :: _, [], _, h => by simp [DataW.TrodAll] at h
end

/-- The row's step, of any law. -/
theorem lift {C : Checked} {f : FuncId} {fn : Func} {s : ChangeSpec} {tb : TypeId} (hown : ownKnob C.prog.godebug = none) (noInit : C.prog.inits.idxOf? f = none) (hfn : C.prog.funcs[f]? = some fn)
    (hl : laidOutB C.prog = true) (hvars : s.vars = []) (hres : fn.resultTypes = #[tb]) (htb : C.prog.underlying tb = some .bool)
    (hts : (fn.params.toList.all fun t => C.prog.readableRec t && decide (t < C.prog.types.size)) = true)
    (hs : ∀ (H : Type) (ds : List (DataW H)), ds.length = fn.params.toList.length → s.fn H (ds ++ []) = { results := [.lit (.bool true)], args := ds })
    (os : Os) (started : os.Started) (H : Type) (enc : TypeId × Value → H)
    (witness : ∃ (w : World) (tape : Tape) (i : Input), w.os = os ∧ (w.forCall tape i).Shaped C.prog ∧ i.vars = [] ∧ Input.okWide C.prog (w.forCall tape i) .any w.heap.size f i ∧
      s.pre6 enc C.prog fn [] false (w.forCall tape i).memory i.args ∧ ({} : Assume).holds C.prog (lone (Frame.enter C.prog f i.args .normal) [] (w.forCall tape i)))
    (walk : ∀ (W : World) (base : Nat) (args : Array Value) (ds : List (DataW H)) (ps : List MemPlace),
      (∀ (j : Nat) t v, fn.params[j]? = some t → args[j]? = some v → Value.okWide C.prog W .any base t v) →
      DataW.TrodAll enc C.prog W 0 (fun _ => true) true fn.params.toList args.toList ds ps →
      Calls C.prog f args W fun e W' => e = .returned (.bool true) ∧ Below W.heap.size W W') :
    ReturnsInHanded {} C os f .any (s.pre6 enc C.prog fn [] false) (s.post enc C.prog fn false true false false) := by
  refine returnsInHanded_of_change (C := C) hown started noInit hfn witness ?_
  intro W base args ds gs before hval hW _ _
  have hW' := hW
  obtain ⟨p, q, hA, hV, rfl, hfz, hnd⟩ := hW
  rw [hvars] at hV
  obtain ⟨rfl, rfl⟩ := trodVars_none hV
  refine (walk W base args ds p hval hA).mono fun e W' ⟨he, hb⟩ => ?_
  subst he
  have hfnv := hs H ds (trodAll_length hA)
  refine ⟨_, rfl, ds, [], p ++ [], [], p, [], hW', ?_, ?_, ?_, hb.frame _, fun h => by cases h⟩
  · rw [hfnv, hres]
    exact trodAll_mk1 (shut_bool htb true)
  · rw [hfnv]
    exact trodAll_below hl hb hts hA
  · rw [hfnv, hvars]
    exact rfl
end Go.Proofs.Ytcklmemnjchdcaa

/-
  What an argument that comes in is: numbers, and structs of numbers.
-/


namespace Go.Proofs.Ytcklmemnjchdcaa
open Go.ChangeShapes Go.WideShapes Go.ChangeAt Go.RowKit Go.Joins Go.Deep
set_option linter.unusedVariables false

section
variable {H : Type} {enc : TypeId × Value → H} {P : Program} {w : World} {base : Nat} {spare : Nat → Bool} {held : Bool}

/-- One parameter off the list. -/
theorem args_cons {t : TypeId} {ts : List TypeId} {vs : List Value} {ds : List (DataW H)} {ps : List MemPlace} (h : DataW.TrodAll enc P w base spare held (t :: ts) vs ds ps) :
    ∃ v vs' d ds' p q, vs = v :: vs' ∧ DataW.Trod enc P w base spare held t v d p ∧ DataW.TrodAll enc P w base spare held ts vs' ds' q := by
  obtain ⟨v, vs', d, ds', p, q, h1, _, _, h2, h3⟩ := trodAll_cons h
  exact ⟨v, vs', d, ds', p, q, h1, h2, h3⟩

end
end Go.Proofs.Ytcklmemnjchdcaa

/-
  A slice as it comes in: a row of elements of so many cells each.
-/






namespace Go.Proofs.Ytcklmemnjchdcaa
open Go.ChangeShapes Go.WideShapes Go.ChangeAt Go.RowKit Go.Joins Go.Deep
set_option linter.unusedVariables false

/-- From block b's place o on lie n elements of sz cells each: f i are the i-th one's. -/
structure Row (w : World) (b o sz n : Nat) (f : Nat → List Value) : Prop where
  lt : b < w.heap.size
  cell : ∀ i, i < n → ∀ j v, (f i)[j]? = some v → w.cell? ⟨b, o + i * sz + j, none⟩ = some v

theorem Row.more {w w' : World} {b o sz n : Nat} {f : Nat → List Value} (h : Row w b o sz n f) (hb : Below w.heap.size w w') : Row w' b o sz n f :=
  ⟨Nat.lt_of_lt_of_le h.lt hb.size, fun i hi j v hv => (hb.cell (p := ⟨b, _, none⟩) h.lt).trans (h.cell i hi j v hv)⟩
theorem Row.below {w w' : World} {B b o sz n : Nat} {f : Nat → List Value} (h : Row w b o sz n f) (hb : Below B w w') (hlt : b < B) : Row w' b o sz n f :=
  ⟨Nat.lt_of_lt_of_le h.lt hb.size, fun i hi j v hv => (hb.cell (p := ⟨b, _, none⟩) hlt).trans (h.cell i hi j v hv)⟩
theorem Row.at0 {w : World} {b o sz n : Nat} {f : Nat → List Value} (h : Row w b o sz n f) {i : Nat} (hi : i < n) {v : Value} (hv : (f i)[0]? = some v) : w.cell? ⟨b, o + i * sz, none⟩ = some v := h.cell i hi 0 v hv
theorem Row.at1 {w : World} {b o sz n : Nat} {f : Nat → List Value} (h : Row w b o sz n f) {i : Nat} (hi : i < n) {v : Value} (hv : (f i)[1]? = some v) : w.cell? ⟨b, o + i * sz + 1, none⟩ = some v := h.cell i hi 1 v hv
theorem Row.at2 {w : World} {b o sz n : Nat} {f : Nat → List Value} (h : Row w b o sz n f) {i : Nat} (hi : i < n) {v : Value} (hv : (f i)[2]? = some v) : w.cell? ⟨b, o + i * sz + 2, none⟩ = some v := h.cell i hi 2 v hv
theorem Row.at3 {w : World} {b o sz n : Nat} {f : Nat → List Value} (h : Row w b o sz n f) {i : Nat} (hi : i < n) {v : Value} (hv : (f i)[3]? = some v) : w.cell? ⟨b, o + i * sz + 3, none⟩ = some v := h.cell i hi 3 v hv
theorem Row.drop {w : World} {b o sz n : Nat} {f : Nat → List Value} (h : Row w b o sz n f) (k : Nat) : Row w b (o + k * sz) sz (n - k) (fun i => f (k + i)) :=
  ⟨h.lt, fun i hi j v hv => by
    have := h.cell (k + i) (by omega) j v hv
    rw [Nat.add_mul, ← Nat.add_assoc] at this
    exact this⟩
theorem Row.take {w : World} {b o sz n : Nat} {f : Nat → List Value} (h : Row w b o sz n f) {m : Nat} (hm : m ≤ n) : Row w b o sz m f :=
  ⟨h.lt, fun i hi j v hv => h.cell i (by omega) j v hv⟩

/-- A slice of n such elements. -/
def Sl (w : World) (sz : Nat) (v : Value) (n : Nat) (f : Nat → List Value) : Prop :=
  ∃ p cap, v = .slice p n cap ∧ n ≤ cap ∧ cap ≤ maxLen ∧ (n = 0 ∨ ∃ b o, p = some ⟨b, o, none⟩ ∧ Row w b o sz n f)

theorem Sl.more {w w' : World} {sz n : Nat} {v : Value} {f : Nat → List Value} (h : Sl w sz v n f) (hb : Below w.heap.size w w') : Sl w' sz v n f := by
  obtain ⟨p, cap, h1, h2, h3, h4⟩ := h
  exact ⟨p, cap, h1, h2, h3, h4.imp id fun ⟨b, o, e, r⟩ => ⟨b, o, e, r.more hb⟩⟩

/-- What the walk asks of a slice: it has nothing, or a row. -/
theorem Sl.ways {w : World} {sz n : Nat} {v : Value} {f : Nat → List Value} (h : Sl w sz v n f) :
    (n = 0 ∧ ∃ p cap, v = .slice p 0 cap ∧ cap ≤ maxLen) ∨ (1 ≤ n ∧ ∃ b o cap, v = .slice (some ⟨b, o, none⟩) n cap ∧ n ≤ cap ∧ cap ≤ maxLen ∧ Row w b o sz n f) := by
  obtain ⟨p, cap, h1, h2, h3, h4⟩ := h
  by_cases h0 : n = 0
  · subst h0; exact .inl ⟨rfl, p, cap, h1, h3⟩
  · obtain ⟨b, o, rfl, r⟩ := h4.resolve_left h0
    exact .inr ⟨by omega, b, o, cap, h1, h2, h3, r⟩

/-- The same of a slice's address: it has nothing, or it is there. -/
def RowP (w : World) (p : Option Addr) (sz n : Nat) (f : Nat → List Value) : Prop := n = 0 ∨ ∃ b o, p = some ⟨b, o, none⟩ ∧ Row w b o sz n f
theorem RowP.more {w w' : World} {p : Option Addr} {sz n : Nat} {f : Nat → List Value} (h : RowP w p sz n f) (hb : Below w.heap.size w w') : RowP w' p sz n f :=
  h.imp id fun ⟨b, o, e, r⟩ => ⟨b, o, e, r.more hb⟩
theorem RowP.row {w : World} {p : Option Addr} {sz n : Nat} {f : Nat → List Value} (h : RowP w p sz n f) (hn : n ≠ 0) : ∃ b o, p = some ⟨b, o, none⟩ ∧ Row w b o sz n f := h.resolve_left hn
theorem RowP.take {w : World} {p : Option Addr} {sz n m : Nat} {f : Nat → List Value} (h : RowP w p sz n f) (hm : m ≤ n) : RowP w p sz m f := by
  rcases h with h | ⟨b, o, e, r⟩
  · exact .inl (by omega)
  · exact .inr ⟨b, o, e, r.take hm⟩
theorem Sl.open {w : World} {sz n : Nat} {v : Value} {f : Nat → List Value} (h : Sl w sz v n f) : ∃ p cap, v = .slice p n cap ∧ n ≤ cap ∧ cap ≤ maxLen ∧ RowP w p sz n f := h

/-- A point. -/
structure Pt where
  id : Int
  x : Int
  y : Int
  d : ByteArray
def Pt.ok (p : Pt) : Prop := -9223372036854775808 ≤ p.id ∧ p.id ≤ 9223372036854775807 ∧ 0 ≤ p.x ∧ p.x ≤ 4294967295 ∧ 0 ≤ p.y ∧ p.y ≤ 4294967295 ∧ p.d.size ≤ maxLen
def pcells (p : Pt) : List Value := [.int .i64 p.id, .int .u32 p.x, .int .u32 p.y, .string p.d]
abbrev pval (p : Pt) : Value := .agg #[.int .i64 p.id, .int .u32 p.x, .int .u32 p.y, .string p.d]

section
variable {H : Type} {enc : TypeId × Value → H} {P : Program} {w : World} {base : Nat} {spare : Nat → Bool} {held : Bool}
theorem open_slice_fields {t e : TypeId} {fs : Array Field} {fuel : Nat} {cs : List Value} {x : DataW H × List MemPlace} (ht : P.underlying t = some (.slice e)) (he : P.underlying e = some (.struct fs))
    (hone : oneCellFields P fs = true) (hC : P.cellsOf e = fs.size) (h : DataW.trod enc P w base spare held fuel t cs = some x) :
    cs = [.slice none 0 0] ∨
    ∃ (a : Addr) (len cap m : Nat), cs = [.slice (some a) len cap] ∧ len ≤ cap ∧ cap ≤ maxLen ∧ m = (if spare a.block then cap else len) ∧
      ∀ i, i < m → ∀ (j : Nat) (f : Field), fs[j]? = some f → ∃ (v : Value) (n : Nat) (y : DataW H × List MemPlace), w.cell? (a.add (i * fs.size + j)) = some v ∧ DataW.trod enc P w base spare held n f.type [v] = some y := by
  rcases open_slice ht h with ⟨h0, _⟩ | ⟨a, len, cap, m, n, D, Pl, hcs, hb, hl, hm, hmm, hx, hi⟩
  · exact .inl h0
  · refine .inr ⟨a, len, cap, m, hcs, hl, hm, hmm, fun i him j f hj => ?_⟩
    obtain ⟨cs', hc, ht'⟩ := hi i him
    rw [hC] at hc
    obtain ⟨ys, n', hn', hy, hlen, hyl, hf⟩ := DataW.trod_struct he ht'
    obtain ⟨_, hcl, hat⟩ := World.cells?_some hc
    obtain ⟨ho, hk⟩ := hone_of hone j f hj
    have hjl : j < fs.size := (Array.getElem?_eq_some_iff.1 hj).1
    have hcell := hat j hjl
    have hv : cs'[j]? = some (cs'[j]'(by omega)) := List.getElem?_eq_getElem (by omega)
    have h1 := hf j f hj
    rw [ho, hk] at h1
    have hone' : (cs'.drop j).take 1 = [cs'[j]'(by omega)] := by
      rw [List.drop_eq_getElem_cons (by omega)]
      rfl
    rw [hone'] at h1
    have hys : ys[j]? = some (ys[j]'(by omega)) := List.getElem?_eq_getElem (by omega)
    refine ⟨_, n', _, ?_, h1.trans hys⟩
    rw [← Go.Deep.add_add, hcell, hv]

theorem cell_lt {a : Addr} {v : Value} (h : w.cell? a = some v) : a.block < w.heap.size := by
  unfold World.cell? at h
  by_cases hb : a.block < w.heap.size
  · exact hb
  · exfalso
    have : w.heap[a.block]? = none := by simp; omega
    rw [this] at h
    simp at h

end

end Go.Proofs.Ytcklmemnjchdcaa

/-
  Blocks whose cells are known as a whole: an array of many cells, by value.
-/


namespace Go.Proofs.Ytcklmemnjchdcaa
open Go.RowKit
set_option linter.unusedVariables false

theorem setAll_eq {b : Nat} : ∀ (vs : List Value) (o : Nat) (w : World), setAll w b o vs = w.setCells b o vs
  | [], _, _ => rfl
  | v :: vs, o, w => setAll_eq vs (o + 1) _

theorem fillC_get {vs : List Value} : ∀ (o : Nat) (c : Array Value) (j : Nat), o + vs.length ≤ c.size → (fillC c o vs)[j]? = if o ≤ j ∧ j < o + vs.length then vs[j - o]? else c[j]? := by
  induction vs with
  | nil => intro o c j h; simp only [fillC, List.length_nil]; rw [if_neg (by omega)]
  | cons v vs ih =>
    intro o c j h
    simp only [List.length_cons] at h
    show (fillC (c.setIfInBounds o v) (o + 1) vs)[j]? = _
    rw [ih (o + 1) _ j (by simp; omega)]
    by_cases h1 : o + 1 ≤ j ∧ j < o + 1 + vs.length
    · rw [if_pos h1, if_pos (by simp; omega), show j - o = (j - (o + 1)) + 1 by omega, List.getElem?_cons_succ]
    · rw [if_neg h1]
      by_cases h2 : j = o
      · subst h2
        have hj : j < c.size := by omega
        rw [if_pos (by simp), Nat.sub_self]
        simp [hj]
      · rw [if_neg (by simp; omega), Array.getElem?_setIfInBounds_ne (by omega)]
theorem fillC_whole {c d : Array Value} (h : d.size = c.size) : fillC c 0 d.toList = d := by
  apply Array.ext_getElem?
  intro j
  rw [fillC_get 0 c j (by simp; omega)]
  by_cases hj : j < d.size
  · rw [if_pos (by simp; omega)]; simp
  · rw [if_neg (by simp; omega)]
    rw [Array.getElem?_eq_none (by omega), Array.getElem?_eq_none (by omega)]

theorem Blk.whole {w : World} {b : Nat} {c d : Array Value} (h : Blk w b c) (hs : d.size = c.size) : Blk (w.setCells b 0 d.toList) b d := by
  have := Blk.fill d.toList 0 h (by simp; omega)
  rw [setAll_eq, fillC_whole hs] at this
  exact this
theorem Blk.beside {w : World} {b b' : Nat} {c : Array Value} (h : Blk w b c) (hne : b' ≠ b) (o : Nat) (vs : List Value) : Blk (w.setCells b' o vs) b c := by
  have := Blk.past hne vs o h
  rwa [setAll_eq] at this
theorem below_cells {B b : Nat} {w1 w : World} (h : Below B w1 w) (hB : B ≤ b) (o : Nat) (vs : List Value) : Below B w1 (w.setCells b o vs) := by
  have := below_fill hB vs o h
  rwa [setAll_eq] at this
theorem Blk.range {w : World} {b : Nat} {c : Array Value} (h : Blk w b c) : w.rangeAt b 0 c.toList := fun j v hv => by
  rw [Nat.zero_add, h.cell]; simpa using hv
theorem Blk.there {w : World} {b n : Nat} {c : Array Value} (h : Blk w b c) (hn : n = c.size) : w.there b 0 n := fun j hj => by
  rw [Nat.zero_add, h.cell]
  exact ⟨by simp; omega, h.frz j⟩

/-- The cells hold these numbers. -/
structure Nums (c : Array Value) (k : IntKind) (n : Nat) (f : Nat → Int) : Prop where
  size : c.size = n
  get : ∀ j, j < n → c[j]? = some (.int k (f j))

theorem Nums.set {c : Array Value} {k : IntKind} {n : Nat} {f : Nat → Int} (h : Nums c k n f) {i : Nat} {v : Int} {g : Nat → Int} (hi : i < n) (hg : ∀ j, j < n → g j = if j = i then v else f j) : Nums (c.setIfInBounds i (.int k v)) k n g :=
  ⟨by simp [h.size], fun j hj => by
    rw [hg j hj]
    by_cases e : j = i
    · subst e
      have hs : j < c.size := by rw [h.size]; exact hj
      rw [if_pos rfl]; simp [hs]
    · rw [if_neg e, Array.getElem?_setIfInBounds_ne (fun h => e h.symm)]; exact h.get j hj⟩
theorem Nums.congr {c : Array Value} {k : IntKind} {n : Nat} {f g : Nat → Int} (h : Nums c k n f) (hg : ∀ j, j < n → g j = f j) : Nums c k n g :=
  ⟨h.size, fun j hj => by rw [hg j hj]; exact h.get j hj⟩
theorem Nums.one {c : Array Value} {k : IntKind} {n : Nat} {f : Nat → Int} (h : Nums c k n f) : c.all (·.oneCell') = true := by
  rw [Array.all_eq_true]
  intro i hi
  have := h.get i (by rw [← h.size]; exact hi)
  rw [Array.getElem?_eq_getElem hi] at this
  rw [Option.some.inj this]
  rfl
theorem nums_eq {c d : Array Value} {k : IntKind} {n : Nat} {f : Nat → Int} (h : Nums c k n f) (h' : Nums d k n f) : c = d := by
  apply Array.ext_getElem?
  intro j
  by_cases hj : j < n
  · rw [h.get j hj, h'.get j hj]
  · rw [Array.getElem?_eq_none (by rw [h.size]; omega), Array.getElem?_eq_none (by rw [h'.size]; omega)]
theorem nums_rep (k : IntKind) (n : Nat) : Nums (Array.replicate n (.int k 0)) k n (fun _ => 0) := ⟨by simp, fun j hj => by simp [hj]⟩

theorem results_blk {P : Program} {fn : Func} {p : Tmp} {ty : TypeId} (h : fn.results = #[.cell p ty]) (tmps : Array Value) (w : World) (g : Nat) (c : Array Value) (d : TypeDesc)
    (hp : tmps.getD p undef = .pointer (some ⟨g, 0, none⟩)) (B : Blk w g c) (hu : P.underlying ty = some d) (hd : d.isRow = true) (hi : (P.info? ty).map (·.size) = some c.size) :
    (results fn tmps).run P w = .ok (.agg c) w := by
  have hp' : tmps[p]?.getD undef = .pointer (some ⟨g, 0, none⟩) := by simpa using hp
  have := run_loadVar_mid (P := P) w g 0 ty c.toList d B.range hu hd (by rw [hi]; simp)
  simp [results, h, hp', asAddr, this]
end Go.Proofs.Ytcklmemnjchdcaa

/-
  The octet at a place of a row.
-/

namespace Go.Proofs.Ytcklmemnjchdcaa
open Go.RowKit
set_option linter.unusedVariables false
set_option linter.unusedSimpArgs false

def byteAt (l : List UInt8) (i : Nat) : Nat := (l.getD i 0).toNat
theorem byteAt_lt (l : List UInt8) (i : Nat) : byteAt l i < 256 := (l.getD i 0).toNat_lt
theorem byteAt_get (l : List UInt8) (i : Nat) (h : i < l.length) : byteAt l i = l[i].toNat := by simp [byteAt, h]
theorem byteAt_app (l m : List UInt8) (i : Nat) : byteAt (l ++ m) i = if i < l.length then byteAt l i else byteAt m (i - l.length) := by
  unfold byteAt
  by_cases h : i < l.length
  · rw [if_pos h]; simp [List.getElem?_append_left h]
  · rw [if_neg h]; simp [List.getElem?_append_right (by omega : l.length ≤ i)]
end Go.Proofs.Ytcklmemnjchdcaa

/-
  Elements of any type in a row of the call's own: a list of them, the row that a walk reads, one more, others behind.
-/






namespace Go.Proofs.Ytcklmemnjchdcaa
open Go.RowKit
set_option linter.unusedVariables false
set_option linter.unusedSimpArgs false

/-- How the elements of a slice lie. -/
structure RowT (α : Type) where
  ty : TypeId
  sl : TypeId
  sz : Nat
  bytes : Nat
  zero : Value
  cells : α → List Value
  dflt : α
structure RowT.Ok {α : Type} (T : RowT α) : Prop where
  under : Try.prog.underlying T.sl = some (.slice T.ty)
  tab : (Try.prog.info? T.ty).map (fun i => (i.zero, i.size, i.bytes)) = some (some T.zero, T.sz, T.bytes)
  zs : T.zero.cells.size = T.sz
  pos : 0 < T.sz
  len : ∀ x, (T.cells x).length = T.sz
  one : ∀ x, ∀ u ∈ T.cells x, u.oneCell' = true

section
variable {α : Type} {T : RowT α}
def flatR (T : RowT α) (L : List α) : List Value := L.flatMap T.cells
def atR (T : RowT α) (L : List α) (i : Nat) : α := (L[i]?).getD T.dflt
theorem atR_eq (L : List α) (i : Nat) (hi : i < L.length) : atR T L i = L[i] := by simp [atR, hi]
theorem atR_mem (L : List α) (i : Nat) (hi : i < L.length) : atR T L i ∈ L := by rw [atR_eq L i hi]; exact List.getElem_mem hi
theorem atR_take (L : List α) (k i : Nat) (h : i < k) : atR T (L.take k) i = atR T L i := by
  unfold atR; rw [List.getElem?_take_of_lt h]
theorem atR_drop (L : List α) (k i : Nat) : atR T (L.drop k) i = atR T L (k + i) := by
  unfold atR; rw [List.getElem?_drop]
theorem flatR_append (L M : List α) : flatR T (L ++ M) = flatR T L ++ flatR T M := by simp [flatR]
theorem flatR_length (K : T.Ok) : ∀ L : List α, (flatR T L).length = L.length * T.sz
  | [] => by simp [flatR]
  | q :: L => by
    have h := flatR_length K L
    have hq := K.len q
    simp only [flatR, List.flatMap_cons, List.length_append, List.length_cons] at h ⊢
    rw [h, hq, Nat.add_mul, Nat.one_mul, Nat.add_comm]
theorem flatR_get (K : T.Ok) : ∀ (L : List α) (i j : Nat) (hi : i < L.length) (v : Value), (T.cells L[i])[j]? = some v → (flatR T L)[i * T.sz + j]? = some v
  | [], i, j, hi, v, h => absurd hi (Nat.not_lt_zero _)
  | q :: L, 0, j, hi, v, h => by
    have hj : j < (T.cells q).length := (List.getElem?_eq_some_iff.1 h).1
    simp only [flatR, List.flatMap_cons, Nat.zero_mul, Nat.zero_add]
    rw [List.getElem?_append_left hj]
    exact h
  | q :: L, i + 1, j, hi, v, h => by
    have ih := flatR_get K L i j (by simpa using hi) v (by simpa using h)
    have hq := K.len q
    have e1 : (i + 1) * T.sz = i * T.sz + T.sz := by rw [Nat.add_mul, Nat.one_mul]
    simp only [flatR, List.flatMap_cons]
    rw [List.getElem?_append_right (by omega), show (i + 1) * T.sz + j - (T.cells q).length = i * T.sz + j by omega]
    exact ih
theorem flatR_at (K : T.Ok) (M : List α) (t : Nat) (h : t < M.length * T.sz) : (flatR T M)[t]? = (T.cells (atR T M (t / T.sz)))[t % T.sz]? := by
  have hp := K.pos
  have hi : t / T.sz < M.length := (Nat.div_lt_iff_lt_mul hp).2 h
  have e : t = t / T.sz * T.sz + t % T.sz := by rw [Nat.mul_comm]; exact (Nat.div_add_mod t T.sz).symm
  have hr : t % T.sz < (T.cells M[t / T.sz]).length := by rw [K.len]; exact Nat.mod_lt _ hp
  have hf := flatR_get K M (t / T.sz) (t % T.sz) hi _ (List.getElem?_eq_getElem hr)
  rw [← e] at hf
  rw [hf, atR_eq M _ hi, List.getElem?_eq_getElem hr]

/-- A row of the call's own holds these. -/
def RowOwn (T : RowT α) (w : World) (base : Nat) (v : Value) (L : List α) : Prop := w.ownsRow base T.ty T.sz v L.length (flatR T L)
/-- A slice of these, wherever. -/
abbrev RowOf (T : RowT α) (w : World) (q : Option Addr) (L : List α) : Prop := RowP w q T.sz L.length (fun i => T.cells (atR T L i))

theorem RowOwn.nil (w : World) (base : Nat) : RowOwn T w base (.slice none 0 0) [] := World.ownsRow_nil _ _ _ _
theorem RowOwn.more {w w' : World} {base : Nat} {v : Value} {L : List α} (h : RowOwn T w base v L) (hb : Below w.heap.size w w') : RowOwn T w' base v L :=
  own_sole h (Sole.made (S := fun _ => False) hb) fun _ _ x => x
theorem RowOwn.alloc {w : World} {base : Nat} {v : Value} {L : List α} (h : RowOwn T w base v L) (o : Obj) : RowOwn T (w.alloc o) base v L := h.more ((Below.refl _ _).alloc (Nat.le_refl _) o)
theorem RowOwn.drew {w : World} {base : Nat} {v : Value} {L : List α} (h : RowOwn T w base v L) : RowOwn T w.drew base v L := h.more (Below.refl _ _).drew
theorem RowOwn.sole {S : Nat → Prop} {w w' : World} {base : Nat} {v : Value} {L : List α} (h : RowOwn T w base v L) (hs : Sole S w w') (hn : ∀ k, v.ownBlock = some k → ¬ S k) : RowOwn T w' base v L := own_sole h hs hn
theorem RowOwn.mono {w : World} {a b : Nat} {v : Value} {L : List α} (h : RowOwn T w b v L) (hab : a ≤ b) : RowOwn T w a v L := by
  refine ⟨h.1, h.2.imp id ?_⟩
  rintro ⟨g, cap, cur, e, hb, r⟩
  exact ⟨g, cap, cur, e, Nat.le_trans hab hb, r⟩
theorem RowOwn.within {w : World} {base : Nat} {v : Value} {L : List α} (h : RowOwn T w base v L) : ∀ k, v.ownBlock = some k → base ≤ k ∧ k < w.heap.size := World.ownsRow.lt h
theorem RowOwn.open (K : T.Ok) {w : World} {base : Nat} {v : Value} {L : List α} (h : RowOwn T w base v L) :
    ∃ p cap, v = .slice p L.length cap ∧ L.length ≤ cap ∧ cap ≤ maxLen ∧ RowOf T w p L := by
  rcases h.2 with ⟨rfl, h0⟩ | ⟨g, cap, cur, rfl, hb, hg, h1, h2, h3, h4⟩
  · exact ⟨none, 0, by rw [h0], by omega, Nat.zero_le _, .inl h0⟩
  · refine ⟨_, cap, rfl, h1, h2, .inr ⟨g, 0, rfl, (h.lt g rfl).2, fun i hi j u hu => ?_⟩⟩
    rw [atR_eq L i hi] at hu
    have hf := flatR_get K L i j hi u hu
    have := h.cells (g := g) rfl (i * T.sz + j) u hf
    rw [Nat.zero_add]
    unfold Addr.add at this
    split at this
    · rename_i e
      rw [e]
      exact this
    · simpa using this
/-- No bytes, or not nil. -/
theorem RowOwn.form {w : World} {base : Nat} {v : Value} {L : List α} (h : RowOwn T w base v L) : v = .slice none 0 0 ∧ L = [] ∨ ∃ g cap, v = .slice (some ⟨g, 0, none⟩) L.length cap ∧ base ≤ g ∧ g < w.heap.size ∧ L.length ≤ cap ∧ cap ≤ maxLen := by
  rcases h.2 with ⟨rfl, h0⟩ | ⟨g, cap, cur, rfl, hb, hg, h1, h2, h3, h4⟩
  · exact .inl ⟨rfl, List.eq_nil_of_length_eq_zero h0⟩
  · exact .inr ⟨g, cap, rfl, hb, (h.lt g rfl).2, h1, h2⟩
theorem RowOf.more {w w' : World} {q : Option Addr} {L : List α} (h : RowOf T w q L) (hb : Below w.heap.size w w') : RowOf T w' q L := RowP.more h hb
/-- The first ones, and those behind. -/
theorem RowOf.take {w : World} {q : Option Addr} {L : List α} (h : RowOf T w q L) (k : Nat) (hk : k ≤ L.length) : RowOf T w q (L.take k) := by
  have hl : (L.take k).length = k := by rw [List.length_take]; omega
  unfold RowOf
  rw [hl]
  rcases RowP.take h hk with h0 | ⟨b, o, e, r⟩
  · exact .inl h0
  · exact .inr ⟨b, o, e, r.lt, fun i hi j v hv => r.cell i hi j v (by rw [atR_take L k i hi] at hv; exact hv)⟩
theorem addr_plus (b o j : Nat) : Addr.add ⟨b, o, none⟩ j = ⟨b, o + j, none⟩ := by
  unfold Addr.add
  split
  · subst j; rfl
  · rfl
/-- s[k:], where s has room for more than k. -/
theorem RowOf.drop {w : World} {b o : Nat} {L : List α} (h : RowOf T w (some ⟨b, o, none⟩) L) (k : Nat) : RowOf T w (some ⟨b, o + k * T.sz, none⟩) (L.drop k) := by
  unfold RowOf
  rw [List.length_drop]
  by_cases h0 : L.length - k = 0
  · exact .inl h0
  · obtain ⟨b', o', e, r⟩ := RowP.row h (by omega)
    cases e
    have r2 := r.drop k
    exact .inr ⟨b, _, rfl, r2.lt, fun i hi j v hv => r2.cell i hi j v (by rw [atR_drop] at hv; exact hv)⟩

/-- A new block with one. -/
theorem rowOf_one (K : T.Ok) {w : World} {b : Nat} {c : Array Value} {x : α} (B : Blk w b c) (hc : c.toList = T.cells x) : RowOf T w (some ⟨b, 0, none⟩) [x] := by
  refine .inr ⟨_, _, rfl, B.lt, fun i hi j v hv => ?_⟩
  have hi0 : i = 0 := by simpa using hi
  subst hi0
  have e : 0 + 0 * T.sz + j = j := by simp
  rw [e, B.cell, ← Array.getElem?_toList, hc]
  exact hv
theorem append_row (K : T.Ok) (base : Nat) (ty : TypeId) (w : World) (v : Value) (l : List α) (hown : RowOwn T w base v l) (q : Option Addr) (c : Nat) (M : List α) (R : RowOf T w q M) (hn : (l.length + M.length) * T.bytes ≤ 140737488355328) (h63 : l.length + M.length ≤ maxLen) (hbase : base ≤ w.heap.size) :
    ∃ v' w', (Builtin.append_ #[T.sl, T.sl] ty #[v, .slice q M.length c]).run Try.prog w = .ok v' w' ∧ RowOwn T w' base v' (l ++ M) ∧ w.grownBy w' v.ownBlock ∧ (v'.ownBlock = v.ownBlock ∨ v'.ownBlock = some w.heap.size) := by
  obtain ⟨i, hi, hz, hs, hby⟩ := info_parts K.tab
  have ht := K.under
  by_cases h0 : M = []
  · subst h0
    refine ⟨v, w, ?_, by simpa using hown, ⟨rfl, rfl, rfl, Nat.le_refl _, fun _ _ _ => rfl⟩, .inl rfl⟩
    rcases hown.2 with ⟨rfl, h0⟩ | ⟨g, cap, cur, rfl, hbg, hg, hnc, hcm, hcs, htake⟩
    · cases q <;> simp [Builtin.append_, run_underlying ht, sizeOf, typeInfo, hi, hs, Builtin.lenOf, Builtin.firstCells, loadCells, loadCellsFrom, storeCells]
    · cases q <;> simp [Builtin.append_, run_underlying ht, sizeOf, typeInfo, hi, hs, Builtin.lenOf, Builtin.firstCells, loadCells, loadCellsFrom, storeCells, hnc]
  · have hp : M.length ≠ 0 := fun h => h0 (List.eq_nil_of_length_eq_zero h)
    obtain ⟨b, o, rfl, r⟩ := RowP.row R hp
    have hnews : ∀ j u, (flatR T M)[j]? = some u → w.cell? ((⟨b, o, none⟩ : Addr).add j) = some u := by
      intro j u hu
      have hj : j < M.length * T.sz := by
        have := (List.getElem?_eq_some_iff.1 hu).1
        rwa [flatR_length K] at this
      rw [flatR_at K M j hj] at hu
      have := r.cell (j / T.sz) ((Nat.div_lt_iff_lt_mul K.pos).2 hj) (j % T.sz) u hu
      have e : j / T.sz * T.sz + j % T.sz = j := by rw [Nat.mul_comm]; exact Nat.div_add_mod j T.sz
      rw [addr_plus, show o + j = o + j / T.sz * T.sz + j % T.sz by omega]
      exact this
    obtain ⟨v', w', hr, O, G, N, at'⟩ := run_append_own_at (P := Try.prog) w base T.sl ty T.ty i T.zero T.sz T.bytes ht hi hz hs hby K.zs K.pos v l.length (flatR T l) hown ⟨b, o, none⟩ M.length c (flatR T M) (flatR_length K M) hnews (fun u hu => by
      unfold flatR at hu
      obtain ⟨x, -, hx⟩ := List.mem_flatMap.1 hu
      exact K.one x u hx) h63 hn hbase
    refine ⟨v', w', hr, ?_, G, at'⟩
    unfold RowOwn
    rw [List.length_append, flatR_append]
    exact O
end
end Go.Proofs.Ytcklmemnjchdcaa

/-
  Octets as elements of a row: as data, and where they lie.
-/


namespace Go.Proofs.Ytcklmemnjchdcaa
open Go.RowKit
set_option linter.unusedVariables false
set_option linter.unusedSimpArgs false

/-- Octets as a slice: where they lie. -/
structure OcS where
  a : Option Addr
  cap : Nat
  l : List UInt8
def ocT : RowT OcS := { ty := 51, sl := 53, sz := 1, bytes := 24, zero := .slice none 0 0, cells := fun x => [.slice x.a x.l.length x.cap], dflt := ⟨none, 0, []⟩ }
theorem ocOk : ocT.Ok := ⟨Try.underlying53, by kernel_rfl, rfl, by decide, fun _ => rfl, fun x u hu => by
  simp [ocT] at hu
  rcases hu with rfl; rfl⟩
def OcS.there (w : World) (x : OcS) : Prop := Octs w x.a x.l ∧ x.l.length ≤ x.cap ∧ x.cap ≤ maxLen
theorem OcS.there.more {w w' : World} {x : OcS} (h : x.there w) (hb : Below w.heap.size w w') : x.there w' := ⟨h.1.more hb, h.2⟩

theorem oc_sole {S : Nat → Prop} {w w' : World} {x : OcS} (h : x.there w) (hs : Sole S w w') (hn : ∀ b o, x.a = some ⟨b, o, none⟩ → ¬ S b) : x.there w' := ⟨h.1.sole hs fun b o e _ => hn b o e, h.2⟩
def ocA (L : List OcS) (i : Nat) : OcS := atR ocT L i
theorem ocA_eq (L : List OcS) (i : Nat) (h : i < L.length) : ocA L i = L[i] := atR_eq L i h
theorem ocA_mem (L : List OcS) (i : Nat) (h : i < L.length) : ocA L i ∈ L := by rw [ocA_eq L i h]; exact List.getElem_mem h
end Go.Proofs.Ytcklmemnjchdcaa

/-
  bytes.Clone, and bytes.Equal.
-/



namespace Go.Proofs.Ytcklmemnjchdcaa
open Go.RowKit
set_option linter.unusedVariables false
set_option linter.unusedSimpArgs false

set_option maxRecDepth 100000 in
set_option maxHeartbeats 2000000 in
theorem bclone_any (l : List UInt8) (a : Option Addr) (cap : Nat) (w : World) (O : Octs w a l) (hl : l.length ≤ 140737488355328) :
    Calls Try.prog 31 #[.slice a l.length cap] w fun e w' => ∃ v, e = .returned v ∧ Fresh w w' v l := by
  rcases a with _ | x
  · obtain rfl : l = [] := by
      rcases O with h | ⟨b, o, e, _⟩
      · exact h
      · cases e
    have ke := fun w => Lib.run_eql_slice_nil_nil (P := Try.prog) w (t := 51) (e := 5) 0 cap Try.underlying51
    go_enter Try.func31, Try.ntmps31
    go_wp2_with fail
    go_ret
    exact ⟨_, rfl, none, 0, rfl, World.ownsRow_nil _ _ _ _, Below.refl _ _⟩
  · have ke := fun w => Lib.run_eql_slice_some_nil (P := Try.prog) w (t := 51) (e := 5) x l.length cap Try.underlying51
    have OM := World.ownsRow_made (size := 1) (e := 5) (base := w.heap.size) w #[] 0 (Nat.le_refl _) (Nat.zero_le _) rfl
    have hb0 : Below w.heap.size w (w.alloc (.cells #[] 5)) := Below.alloc (Below.refl _ _) (Nat.le_refl _) _
    obtain ⟨v', w', hr, O', gr, mv⟩ := append_octs w.heap.size 51 (w.alloc (.cells #[] 5)) _ 0 [] OM (some x) cap l (O.more hb0) (by omega) (by simp)
    have E : Hid (Fresh w w' v' l) := hid (by
      rw [Nat.zero_add, List.nil_append] at O'
      have hb := Below.grown hb0 gr (by simp) fun k hk => (OM.lt k hk).1
      rcases O'.2 with ⟨hv, hn⟩ | ⟨g, cap', cur, hv, _⟩
      · exact ⟨none, 0, by rw [hn]; exact hv, by rw [hn] at O' ⊢; exact hv ▸ O', hb⟩
      · exact ⟨some ⟨g, 0, none⟩, cap', hv, hv ▸ O', hb⟩)
    clear O OM hb0 O' gr mv
    replace hl := hid hl
    go_enter Try.func31, Try.ntmps31
    go_wp2_with (at_builtin; refine Lib.wpList_append_run _ rfl _ _ _ _ rfl _ _ rfl rfl _ _ hr ?_)
    go_ret
    exact ⟨_, rfl, E.out⟩
end Go.Proofs.Ytcklmemnjchdcaa

/-
  A region that draws its order: its first operations are quiet in a class of worlds (each hands on one value, whatever the world), the others go one by one behind them: one walk in the text's order serves every order.
-/





namespace Go.Proofs.Ytcklmemnjchdcaa
open Go.RowKit

section
variable {P : Program} {ops : Array Oper}

/-- The first operation that writes a temporary. -/
def writer (ops : Array Oper) (t : Tmp) : Option Nat := (List.range ops.size).find? fun j => ((ops[j]?).bind (·.dst)) == some t

def soleB (ops : Array Oper) (m : Nat) : Bool :=
  (List.range ops.size).all fun j => match (ops[j]?).bind (·.dst) with
    | some t => (writer ops t == some j) && decide (t < m)
    | none => true

theorem sole_dst {m j t : Nat} {o : Oper} (h : soleB ops m = true) (hj : ops[j]? = some o) (hd : o.dst = some t) : writer ops t = some j ∧ t < m := by
  have hlt : j < ops.size := (Array.getElem?_eq_some_iff.1 hj).1
  have := List.all_eq_true.1 h j (List.mem_range.2 hlt)
  simp only [hj, Option.bind_some, hd, Bool.and_eq_true, beq_iff_eq, decide_eq_true_eq] at this
  exact this

theorem writer_some {t j : Nat} (h : writer ops t = some j) : ∃ o, ops[j]? = some o ∧ o.dst = some t := by
  have h1 := List.find?_some h
  have h2 : j < ops.size := List.mem_range.1 (List.mem_of_find?_eq_some h)
  refine ⟨ops[j], by simp [h2], ?_⟩
  simpa [h2] using h1

theorem writer_none {t j : Nat} {o : Oper} (h : writer ops t = none) (hj : ops[j]? = some o) : o.dst ≠ some t := by
  intro hd
  have hlt : j < ops.size := (Array.getElem?_eq_some_iff.1 hj).1
  have h1 := List.find?_eq_none.1 h j (List.mem_range.2 hlt)
  simp [hj, hd] at h1

/-- What the operation looks at was there at the region's beginning, or is written by what it waits for, of the first n. -/
def seenB (ops : Array Oper) (n : Nat) : Bool :=
  (List.range n).all fun j => match ops[j]? with
    | none => true
    | some o => ((o.looksAt ops).all fun t => match writer ops t with
      | none => true
      | some k => decide (n ≤ k) || (decide (k < j) && Region.waitsFor .any ops j k)) && o.after.all fun e => !Region.binds .any e || decide (e.on < j)

theorem seen {n j : Nat} {o : Oper} (h : seenB ops n = true) (hj : ops[j]? = some o) (hn : j < n) {t : Nat} (ht : t ∈ o.looksAt ops) {k : Nat} (hw : writer ops t = some k) : n ≤ k ∨ (k < j ∧ Region.waitsFor .any ops j k = true) := by
  have := List.all_eq_true.1 h j (List.mem_range.2 hn)
  simp only [hj, Bool.and_eq_true] at this
  have := List.all_eq_true.1 this.1 t ht
  simp only [hw, Bool.or_eq_true, decide_eq_true_eq, Bool.and_eq_true] at this
  exact this

theorem seen_after {n j : Nat} {o : Oper} (h : seenB ops n = true) (hj : ops[j]? = some o) (hn : j < n) {e : Edge} (he : e ∈ o.after) (hb : Region.binds .any e = true) : e.on < j := by
  have := List.all_eq_true.1 h j (List.mem_range.2 hn)
  simp only [hj, Bool.and_eq_true] at this
  have h2 := Array.all_eq_true_iff_forall_mem.1 this.2 e he
  simpa [hb] using h2

theorem put_get (a : Act) (d : Option Tmp) (v : Value) (t : Nat) : (a.put d v).tmps[t]? = if d = some t ∧ t < a.tmps.size then some v else a.tmps[t]? := by
  cases d with
  | none => simp [Act.put]
  | some d =>
    simp only [Act.put, Array.getElem?_setIfInBounds, Option.some.injEq]
    by_cases h : d = t
    · subst h
      by_cases h2 : d < a.tmps.size
      · simp [h2]
      · simp [h2]
    · simp [h]
theorem put_size (a : Act) (d : Option Tmp) (v : Value) : (a.put d v).tmps.size = a.tmps.size := by cases d <;> simp [Act.put]
theorem put_defers (a : Act) (d : Option Tmp) (v : Value) : (a.put d v).defers = a.defers := by cases d <;> rfl

/-- The frame behind these operations, each with its value. -/
def puts (ops : Array Oper) (vs : Nat → Value) (l : List Nat) (a : Act) : Act := l.foldl (fun a j => a.put ((ops[j]?).bind (·.dst)) (vs j)) a

theorem puts_defers (vs : Nat → Value) : ∀ (l : List Nat) (a : Act), (puts ops vs l a).defers = a.defers
  | [], _ => rfl
  | j :: l, a => by unfold puts; rw [List.foldl_cons]; exact (puts_defers vs l _).trans (put_defers ..)
theorem puts_get (vs : Nat → Value) (t : Nat) : ∀ (l : List Nat) (a : Act),
    ((∀ j ∈ l, (ops[j]?).bind (·.dst) ≠ some t) → (puts ops vs l a).tmps[t]? = a.tmps[t]?) ∧
    (∀ j, (∀ k ∈ l, (ops[k]?).bind (·.dst) = some t → k = j) → j ∈ l → (ops[j]?).bind (·.dst) = some t → t < a.tmps.size → (puts ops vs l a).tmps[t]? = some (vs j))
  | [], a => ⟨fun _ => rfl, fun j _ h => by cases h⟩
  | k :: l, a => by
    have ih := puts_get vs t l (a.put ((ops[k]?).bind (·.dst)) (vs k))
    constructor
    · intro h
      show (puts ops vs l _).tmps[t]? = _
      rw [ih.1 (fun j hj => h j (List.mem_cons_of_mem _ hj)), put_get, if_neg (fun hx => h k List.mem_cons_self hx.1)]
    · intro j hu hj hd ht
      show (puts ops vs l _).tmps[t]? = _
      by_cases hjl : j ∈ l
      · exact ih.2 j (fun i hi hdi => hu i (List.mem_cons_of_mem _ hi) hdi) hjl hd (by rw [put_size]; exact ht)
      · have hjk : j = k := by
          rcases List.mem_cons.1 hj with h | h
          · exact h
          · exact absurd h hjl
        subst hjk
        rw [ih.1 (fun i hi hdi => hjl (hu i (List.mem_cons_of_mem _ hi) hdi ▸ hi)), put_get, if_pos ⟨hd, ht⟩]
theorem puts_congr {vs us : Nat → Value} : ∀ (l : List Nat) (a : Act), (∀ j ∈ l, vs j = us j) → puts ops vs l a = puts ops us l a
  | [], _, _ => rfl
  | j :: l, a, h => by
    have e := h j List.mem_cons_self
    show puts ops vs l (a.put _ (vs j)) = puts ops us l (a.put _ (us j))
    rw [e]
    exact puts_congr l _ fun k hk => h k (List.mem_cons_of_mem _ hk)
theorem count_set : ∀ (l : List Bool) (i : Nat), l[i]? = some false → (l.set i true).count false + 1 = l.count false
  | [], i, h => by simp at h
  | b :: l, 0, h => by simp at h; subst h; simp
  | b :: l, i + 1, h => by
    have := count_set l i (by simpa using h)
    simp only [List.set_cons_succ, List.count_cons]
    omega

/-- What the walk shows of the operation o in the frame a: it yields v in every world of the class; or its guard keeps it from running. -/
def Told (P : Program) (ops : Array Oper) (C : World → Prop) (o : Oper) (v : Value) (a : Act) : Prop :=
  (Region.wanted o (yielded ops a.tmps) = true ∧ ∀ w, C w → o.quietAt P a C w v) ∨ (Region.wanted o (yielded ops a.tmps) = false ∧ v = undef)

theorem walk_told {C : World → Prop} {Qf : Act → Prop} : ∀ (l : List Oper) (k : Nat) (a : Act), (∀ i, i < l.length → l[i]? = ops[k + i]?) → wpQuiet P ops C Qf l a →
    ∃ vs : Nat → Value, Qf (puts ops vs (List.range' k l.length) a) ∧ ∀ i o, i < l.length → ops[k + i]? = some o → Told P ops C o (vs (k + i)) (puts ops vs (List.range' k i) a)
  | [], k, a, _, h => ⟨fun _ => undef, h, fun i o hi => absurd hi (Nat.not_lt_zero _)⟩
  | x :: l, k, a, hl, h => by
    have h0 : ops[k]? = some x := by simpa using (hl 0 (by simp)).symm
    have key : ∃ v, Told P ops C x v a ∧ wpQuiet P ops C Qf l (a.put x.dst v) := by
      unfold wpQuiet at h
      by_cases hw : Region.wanted x (yielded ops a.tmps) = true
      · rw [if_pos hw] at h
        obtain ⟨v, h1, h2⟩ := h
        exact ⟨v, .inl ⟨hw, h1⟩, h2⟩
      · rw [if_neg hw] at h
        exact ⟨undef, .inr ⟨by simpa using hw, rfl⟩, h⟩
    obtain ⟨v, hv, hrest⟩ := key
    obtain ⟨us, hq, hu⟩ := walk_told l (k + 1) (a.put x.dst v) (fun i hi => by have := hl (i + 1) (by simp; omega); simpa [Nat.add_assoc, Nat.add_comm 1 i] using this) hrest
    let vs : Nat → Value := fun j => if j = k then v else us j
    have hne : ∀ j, j ≠ k → vs j = us j := fun j hj => by simp only [vs, if_neg hj]
    have hk : vs k = v := by simp only [vs, if_pos rfl]
    have step : ∀ m, puts ops vs (List.range' k (m + 1)) a = puts ops us (List.range' (k + 1) m) (a.put x.dst v) := by
      intro m
      rw [List.range'_succ]
      show puts ops vs (List.range' (k + 1) m) (a.put ((ops[k]?).bind (·.dst)) (vs k)) = _
      rw [h0, hk]
      exact puts_congr _ _ fun j hj => hne j (by have := (List.mem_range'_1.1 hj).1; omega)
    refine ⟨vs, by rw [List.length_cons, step]; exact hq, fun i o hi ho => ?_⟩
    cases i with
    | zero =>
      rw [Nat.add_zero] at ho ⊢
      rw [h0] at ho; cases ho
      rw [hk]
      exact hv
    | succ i =>
      rw [step]
      have := hu i o (by simp at hi; omega) (by rw [show k + 1 + i = k + (i + 1) by omega]; exact ho)
      rw [show k + 1 + i = k + (i + 1) by omega] at this
      rw [hne _ (by omega)]
      exact this

/-- The frame in the midst: those that are listed have their values, all else is as it was. -/
structure Mid (ops : Array Oper) (a0 : Act) (vs : Nat → Value) (L : Array Bool) (a : Act) : Prop where
  defers : a.defers = a0.defers
  size : a.tmps.size = a0.tmps.size
  slot : ∀ t, a.tmps[t]? = match writer ops t with
    | some k => if L.getD k false = true then some (vs k) else a0.tmps[t]?
    | none => a0.tmps[t]?

def quietTailB (ops : Array Oper) (n m : Nat) : Bool :=
  Region.noSelect ops && decide (n < ops.size) && Region.sinkB .any ops n && Region.chainB .any ops n && soleB ops m && seenB ops n &&
    Region.seqB .any ops (ops.size - n) n (Array.ofFn fun i : Fin ops.size => decide (i.val < n))

/-- **THE RULE.** -/
theorem wp_region_quiet_tail {id : Nat} {Q : Exit → Act → World → Prop} {a0 : Act} {w0 : World} {l : List Oper} {C : World → Prop} (n : Nat) (hm : P.follows .mixedOrders = true)
    (hB : quietTailB l.toArray n a0.tmps.size = true) (hC : C w0.drew)
    (h : wpQuiet P l.toArray C (fun a' => ∀ w', C w' → wpList P l.toArray Q (l.drop n) a' w') (l.take n) a0) : (Code.region id l.toArray true).wp P Q a0 w0 := by
  simp only [quietTailB, Bool.and_eq_true, decide_eq_true_eq] at hB
  obtain ⟨⟨⟨⟨⟨⟨hsel, hn⟩, hs⟩, hc⟩, hsole⟩, hseen⟩, hseq⟩ := hB
  have hn' : n < l.length := by simpa using hn
  have htl : (l.take n).length = n := by simp; omega
  obtain ⟨vs, hfin, htold⟩ := walk_told (ops := l.toArray) (l.take n) 0 a0 (fun i hi => by
    have hi' : i < n := by rw [htl] at hi; exact hi
    simp [hi']) h
  rw [htl] at hfin
  have hr0 : ∀ m, List.range' 0 m = List.range m := fun m => (List.range_eq_range' (n := m)).symm
  rw [hr0] at hfin
  -- what the walk's own frame holds, before operation j
  have lex : ∀ (j t : Nat), j ≤ n → (puts l.toArray vs (List.range j) a0).tmps[t]? = match writer l.toArray t with
      | some k => if k < j then some (vs k) else a0.tmps[t]?
      | none => a0.tmps[t]? := by
    intro j t hj
    cases hw : writer l.toArray t with
    | none =>
      refine (puts_get vs t _ _).1 fun i hi hd => ?_
      have hlt : i < l.toArray.size := by have := List.mem_range.1 hi; omega
      have hoi : l.toArray[i]? = some l.toArray[i] := Array.getElem?_eq_getElem hlt
      rw [hoi] at hd
      exact writer_none hw hoi hd
    | some k =>
      obtain ⟨o, ho, hd⟩ := writer_some hw
      have hsole' : ∀ i, i < l.toArray.size → (l.toArray[i]?).bind (·.dst) = some t → i = k := fun i hi hdi => by
        have hoi : l.toArray[i]? = some l.toArray[i] := Array.getElem?_eq_getElem hi
        rw [hoi] at hdi
        have := (sole_dst hsole hoi hdi).1
        rw [hw] at this
        exact (Option.some.inj this).symm
      by_cases hk : k < j
      · simp only [hk, if_true]
        exact (puts_get vs t _ _).2 k (fun i hi hdi => hsole' i (by have := List.mem_range.1 hi; omega) hdi) (List.mem_range.2 hk) (by rw [ho]; exact hd) (sole_dst hsole ho hd).2
      · simp only [hk, if_false]
        refine (puts_get vs t _ _).1 fun i hi hdi => hk ?_
        have h1 := List.mem_range.1 hi
        rw [← hsole' i (by omega) hdi]
        exact h1
  refine wp_region_any hm ?_
  have main : ∀ (fuel : Nat) (L : Array Bool) (a : Act) (w : World), Mid l.toArray a0 vs L a → HeadInv .any l.toArray n L → C w → L.toList.count false = fuel → wpAny P .any l.toArray Q fuel L a w := by
    intro fuel
    induction fuel with
    | zero =>
      intro L a w mid inv hCw hcnt
      exfalso
      have h1 := inv.tail n (Nat.le_refl _) hn
      have hl : n < L.size := by rw [inv.size]; exact hn
      have : false ∈ L.toList := by
        have h2 : L[n] = false := by simpa [hl] using h1
        rw [← h2]; simp
      have := List.count_pos_iff.2 this
      omega
    | succ fuel ih =>
      intro L a w mid inv hCw hcnt
      by_cases hall : ∀ i, i < n → L.getD i false = true
      · -- all of the first are done: the others, one by one
        have hL : L = Array.ofFn fun i : Fin l.toArray.size => decide (i.val < n) := by
          apply Array.ext
          · simp [inv.size]
          · intro i h1 h2
            have hi : i < l.toArray.size := by rw [← inv.size]; exact h1
            simp only [Array.getElem_ofFn]
            by_cases hin : i < n
            · have := hall i hin
              simp [h1] at this
              simp [hin, this]
            · have := inv.tail i (by omega) hi
              simp [h1] at this
              simp [hin, this]
        have ha : a = puts l.toArray vs (List.range n) a0 := by
          have e1 : a.tmps = (puts l.toArray vs (List.range n) a0).tmps := by
            apply Array.ext_getElem?
            intro t
            rw [mid.slot t, lex n t (Nat.le_refl _)]
            cases hw : writer l.toArray t with
            | none => rfl
            | some k =>
              simp only []
              by_cases hk : k < n
              · rw [if_pos (hall k hk), if_pos hk]
              · rw [if_neg hk, if_neg]
                obtain ⟨o, ho, _⟩ := writer_some hw
                have := getD_both (inv.tail k (by omega) (Array.getElem?_eq_some_iff.1 ho).1)
                rw [this]; simp
          have e2 : a.defers = (puts l.toArray vs (List.range n) a0).defers := by rw [mid.defers]; exact (puts_defers vs _ _).symm
          cases a
          cases hp : puts l.toArray vs (List.range n) a0
          simp only [hp] at e1 e2
          subst e1 e2
          rfl
        have hcnt2 : fuel + 1 = (l.drop n).length := by
          rw [← hcnt, hL]
          simp only [Array.toList_ofFn, List.length_drop]
          have gen : ∀ (m n : Nat), ((List.ofFn fun i : Fin m => decide (i.val < n)).count false) = m - n := by
            intro m
            induction m with
            | zero => intro n; simp
            | succ m ihm =>
              intro n
              cases n with
              | zero =>
                have := ihm 0
                simp [List.ofFn_succ] at this ⊢
                omega
              | succ n =>
                have := ihm n
                simp [List.ofFn_succ] at this ⊢
                omega
          simpa using gen l.toArray.size n
        rw [hcnt2]
        refine wpAny_of_seq (md := .any) (l.drop n) n L a w (fun j => by simp [List.getElem?_drop]) ?_ ?_
        · rw [hL]
          have e : (l.drop n).length = l.toArray.size - n := by simp
          rw [e]; exact hseq
        · rw [ha]; exact hfin w hCw
      · -- one of the first comes up
        have hex : ∃ i, i < n ∧ L.getD i true = false := by
          refine Classical.byContradiction fun hno => hall fun i hi => ?_
          cases hg : L.getD i true with
          | false => exact absurd ⟨i, hi, hg⟩ hno
          | true =>
            have hl : i < L.size := by rw [inv.size]; omega
            simp [hl] at hg ⊢
            exact hg
        obtain ⟨i0, hi0, hun0⟩ := hex
        have hready : ∀ j ∈ Region.ready .any l.toArray L, j < n := fun j hj => by
          rcases Nat.lt_or_ge j n with h | h
          · exact h
          · exact absurd hj (tail_waits hs hc hn inv _ i0 rfl hi0 hun0 j h)
        have hne : Region.ready .any l.toArray L ≠ [] := by
          -- the least that is not listed may come up
          intro hnil
          have hl : ∀ j, j < n → L.getD j false = true := by
            intro j
            induction j using Nat.strongRecOn with
            | _ j ihj =>
              intro hj
              cases hlj : L.getD j false with
              | true => rfl
              | false =>
                exfalso
                have hjo : j < l.toArray.size := by omega
                have hoj : l.toArray[j]? = some l.toArray[j] := Array.getElem?_eq_getElem hjo
                have : j ∈ Region.ready .any l.toArray L := mem_ready.2 ⟨getD_in (by rw [inv.size]; exact hjo) hlj, _, hoj, fun e he hb => by
                  have := seen_after hseen hoj hj he hb
                  exact ihj e.on this (by omega)⟩
                rw [hnil] at this
                cases this
          exact hall hl
        refine ⟨fun hr => absurd hr hne, fun j hj => ?_⟩
        have hjn := hready j hj
        obtain ⟨hun, o, ho, hpre⟩ := mem_ready.1 hj
        have hjs : j < L.size := by rw [inv.size]; omega
        -- what it looks at is as in the walk
        have same : ∀ t, t ∈ o.looksAt l.toArray → a.tmps[t]? = (puts l.toArray vs (List.range j) a0).tmps[t]? := by
          intro t ht
          rw [mid.slot t, lex j t (by omega)]
          cases hw : writer l.toArray t with
          | none => rfl
          | some k =>
            simp only []
            rcases seen hseen ho hjn ht hw with hk | ⟨hk, hwait⟩
            · obtain ⟨o', ho', _⟩ := writer_some hw
              have := getD_both (inv.tail k hk (Array.getElem?_eq_some_iff.1 ho').1)
              rw [if_neg (by rw [this]; simp), if_neg (by omega)]
            · obtain ⟨oj, hoj, e, he, hb, hon⟩ := Region.waitsFor_spec hwait
              have : oj = o := Option.some.inj (hoj.symm.trans ho)
              subst this
              have := hpre e he hb
              rw [hon] at this
              rw [if_pos this, if_pos hk]
        have hexec : execOp a.eval o = execOp (puts l.toArray vs (List.range j) a0).eval o := by
          refine execOp_congr o (fun cs b => Region.noSelect_spec hsel j o cs b ho) fun x hx => ?_
          cases x with
          | tmp t =>
            have := same t (List.mem_append_left _ (List.mem_filterMap.2 ⟨.tmp t, by simpa using hx, rfl⟩))
            simp only [Act.eval, Array.getD_eq_getD_getElem?, this]
          | _ => rfl
        have hwant : Region.wanted o (yielded l.toArray a.tmps) = Region.wanted o (yielded l.toArray (puts l.toArray vs (List.range j) a0).tmps) := by
          unfold Region.wanted
          cases hg : o.guard with
          | none => rfl
          | some gw =>
            obtain ⟨g, want⟩ := gw
            have hy : yielded l.toArray a.tmps g = yielded l.toArray (puts l.toArray vs (List.range j) a0).tmps g := by
              unfold yielded
              cases ht : (l.toArray[g]?).bind (·.dst) with
              | none => rfl
              | some t =>
                have := same t (List.mem_append_right _ (by simp only [hg, ht]; simp))
                simp only [Option.bind_some, this]
            simp only [hy]
        have told := htold j o (by rw [htl]; exact hjn) (by rw [Nat.zero_add]; exact ho)
        rw [Nat.zero_add, hr0] at told
        -- the frame behind it
        have mid' : Mid l.toArray a0 vs (L.setIfInBounds j true) (a.put o.dst (vs j)) := by
          refine ⟨by rw [put_defers]; exact mid.defers, by rw [put_size]; exact mid.size, fun t => ?_⟩
          rw [put_get]
          by_cases hd : o.dst = some t
          · obtain ⟨hw, ht⟩ := sole_dst hsole ho hd
            rw [if_pos ⟨hd, by rw [mid.size]; exact ht⟩, hw]
            simp [hjs]
          · rw [if_neg (fun h => hd h.1), mid.slot t]
            cases hw : writer l.toArray t with
            | none => rfl
            | some k =>
              have hkj : j ≠ k := by
                rintro rfl
                obtain ⟨o', ho', hd'⟩ := writer_some hw
                rw [ho] at ho'; cases ho'
                exact hd hd'
              simp only []
              rw [getD_set_ne false hkj]
        have hcnt' : (L.setIfInBounds j true).toList.count false = fuel := by
          have := count_set L.toList j (by simp [hjs] at hun ⊢; exact hun)
          simp only [Array.toList_setIfInBounds]
          omega
        have next : ∀ w', C w' → wpAny P .any l.toArray Q fuel (L.setIfInBounds j true) (a.put o.dst (vs j)) w' := fun w' hw' => ih _ _ _ mid' (inv.set hj hjn) hw' hcnt'
        unfold wpOp
        simp only [ho]
        rcases told with ⟨hwt, hq⟩ | ⟨hwt, hu⟩
        · rw [if_pos (by rw [hwant]; exact hwt)]
          left
          refine Oper.wp_of_quiet (C := C) (K := fun a' => a' = a.put o.dst (vs j)) hCw (fun a' w' hw' e => e ▸ next w' hw') ⟨vs j, fun w' hw' => ?_, rfl⟩
          have := hq w' hw'
          unfold Oper.quietAt at this ⊢
          rw [hexec]; exact this
        · rw [if_neg (by rw [hwant, hwt]; simp), ← hu]
          exact next w hCw
  refine main l.toArray.size _ a0 w0.drew ⟨rfl, rfl, fun t => ?_⟩ ⟨by simp, fun j oj _ hl => (by rw [getD_replicate_false] at hl; cases hl), fun t _ ht => getD_in (by simpa using ht) (getD_replicate_false _ _)⟩ hC (by simp)
  cases hw : writer l.toArray t with
  | none => rfl
  | some k => simp only [getD_replicate_false]; simp

/-- A world later than W: what was there is as it was. -/
structure Later (W : World) where
  val : World
  h : Below W.heap.size W val
instance (W : World) : Nonempty (Later W) := ⟨⟨W, Below.refl _ _⟩⟩
theorem Later.cell {W : World} (b o : Nat) (hb : b < W.heap.size) (u : Later W) : u.val.cell? ⟨b, o, none⟩ = W.cell? ⟨b, o, none⟩ := u.h.cell (p := ⟨b, o, none⟩) hb

theorem Later.blk {W : World} {b : Nat} {c : Array Value} (h : Blk W b c) (u : Later W) (o : Nat) : u.val.cell? ⟨b, o, none⟩ = c[o]? := (u.cell b o h.lt).trans (h.cell o)

theorem late_out {W w' : World} (h : ∃ u : Later W, w' = u.val) : Below W.heap.size W w' := by
  obtain ⟨u, rfl⟩ := h; exact u.h

/-- A callee that makes memory at most. -/
theorem late_call {W : World} {u : Later W} {f : FuncId} {args : Array Value} {v : Value} (h : Calls P f args u.val fun e w' => e = .returned v ∧ Below u.val.heap.size u.val w') :
    Calls P f args u.val fun e w'' => e = .returned v ∧ ∃ u' : Later W, w'' = u'.val :=
  h.mono fun _ w' ⟨he, hb⟩ => ⟨he, ⟨w', u.h.trans (hb.mono u.h.size)⟩, rfl⟩
theorem wp_region_late {id : Nat} {Q : Exit → Act → World → Prop} {a0 : Act} {W : World} {l : List Oper} (n : Nat) (hm : P.follows .mixedOrders = true)
    (hB : quietTailB l.toArray n a0.tmps.size = true)
    (h : wpQuiet P l.toArray (fun w' => ∃ u : Later W, w' = u.val) (fun a' => ∀ w', (∃ u : Later W, w' = u.val) → wpList P l.toArray Q (l.drop n) a' w') (l.take n) a0) : (Code.region id l.toArray true).wp P Q a0 W :=
  wp_region_quiet_tail n hm hB ⟨⟨W.drew, Below.drew (Below.refl _ _)⟩, rfl⟩ h

end
end Go.Proofs.Ytcklmemnjchdcaa

/-
  A region that draws its order: quiet operations, new blocks that may come at any time among them, and the others one by one behind them.
-/

namespace Go.Proofs.Ytcklmemnjchdcaa
open Go.RowKit

section
variable {P : Program} {ops : Array Oper}

/-- What lasts in any later world. -/
def Stable (S : World → Prop) : Prop := ∀ w w' : World, S w → Below w.heap.size w w' → S w'

/-- A world later than W, with S. -/
structure LaterC (W : World) (S : World → Prop) where
  val : World
  h : Below W.heap.size W val
  s : S val

theorem LaterC.blk {W : World} {S : World → Prop} {b : Nat} {c : Array Value} (h : Blk W b c) (u : LaterC W S) (o : Nat) : u.val.cell? ⟨b, o, none⟩ = c[o]? :=
  (u.h.cell (p := ⟨b, o, none⟩) h.lt).trans (h.cell o)
theorem LaterC.cell {W : World} {S : World → Prop} (b o : Nat) (hb : b < W.heap.size) (u : LaterC W S) : u.val.cell? ⟨b, o, none⟩ = W.cell? ⟨b, o, none⟩ := u.h.cell (p := ⟨b, o, none⟩) hb

/-- The frame with new blocks in the slots of the operations n, n + 1, .. -/
def laid (ops : Array Oper) (β : Nat → Nat) (n m : Nat) (a : Act) : Act := puts ops (fun j => .pointer (some ⟨β j, 0, none⟩)) (List.range' n m) a

/-- The operation makes a block of these cells, whatever the world. -/
def Makes (P : Program) (o : Oper) (z : Array Value) : Prop :=
  o.guard = none ∧ (∃ t, o.op = .alloc t ∧ ∀ w, (execOp (fun _ => undef) o).run P w = .ok (.value (.pointer (some ⟨w.heap.size, 0, none⟩))) (w.alloc (.cells z t)))

/-- What a walk's frame says of each value. -/
def valOf (ops : Array Oper) (A : Act) (j : Nat) : Value := match (ops[j]?).bind (·.dst) with
  | some t => A.tmps.getD t undef
  | none => undef

end
end Go.Proofs.Ytcklmemnjchdcaa

/-
  Points in a row of the call's own: a list of them, and the row that a walk reads.
-/


namespace Go.Proofs.Ytcklmemnjchdcaa
open Go.RowKit
set_option linter.unusedVariables false

theorem ptTab : (Try.prog.info? 168).map (fun i => (i.zero, i.size, i.bytes)) = some (some (.agg #[.int .i64 0, .int .u32 0, .int .u32 0, .string ByteArray.empty]), 4, 32) := by kernel_rfl
/-- The cells of points, one behind the other. -/
def flatP (L : List Pt) : List Value := L.flatMap pcells
theorem flatP_append (L M : List Pt) : flatP (L ++ M) = flatP L ++ flatP M := by simp [flatP]
theorem flatP_one (q : Pt) : flatP [q] = pcells q := by simp [flatP]
theorem flatP_get : ∀ (L : List Pt) (i j : Nat) (hi : i < L.length) (v : Value), (pcells L[i])[j]? = some v → (flatP L)[i * 4 + j]? = some v
  | [], i, j, hi, v, h => absurd hi (Nat.not_lt_zero _)
  | q :: L, 0, j, hi, v, h => by
    have hj : j < (pcells q).length := (List.getElem?_eq_some_iff.1 h).1
    simp only [flatP, List.flatMap_cons, Nat.zero_mul, Nat.zero_add]
    rw [List.getElem?_append_left hj]
    exact h
  | q :: L, i + 1, j, hi, v, h => by
    have ih := flatP_get L i j (by simpa using hi) v (by simpa using h)
    simp only [flatP, List.flatMap_cons]
    rw [List.getElem?_append_right (by simp [pcells]; omega)]
    rw [show (i + 1) * 4 + j - (pcells q).length = i * 4 + j by simp [pcells]; omega]
    exact ih

/-- A row of the call's own holds these points. -/
def PtsOwn (w : World) (base : Nat) (v : Value) (L : List Pt) : Prop := w.ownsRow base 168 4 v L.length (flatP L)
/-- The i-th of them. -/
def ptAt (L : List Pt) (i : Nat) : Pt := (L[i]?).getD ⟨0, 0, 0, ByteArray.empty⟩
theorem ptAt_eq (L : List Pt) (i : Nat) (hi : i < L.length) : ptAt L i = L[i] := by simp [ptAt, hi]
theorem PtsOwn.nil (w : World) (base : Nat) : PtsOwn w base (.slice none 0 0) [] := World.ownsRow_nil _ _ _ _
theorem PtsOwn.more {w w' : World} {base : Nat} {v : Value} {L : List Pt} (h : PtsOwn w base v L) (hb : Below w.heap.size w w') : PtsOwn w' base v L :=
  own_sole h (Sole.made (S := fun _ => False) hb) fun _ _ x => x
theorem PtsOwn.sole {S : Nat → Prop} {w w' : World} {base : Nat} {v : Value} {L : List Pt} (h : PtsOwn w base v L) (hs : Sole S w w') (hn : ∀ k, v.ownBlock = some k → ¬ S k) : PtsOwn w' base v L := own_sole h hs hn
theorem PtsOwn.open {w : World} {base : Nat} {v : Value} {L : List Pt} (h : PtsOwn w base v L) :
    ∃ p cap, v = .slice p L.length cap ∧ L.length ≤ cap ∧ cap ≤ maxLen ∧ RowP w p 4 L.length (fun i => pcells (ptAt L i)) := by
  rcases h.2 with ⟨rfl, h0⟩ | ⟨g, cap, cur, rfl, hb, hg, h1, h2, h3, h4⟩
  · exact ⟨none, 0, by rw [h0], by omega, Nat.zero_le _, .inl h0⟩
  · refine ⟨_, cap, rfl, h1, h2, .inr ⟨g, 0, rfl, (h.lt g rfl).2, fun i hi j u hu => ?_⟩⟩
    rw [ptAt_eq L i hi] at hu
    have hf := flatP_get L i j hi u hu
    have := h.cells (g := g) rfl (i * 4 + j) u hf
    rw [Nat.zero_add]
    unfold Addr.add at this
    split at this
    · rename_i e
      simpa [e] using this
    · simpa using this

end Go.Proofs.Ytcklmemnjchdcaa

/-
  A region that draws its order, inside a fence (the wide one): its first operations are quiet in a class of worlds, the others go one by one behind them. Needed where a range over a function's loop body is called in such a region.
-/



namespace Go.Proofs.Ytcklmemnjchdcaa
open Go.RowKit

section
variable {P : Program} {ops : Array Oper}

end
end Go.Proofs.Ytcklmemnjchdcaa

/-
  An append of rows of any elements, as one step of a region that draws its order.
-/

namespace Go.Proofs.Ytcklmemnjchdcaa
open Go.RowKit
set_option linter.unusedVariables false
set_option linter.unusedSimpArgs false

theorem step_append_row {α : Type} {T : RowT α} (Kk : T.Ok) {ops : Array Oper} {o : Oper} {a : Act} {K : Act → World → Prop} {Q : Exit → Act → World → Prop} {E : Prop} {w : World} (hgd : o.guard = none) (s x : Operand)
    (ho : o.op = .call { callee := .builtin .append, args := #[s, x], argTypes := #[T.sl, T.sl] })
    (base : Nat) (v : Value) (l : List α) (hs : a.eval s = v) (hown : RowOwn T w base v l) (q : Option Addr) (m c : Nat) (M : List α) (hx : a.eval x = .slice q m c) (hm : M.length = m) (R : RowOf T w q M) (hn : (l.length + m) * T.bytes ≤ 140737488355328) (h63 : l.length + m ≤ maxLen) (hbase : base ≤ w.heap.size)
    (h : ∀ v' w', RowOwn T w' base v' (l ++ M) → w.grownBy w' v.ownBlock → (v'.ownBlock = v.ownBlock ∨ v'.ownBlock = some w.heap.size) → K (a.put o.dst v') w') :
    if Region.wanted o (yielded ops a.tmps) = true then Oper.wp Try.prog o a w K Q else E := by
  have hw : Region.wanted o (yielded ops a.tmps) = true := by simp [Region.wanted, hgd]
  subst hm
  obtain ⟨v', w', hr, O, G, hv⟩ := append_row Kk base o.type w v l hown q c M R hn h63 hbase
  rw [if_pos hw]
  unfold Oper.wp
  simp [execOp, ho, resolve, invoke, builtin, hs, hx, hr, Result.andThen]
  exact h v' w' O G hv
end Go.Proofs.Ytcklmemnjchdcaa

/-
  Whole numbers in a row of the call's own.
-/


namespace Go.Proofs.Ytcklmemnjchdcaa
open Go.RowKit
set_option linter.unusedVariables false

/-- Whole numbers in a row of the call's own. -/
def IntsOwn (w : World) (base : Nat) (v : Value) (l : List Int) : Prop := w.ownsRow base 3 1 v l.length (l.map (Value.int .i64))
theorem IntsOwn.open {w : World} {base : Nat} {v : Value} {l : List Int} (h : IntsOwn w base v l) :
    ∃ p cap, v = .slice p l.length cap ∧ l.length ≤ cap ∧ cap ≤ maxLen ∧ RowP w p 1 l.length (fun i => [.int .i64 (l.getD i 0)]) := by
  rcases h.2 with ⟨rfl, h0⟩ | ⟨g, cap, cur, rfl, hb, hg, h1, h2, h3, h4⟩
  · exact ⟨none, 0, by rw [h0], by omega, Nat.zero_le _, .inl h0⟩
  · refine ⟨_, cap, rfl, h1, h2, .inr ⟨g, 0, rfl, (h.lt g rfl).2, fun i hi j u hu => ?_⟩⟩
    rcases j with _ | j
    · simp at hu
      subst hu
      have := h.cells (g := g) rfl i (.int .i64 (l.getD i 0)) (by simp [hi])
      unfold Addr.add at this
      rw [Nat.zero_add, Nat.mul_one, Nat.add_zero]
      split at this
      · rename_i e
        subst e
        exact this
      · simpa using this
    · simp at hu
theorem IntsOwn.nil (w : World) (base : Nat) : IntsOwn w base (.slice none 0 0) [] := World.ownsRow_nil _ _ _ _
theorem IntsOwn.more {w w' : World} {base : Nat} {v : Value} {l : List Int} (h : IntsOwn w base v l) (hb : Below w.heap.size w w') : IntsOwn w' base v l :=
  own_sole h (Sole.made (S := fun _ => False) hb) fun _ _ x => x
theorem IntsOwn.mono {w : World} {a b : Nat} {v : Value} {l : List Int} (h : IntsOwn w b v l) (hab : a ≤ b) : IntsOwn w a v l := by
  refine ⟨h.1, h.2.imp id ?_⟩
  rintro ⟨g, cap, cur, e, hb, r⟩
  exact ⟨g, cap, cur, e, Nat.le_trans hab hb, r⟩
end Go.Proofs.Ytcklmemnjchdcaa

/-
  A long array, loaded among quiet operations of a region.
-/


namespace Go.Proofs.Ytcklmemnjchdcaa
open Go.RowKit
set_option linter.unusedVariables false

end Go.Proofs.Ytcklmemnjchdcaa

/-
  A region that draws its order, walked in an order of one's own: quiet operations, and among them calls whose value nobody knows ahead, one behind the other; all that stands behind such a call waits for it.
-/

namespace Go.Proofs.Ytcklmemnjchdcaa
open Go.RowKit
set_option linter.unusedVariables false
set_option linter.unusedSimpArgs false

section
variable {P : Program} {ops : Array Oper}

/-- What stands ahead of j in the order. -/
def preOf (π : List Nat) (j : Nat) : List Nat := π.takeWhile fun k => !(k == j)
def nodupB : List Nat → Bool
  | [] => true
  | x :: l => !l.contains x && nodupB l
/-- The order holds the first N, each once; what an operation looks at, and waits for, stands ahead of it. -/
def seenP (ops : Array Oper) (π : List Nat) (N : Nat) : Bool :=
  nodupB π && (List.range N).all (fun i => π.contains i) && π.all fun j => decide (j < N) && match ops[j]? with
    | none => true
    | some o => ((o.looksAt ops).all fun t => match writer ops t with
      | none => true
      | some k => decide (N ≤ k) || ((preOf π j).contains k && Region.waitsFor .any ops j k)) && o.after.all fun e => !Region.binds .any e || (preOf π j).contains e.on
def orderB (ops : Array Oper) (π : List Nat) (N m : Nat) : Bool :=
  Region.noSelect ops && decide (N < ops.size) && Region.sinkB .any ops N && Region.chainB .any ops N && soleB ops m && seenP ops π N &&
    Region.seqB .any ops (ops.size - N) N (Array.ofFn fun i : Fin ops.size => decide (i.val < N))
/-- All behind n waits, straight or by others behind n, for n. -/
def wildP (ops : Array Oper) (π : List Nat) (n : Nat) : Bool :=
  π.all fun j => !(preOf π j).contains n || (preOf π j).any fun k => !(preOf π n).contains k && Region.waitsFor .any ops j k

/-- What is told of operation j with these values, in the walk's own frame. -/
def ToldIn (P : Program) (ops : Array Oper) (C : World → Prop) (a0 : Act) (π : List Nat) (ws : Nat → Value) (j : Nat) (o : Oper) : Prop :=
  ∃ v, (o.dst ≠ none → v = ws j) ∧ Told P ops C o v (puts ops ws (preOf π j) a0)

/-- The order, laid flat. -/
def flatO (segs : List (List Nat × Nat)) (last : List Nat) : List Nat := segs.flatMap (fun s => s.1 ++ [s.2]) ++ last

/-- Quiet ones, whatever else lasts. -/
def quietAll (P : Program) (l : List Oper) (W : World) (S : World → Prop) (js : List Nat) (a A : Act) : Prop :=
  ∀ S', Stable S' → (∀ w, S' w → S w) → Nonempty (LaterC W S') → wpQuiet P l.toArray (fun w' => ∃ u : LaterC W S', w' = u.val) (fun a' => a' = A) (js.filterMap (l.toArray[·]?)) a

/-- The walk, in the order of one's own. -/
def walkW (P : Program) (l : List Oper) (Q : Exit → Act → World → Prop) (N : Nat) (W : World) (last : List Nat) : (World → Prop) → List (List Nat × Nat) → Act → Prop
  | S, [], a => ∃ A, quietAll P l W S last a A ∧ ∀ u : LaterC W S, wpList P l.toArray Q (l.drop N) A u.val
  | S, s :: segs, a => ∃ A, quietAll P l W S s.1 a A ∧ ∃ (o : Oper) (f : FuncId) (args : Array Value) (G : Value → World → Prop), l.toArray[s.2]? = some o ∧ o.dst ≠ none ∧ Region.wanted o (yielded l.toArray A.tmps) = true ∧ (∀ w, (execOp A.eval o).run P w = .ok (.enter f args) w) ∧
      (∀ v, Stable (G v)) ∧ (∀ u : LaterC W S, Calls P f args u.val fun e w' => ∃ v, e = .returned v ∧ Below u.val.heap.size u.val w' ∧ G v w') ∧
      ∀ v, Nonempty (LaterC W fun w => S w ∧ G v w) → walkW P l Q N W last (fun w => S w ∧ G v w) segs (A.put o.dst v)

end
end Go.Proofs.Ytcklmemnjchdcaa

/-
  The document's own: are two lists of numbers one? Here of one and the same.
-/





namespace Go.Proofs.Ytcklmemnjchdcaa
open Go.RowKit
set_option linter.unusedVariables false
set_option linter.unusedSimpArgs false

end Go.Proofs.Ytcklmemnjchdcaa

/-
  What an argument that comes in is: an array of numbers, by value.
-/



namespace Go.Proofs.Ytcklmemnjchdcaa
open Go.ChangeShapes Go.WideShapes Go.ChangeAt Go.RowKit
set_option linter.unusedVariables false

/-- The number in a cell. -/
def numIn : Value → Int
  | .int _ a => a
  | _ => 0
end Go.Proofs.Ytcklmemnjchdcaa

namespace Go.Proofs.Ytcklmemnjchdcaa
open Go.RowKit
set_option linter.unusedVariables false

section
variable {P : Program}

/-- One value more. -/
def fset {α : Type} (f : Nat → α) (j : Nat) (v : α) : Nat → α := fun k => if k = j then v else f k
theorem fset_same {α : Type} (f : Nat → α) (j : Nat) (v : α) : fset f j v j = v := if_pos rfl
theorem fset_ne {α : Type} (f : Nat → α) {j k : Nat} (v : α) (h : k ≠ j) : fset f j v k = f k := if_neg h

def invB (ops : Array Oper) (n m : Nat) : Bool :=
  Region.noSelect ops && decide (n < ops.size) && Region.sinkB .any ops n && Region.chainB .any ops n && soleB ops m &&
    ((List.range n).all fun j => match ops[j]? with
      | none => true
      | some o => o.after.all fun e => !Region.binds .any e || decide (e.on < j)) &&
    Region.seqB .any ops (ops.size - n) n (Array.ofFn fun i : Fin ops.size => decide (i.val < n))

/-- What operation j owes: done in the frame a, in the world w, it leaves some value behind which K holds. -/
def StepOf (P : Program) (ops : Array Oper) (Q : Exit → Act → World → Prop) (o : Oper) (a : Act) (w : World) (K : Value → World → Prop) : Prop :=
  if Region.wanted o (yielded ops a.tmps) = true then Oper.wp P o a w (fun a' w' => ∃ v, a' = a.put o.dst v ∧ K v w') Q else K undef w

theorem wp_region_inv {id : Nat} {Q : Exit → Act → World → Prop} {a0 : Act} {W : World} {l : List Oper} (N : Nat) (I : (Nat → Bool) → (Nat → Value) → World → Prop) (hm : P.follows .mixedOrders = true)
    (hB : invB l.toArray N a0.tmps.size = true)
    (h0 : I (fun _ => false) (fun _ => undef) W.drew)
    (hstep : ∀ (j : Nat) (o : Oper), j < N → l[j]? = some o → ∀ (D : Nat → Bool) (vs : Nat → Value) (a : Act) (w : World), D j = false → (∀ k, Region.waitsFor .any l.toArray j k = true → D k = true) →
      (∀ k t, D k = true → writer l.toArray t = some k → a.tmps[t]? = some (vs k)) → (∀ t, writer l.toArray t = none → a.tmps[t]? = a0.tmps[t]?) → I D vs w →
      StepOf P l.toArray Q o a w (fun v w' => I (fset D j true) (fset vs j v) w'))
    (hend : ∀ (D : Nat → Bool) (vs : Nat → Value) (w : World), (∀ i, i < N → D i = true) → I D vs w → wpList P l.toArray Q (l.drop N) (puts l.toArray vs (List.range N) a0) w) : (Code.region id l.toArray true).wp P Q a0 W := by
  simp only [invB, Bool.and_eq_true, decide_eq_true_eq] at hB
  obtain ⟨⟨⟨⟨⟨⟨hsel, hn⟩, hs⟩, hc⟩, hsole⟩, haft⟩, hseq⟩ := hB
  have hn' : N < l.length := by simpa using hn
  have haft' : ∀ j o, j < N → l.toArray[j]? = some o → ∀ e ∈ o.after, Region.binds .any e = true → e.on < j := by
    intro j o hj ho e he hb
    have := List.all_eq_true.1 haft j (List.mem_range.2 hj)
    simp only [ho] at this
    have := Array.all_eq_true_iff_forall_mem.1 this e he
    simpa [hb] using this
  have lex : ∀ (vs : Nat → Value) (t : Nat), (puts l.toArray vs (List.range N) a0).tmps[t]? = match writer l.toArray t with
      | some k => if k < N then some (vs k) else a0.tmps[t]?
      | none => a0.tmps[t]? := by
    intro vs t
    cases hw : writer l.toArray t with
    | none =>
      refine (puts_get vs t _ _).1 fun i hi hd => ?_
      have hlt : i < l.toArray.size := by have := List.mem_range.1 hi; omega
      have hoi : l.toArray[i]? = some l.toArray[i] := Array.getElem?_eq_getElem hlt
      rw [hoi] at hd
      exact writer_none hw hoi hd
    | some k =>
      obtain ⟨o, ho, hd⟩ := writer_some hw
      have hsole' : ∀ i, i < l.toArray.size → (l.toArray[i]?).bind (·.dst) = some t → i = k := fun i hi hdi => by
        have hoi : l.toArray[i]? = some l.toArray[i] := Array.getElem?_eq_getElem hi
        rw [hoi] at hdi
        have := (sole_dst hsole hoi hdi).1
        rw [hw] at this
        exact (Option.some.inj this).symm
      by_cases hk : k < N
      · simp only [hk, if_true]
        exact (puts_get vs t _ _).2 k (fun i hi hdi => hsole' i (by have := List.mem_range.1 hi; omega) hdi) (List.mem_range.2 hk) (by rw [ho]; exact hd) (sole_dst hsole ho hd).2
      · simp only [hk, if_false]
        refine (puts_get vs t _ _).1 fun i hi hdi => hk ?_
        have h1 := List.mem_range.1 hi
        rw [← hsole' i (by omega) hdi]
        exact h1
  refine wp_region_any hm ?_
  have main : ∀ (fuel : Nat) (L : Array Bool) (a : Act) (w : World) (vs : Nat → Value), Mid l.toArray a0 vs L a → HeadInv .any l.toArray N L → I (fun k => L.getD k false) vs w → L.toList.count false = fuel → wpAny P .any l.toArray Q fuel L a w := by
    intro fuel
    induction fuel with
    | zero =>
      intro L a w vs mid inv hI hcnt
      exfalso
      have h1 := inv.tail N (Nat.le_refl _) hn
      have hl : N < L.size := by rw [inv.size]; exact hn
      have : false ∈ L.toList := by
        have h2 : L[N] = false := by simpa [hl] using h1
        rw [← h2]; simp
      have := List.count_pos_iff.2 this
      omega
    | succ fuel ih =>
      intro L a w vs mid inv hI hcnt
      by_cases hall : ∀ i, i < N → L.getD i false = true
      · have hL : L = Array.ofFn fun i : Fin l.toArray.size => decide (i.val < N) := by
          apply Array.ext
          · simp [inv.size]
          · intro i h1 h2
            have hi : i < l.toArray.size := by rw [← inv.size]; exact h1
            simp only [Array.getElem_ofFn]
            by_cases hin : i < N
            · have := hall i hin
              simp [h1] at this
              simp [hin, this]
            · have := inv.tail i (by omega) hi
              simp [h1] at this
              simp [hin, this]
        have ha : a = puts l.toArray vs (List.range N) a0 := by
          have e1 : a.tmps = (puts l.toArray vs (List.range N) a0).tmps := by
            apply Array.ext_getElem?
            intro t
            rw [mid.slot t, lex vs t]
            cases hw : writer l.toArray t with
            | none => rfl
            | some k =>
              simp only []
              by_cases hk : k < N
              · rw [if_pos (hall k hk), if_pos hk]
              · rw [if_neg hk, if_neg]
                obtain ⟨o, ho, _⟩ := writer_some hw
                have := getD_both (inv.tail k (by omega) (Array.getElem?_eq_some_iff.1 ho).1)
                rw [this]; simp
          have e2 : a.defers = (puts l.toArray vs (List.range N) a0).defers := by rw [mid.defers]; exact (puts_defers vs _ _).symm
          cases a
          cases hp : puts l.toArray vs (List.range N) a0
          simp only [hp] at e1 e2
          subst e1 e2
          rfl
        have hfin := hend _ vs w hall hI
        have hcnt2 : fuel + 1 = (l.drop N).length := by
          rw [← hcnt, hL]
          simp only [Array.toList_ofFn, List.length_drop]
          have gen : ∀ (m n : Nat), ((List.ofFn fun i : Fin m => decide (i.val < n)).count false) = m - n := by
            intro m
            induction m with
            | zero => intro n; simp
            | succ m ihm =>
              intro n
              cases n with
              | zero =>
                have := ihm 0
                simp [List.ofFn_succ] at this ⊢
                omega
              | succ n =>
                have := ihm n
                simp [List.ofFn_succ] at this ⊢
                omega
          simpa using gen l.toArray.size N
        rw [hcnt2]
        refine wpAny_of_seq (md := .any) (l.drop N) N L a w (fun j => by simp [List.getElem?_drop]) ?_ ?_
        · rw [hL]
          have e : (l.drop N).length = l.toArray.size - N := by simp
          rw [e]; exact hseq
        · rw [ha]; exact hfin
      · have hex : ∃ i, i < N ∧ L.getD i true = false := by
          refine Classical.byContradiction fun hno => hall fun i hi => ?_
          cases hg : L.getD i true with
          | false => exact absurd ⟨i, hi, hg⟩ hno
          | true =>
            have hl : i < L.size := by rw [inv.size]; omega
            simp [hl] at hg ⊢
            exact hg
        obtain ⟨i0, hi0, hun0⟩ := hex
        have hready : ∀ j ∈ Region.ready .any l.toArray L, j < N := fun j hj => by
          rcases Nat.lt_or_ge j N with h | h
          · exact h
          · exact absurd hj (tail_waits hs hc hn inv _ i0 rfl hi0 hun0 j h)
        have hne : Region.ready .any l.toArray L ≠ [] := by
          intro hnil
          have hl : ∀ j, j < N → L.getD j false = true := by
            intro j
            induction j using Nat.strongRecOn with
            | _ j ihj =>
              intro hj
              cases hlj : L.getD j false with
              | true => rfl
              | false =>
                exfalso
                have hjo : j < l.toArray.size := by omega
                have hoj : l.toArray[j]? = some l.toArray[j] := Array.getElem?_eq_getElem hjo
                have : j ∈ Region.ready .any l.toArray L := mem_ready.2 ⟨getD_in (by rw [inv.size]; exact hjo) hlj, _, hoj, fun e he hb => by
                  have := haft' j _ hj hoj e he hb
                  exact ihj e.on this (by omega)⟩
                rw [hnil] at this
                cases this
          exact hall hl
        refine ⟨fun hr => absurd hr hne, fun j hj => ?_⟩
        have hjn := hready j hj
        obtain ⟨hun, o, ho, hpre⟩ := mem_ready.1 hj
        have hjs : j < L.size := by rw [inv.size]; omega
        have hcnt' : (L.setIfInBounds j true).toList.count false = fuel := by
          have := count_set L.toList j (by simp [hjs] at hun ⊢; exact hun)
          simp only [Array.toList_setIfInBounds]
          omega
        have eD : (fun k => (L.setIfInBounds j true).getD k false) = fset (fun k => L.getD k false) j true := by
          funext k
          by_cases hk : k = j
          · subst hk; rw [fset_same]; simp [hjs]
          · rw [fset_ne _ _ hk, getD_set_ne false (fun e => hk e.symm)]
        have next : ∀ v w', I (fset (fun k => L.getD k false) j true) (fset vs j v) w' → wpAny P .any l.toArray Q fuel (L.setIfInBounds j true) (a.put o.dst v) w' := by
          intro v w' hI'
          refine ih _ _ _ (fset vs j v) ?_ (inv.set hj hjn) (by rw [eD]; exact hI') hcnt'
          refine ⟨by rw [put_defers]; exact mid.defers, by rw [put_size]; exact mid.size, fun t => ?_⟩
          rw [put_get]
          by_cases hd : o.dst = some t
          · obtain ⟨hw, ht⟩ := sole_dst hsole ho hd
            rw [if_pos ⟨hd, by rw [mid.size]; exact ht⟩, hw]
            simp [hjs, fset_same]
          · rw [if_neg (fun h => hd h.1), mid.slot t]
            cases hw : writer l.toArray t with
            | none => rfl
            | some k =>
              have hkj : j ≠ k := by
                rintro rfl
                obtain ⟨o', ho', hd'⟩ := writer_some hw
                rw [ho] at ho'; cases ho'
                exact hd hd'
              simp only []
              rw [getD_set_ne false hkj, fset_ne _ _ (fun e => hkj e.symm)]
        have hst := hstep j o hjn (by simpa using ho) (fun k => L.getD k false) vs a w (getD_both hun) (fun k hk => by
          obtain ⟨oj, hoj, e, he, hb, hon⟩ := Region.waitsFor_spec hk
          have : oj = o := Option.some.inj (hoj.symm.trans ho)
          subst this
          exact hon ▸ hpre e he hb) (fun k t hk hw => by rw [mid.slot t, hw]; simp only [hk, if_true]) (fun t hw => by rw [mid.slot t, hw]) hI
        unfold wpOp
        simp only [ho]
        unfold StepOf at hst
        by_cases hwt : Region.wanted o (yielded l.toArray a.tmps) = true
        · rw [if_pos hwt] at hst ⊢
          left
          refine Oper.wp_mono ?_ hst
          rintro a' w' ⟨v, rfl, hI'⟩
          exact next v w' hI'
        · rw [if_neg hwt] at hst ⊢
          exact next undef w hst
  refine main l.toArray.size _ a0 W.drew (fun _ => undef) ⟨rfl, rfl, fun t => ?_⟩ ⟨by simp, fun j oj _ hl => (by rw [getD_replicate_false] at hl; cases hl), fun t _ ht => getD_in (by simpa using ht) (getD_replicate_false _ _)⟩ ?_ (by simp)
  · cases hw : writer l.toArray t with
    | none => rfl
    | some k => simp only [getD_replicate_false]; simp
  · have e : (fun k => (Array.replicate l.toArray.size false).getD k false) = fun _ => false := by funext k; exact getD_replicate_false _ _
    rw [e]; exact h0
variable {ops : Array Oper} {Q : Exit → Act → World → Prop}
theorem wanted_plain {o : Oper} (hg : o.guard = none) (y : Nat → Option Bool) : Region.wanted o y = true := by simp [Region.wanted, hg]
theorem StepOf.value {o : Oper} {a : Act} {w w' : World} {K : Value → World → Prop} (v : Value) (hw : Region.wanted o (yielded ops a.tmps) = true) (hr : (execOp a.eval o).run P w = .ok (.value v) w') (h : K v w') : StepOf P ops Q o a w K := by
  unfold StepOf
  rw [if_pos hw]
  unfold Oper.wp
  rw [hr, Oper.upon_value]
  exact ⟨v, rfl, h⟩
theorem StepOf.skip {o : Oper} {a : Act} {w w' : World} {K : Value → World → Prop} (hw : Region.wanted o (yielded ops a.tmps) = true) (hr : (execOp a.eval o).run P w = .ok .skip w') (h : K undef w') : StepOf P ops Q o a w K := by
  unfold StepOf
  rw [if_pos hw]
  unfold Oper.wp
  rw [hr, Oper.upon_skip]
  exact ⟨undef, rfl, h⟩
theorem StepOf.call {o : Oper} {a : Act} {w : World} {K : Value → World → Prop} (f : FuncId) (args : Array Value) (hw : Region.wanted o (yielded ops a.tmps) = true) (hr : (execOp a.eval o).run P w = .ok (.enter f args) w)
    (h : Calls P f args w fun e w' => ∃ v, e = .returned v ∧ K v w') : StepOf P ops Q o a w K := by
  unfold StepOf
  rw [if_pos hw]
  unfold Oper.wp
  rw [hr, Oper.upon_enter]
  refine h.mono ?_
  rintro e w' ⟨v, rfl, hK⟩
  exact ⟨v, rfl, hK⟩
theorem StepOf.kept {o : Oper} {a : Act} {w : World} {K : Value → World → Prop} (hw : Region.wanted o (yielded ops a.tmps) = false) (h : K undef w) : StepOf P ops Q o a w K := by
  unfold StepOf
  rw [if_neg (by rw [hw]; simp)]
  exact h
/-- Those done have the values of a table. -/
def Vals (V : Nat → Option Value) (D : Nat → Bool) (vs : Nat → Value) : Prop := ∀ k v, D k = true → V k = some v → vs k = v
theorem Vals.nil {V : Nat → Option Value} : Vals V (fun _ => false) (fun _ => undef) := fun k v h => by cases h
theorem Vals.set {V : Nat → Option Value} {D : Nat → Bool} {vs : Nat → Value} (h : Vals V D vs) (j : Nat) (v : Value) (hv : ∀ u, V j = some u → v = u) : Vals V (fset D j true) (fset vs j v) := by
  intro k u hD hV
  by_cases hk : k = j
  · subst hk; rw [fset_same]; exact hv u hV
  · rw [fset_ne _ _ hk] at hD ⊢; exact h k u hD hV
/-- What an operation reads of one that is done; of what stood there ahead of the region. -/
theorem at_done {V : Nat → Option Value} {D : Nat → Bool} {vs : Nat → Value} {a : Act} (H : Vals V D vs) (hv : ∀ k t, D k = true → writer ops t = some k → a.tmps[t]? = some (vs k)) {k : Nat} (hk : D k = true) (t : Tmp) (hw : writer ops t = some k) {v : Value} (hV : V k = some v) : a.tmps[t]?.getD undef = v := by
  rw [hv k t hk hw, H k v hk hV]; rfl
theorem at_base {a a0 : Act} (hb : ∀ t, writer ops t = none → a.tmps[t]? = a0.tmps[t]?) (t : Tmp) (hw : writer ops t = none) {v : Value} (h0 : a0.tmps[t]? = some v) : a.tmps[t]?.getD undef = v := by
  rw [hb t hw, h0]; rfl
theorem eval_get {a : Act} {t : Tmp} {v : Value} (h : a.tmps[t]?.getD undef = v) : a.eval (.tmp t) = v := by simp [Act.eval, h]
end
end Go.Proofs.Ytcklmemnjchdcaa
