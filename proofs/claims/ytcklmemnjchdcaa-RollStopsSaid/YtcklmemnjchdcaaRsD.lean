/-
  Package disk: Load.
-/
import Derived.Test.YtcklmemnjchdcaaRsZ
import Derived.Maps.OwnSet
import Derived.WalkKit
import Derived.OwnWalk
import Derived.Laws.OwnMore
import Derived.BigQuiet
import Derived.RangeFuncNested
import Derived.RangeFuncBox
import Derived.RangeFuncBound
import Derived.RangeFuncCalls
import Derived.RangeFuncLeaves
import Derived.Shelf.Abstract
import Derived.Shelf.RegionOpen
import Derived.OwnWalkIn
import Derived.TacticsInMore
import Derived.LoopNIn
import Derived.LoopIn
import Derived.Lib.BufferMore
import Derived.Lib.SliceRun

/-
  Package disk: what a disk's blocks hold, and what stays of it.
-/






namespace Go.Proofs.Ytcklmemnjchdcaa
open Go.RowKit Go.Maps
set_option linter.unusedVariables false
set_option linter.unusedSimpArgs false

/-- A write that waits. -/
structure WtS where
  at_ : Int
  x : OcS
def wtT : RowT WtS := { ty := 103, sl := 61, sz := 2, bytes := 32, zero := .agg #[.int .i64 0, .slice none 0 0], cells := fun y => [.int .i64 y.at_, .slice y.x.a y.x.l.length y.x.cap], dflt := ⟨0, ⟨none, 0, []⟩⟩ }
theorem wtOk : wtT.Ok := ⟨Try.underlying61, by kernel_rfl, rfl, by decide, fun _ => rfl, fun x u hu => by
  simp [wtT] at hu
  rcases hu with rfl | rfl <;> rfl⟩
/-- Fates. -/
def fatT : RowT Int := { ty := 3, sl := 35, sz := 1, bytes := 8, zero := .int .i64 0, cells := fun x => [.int .i64 x], dflt := 0 }
/-- The last of those that are z. -/
def lastI (l : List Int) (z : Int) : Option Nat := (l.foldl (fun (r : Nat × Option Nat) a => (r.1 + 1, if a = z then some r.1 else r.2)) (0, none)).2
theorem lastI_fst (z : Int) : ∀ (l : List Int) (r : Nat × Option Nat), (l.foldl (fun (r : Nat × Option Nat) a => (r.1 + 1, if a = z then some r.1 else r.2)) r).1 = r.1 + l.length
  | [], r => rfl
  | a :: l, r => by rw [List.foldl_cons, lastI_fst z l, List.length_cons]; simp only; omega
theorem lastI_snoc (l : List Int) (a z : Int) : lastI (l ++ [a]) z = if a = z then some l.length else lastI l z := by
  unfold lastI
  rw [List.foldl_append, List.foldl_cons, List.foldl_nil, lastI_fst]
  simp
/-- Octets in a block that lets itself be written. -/
def OcS.soft (w : World) (x : OcS) : Prop := x.there w ∧ ∀ b o, x.a = some ⟨b, o, none⟩ → b < w.heap.size ∧ ∀ i, w.frozen? ⟨b, i, none⟩ = false
theorem so_sole {S : Nat → Prop} {w w' : World} {x : OcS} (h : x.soft w) (hs : Sole S w w') (hn : ∀ b o, x.a = some ⟨b, o, none⟩ → ¬ S b) : x.soft w' :=
  ⟨oc_sole h.1 hs hn, fun b o e => ⟨Nat.lt_of_lt_of_le (h.2 b o e).1 hs.size, fun i => (hs.frozen (h.2 b o e).1 (hn b o e)).trans ((h.2 b o e).2 i)⟩⟩
theorem OcS.soft.more {w w' : World} {x : OcS} (h : x.soft w) (hb : Below w.heap.size w w') : x.soft w' := so_sole h (Sole.made (S := fun _ => False) hb) fun _ _ _ => id

/-- What a disk's blocks hold. -/
structure DM where
  off : Bool
  tl : Bool
  cl : Int
  tf : Bool
  fl : Int
  sp : Option Addr
  sc : Nat
  Ls : List OcS
  wp : Option Addr
  wc : Nat
  Qs : List WtS
  fp : Option Addr
  fc : Nat
  Fs : List Int
  lm : Nat
  om : Nat
  n : Nat
  n' : Nat
  DL : DataW Unit
  DO : DataW Unit
abbrev DM.sv (m : DM) : Value := .slice m.sp m.Ls.length m.sc
abbrev DM.wv (m : DM) : Value := .slice m.wp m.Qs.length m.wc
abbrev DM.fv (m : DM) : Value := .slice m.fp m.Fs.length m.fc
def DM.cells (m : DM) : Array Value := #[.bool true, .bool m.off, m.sv, m.wv, .map (some m.lm), .map (some m.om), .bool m.tl, .int .i64 m.cl, m.fv, .bool m.tf, .int .i64 m.fl]
/-- The blocks of its own parts. -/
def DM.base (m : DM) (b g : Nat) : Prop := g = b ∨ g = m.lm ∨ g = m.om ∨ m.sv.ownBlock = some g ∨ m.wv.ownBlock = some g ∨ m.fv.ownBlock = some g
structure DM.Apart (m : DM) (b : Nat) : Prop where
  bl : b ≠ m.lm
  bo : b ≠ m.om
  lo : m.lm ≠ m.om
  s : ∀ k, m.sv.ownBlock = some k → k ≠ b ∧ k ≠ m.lm ∧ k ≠ m.om ∧ m.wv.ownBlock ≠ some k ∧ m.fv.ownBlock ≠ some k
  w : ∀ k, m.wv.ownBlock = some k → k ≠ b ∧ k ≠ m.lm ∧ k ≠ m.om ∧ m.fv.ownBlock ≠ some k
  f : ∀ k, m.fv.ownBlock = some k → k ≠ b ∧ k ≠ m.lm ∧ k ≠ m.om
/-- A sector's octets: in a block of its own. -/
def OcS.full (x : OcS) (K : Nat → Prop) (m : DM) (b : Nat) : Prop := ∃ g, x.a = some ⟨g, 0, none⟩ ∧ K g ∧ ¬ m.base b g ∧ x.l.length = 256
/-- What is said of where the last write of a sector stands. -/
structure LastOk (D : DataW Unit) (l : List Int) : Prop where
  map : IsMap D
  no : ∀ z : Int, lastI l z = none → Maps.has D (.int .i64 z) = false
  is : ∀ (z : Int) (i : Nat), lastI l z = some i → Maps.has D (.int .i64 z) = true ∧ ∀ d, D.atKey (.int .i64 z) d = .lit (.int .i64 (i : Int))
theorem LastOk.nil : LastOk (.map []) [] := ⟨isMap_empty, fun z _ => rfl, fun z i h => by cases h⟩

/-- No two sectors lie in one block; a sector lies where a write of its own waits, or where none does. -/
structure DM.Uniq (m : DM) : Prop where
  s : (m.Ls.map OcS.a).Nodup
  q : (m.Qs.map fun y => y.x.a).Nodup
  sq : ∀ s i, s < m.Ls.length → i < m.Qs.length → (ocA m.Ls s).a = (atR wtT m.Qs i).x.a → (s : Int) = (atR wtT m.Qs i).at_

structure DiskM (w : World) (b : Nat) (m : DM) (K : Nat → Prop) : Prop where
  blk : Blk w b m.cells
  apart : m.Apart b
  kk : ∀ k, m.base b k → K k
  klt : ∀ k, K k → k < w.heap.size
  S : RowOwn ocT w 0 m.sv m.Ls
  SO : ∀ x ∈ m.Ls, x.soft w ∧ x.full K m b
  Q : RowOwn wtT w 0 m.wv m.Qs
  QO : ∀ y ∈ m.Qs, (y.x.soft w ∧ y.x.full K m b) ∧ 0 ≤ y.at_ ∧ y.at_ < (m.Ls.length : Int)
  F : RowOwn fatT w 0 m.fv m.Fs
  L : w.ownsMap Try.prog 3 (plainElem Try.prog 3) m.lm m.n m.DL
  O : w.ownsMap Try.prog 3 unitElem m.om m.n' m.DO
  last : LastOk m.DL (m.Qs.map (·.at_))
  lenS : m.Ls.length ≤ 4096
  cwf : (Lit.int .i64 m.cl).wf = true
  fwf : (Lit.int .i64 m.fl).wf = true
  uniq : m.Uniq

theorem map_sole {S : Nat → Prop} {w w' : World} {R : Value → Option (DataW Unit × List MemPlace)} {b n : Nat} {D : DataW Unit} (h : w.ownsMap Try.prog 3 R b n D) (hs : Sole S w w') (hn : ¬ S b) : w'.ownsMap Try.prog 3 R b n D := by
  have hlt := h.lt
  obtain ⟨es, clock, hb, r⟩ := h
  exact ⟨es, clock, (hs.block b hlt hn).trans hb, r⟩
/-- Nothing of it is touched. -/
theorem DiskM.kept {S : Nat → Prop} {w w' : World} {b : Nat} {m : DM} {K : Nat → Prop} (h : DiskM w b m K) (hs : Sole S w w') (hn : ∀ k, K k → ¬ S k) : DiskM w' b m K := by
  refine ⟨h.blk.sole hs (hn _ (h.kk _ (.inl rfl))), h.apart, h.kk, fun k hk => Nat.lt_of_lt_of_le (h.klt k hk) hs.size, h.S.sole hs fun k e => hn k (h.kk k (.inr (.inr (.inr (.inl e))))), fun x hx => ?_, h.Q.sole hs fun k e => hn k (h.kk k (.inr (.inr (.inr (.inr (.inl e)))))), fun y hy => ?_,
    h.F.sole hs fun k e => hn k (h.kk k (.inr (.inr (.inr (.inr (.inr e)))))), map_sole h.L hs (hn _ (h.kk _ (.inr (.inl rfl)))), map_sole h.O hs (hn _ (h.kk _ (.inr (.inr (.inl rfl))))), h.last, h.lenS, h.cwf, h.fwf, h.uniq⟩
  · obtain ⟨ht, g, e, kg, r⟩ := h.SO x hx
    exact ⟨so_sole ht hs fun b' o e' => by rw [e] at e'; cases e'; exact hn _ kg, g, e, kg, r⟩
  · obtain ⟨⟨ht, g, e, kg, r⟩, hat⟩ := h.QO y hy
    exact ⟨⟨so_sole ht hs fun b' o e' => by rw [e] at e'; cases e'; exact hn _ kg, g, e, kg, r⟩, hat⟩
theorem DiskM.more {w w' : World} {b : Nat} {m : DM} {K : Nat → Prop} (h : DiskM w b m K) (hb : Below w.heap.size w w') : DiskM w' b m K := h.kept (Sole.made (S := fun _ => False) hb) fun _ _ x => x
/-- Only its own numbers become others. -/
theorem DiskM.scal {w w' : World} {b : Nat} {m : DM} {K : Nat → Prop} (h : DiskM w b m K) (o t f : Bool) (c l : Int) (hc : (Lit.int .i64 c).wf = true) (hl : (Lit.int .i64 l).wf = true) (hs : Sole (fun k => k = b) w w')
    (hB : Blk w' b { m with off := o, tl := t, cl := c, tf := f, fl := l }.cells) : DiskM w' b { m with off := o, tl := t, cl := c, tf := f, fl := l } K := by
  have hx : ∀ x : OcS, x.soft w ∧ x.full K m b → x.soft w' ∧ x.full K { m with off := o, tl := t, cl := c, tf := f, fl := l } b := fun x ⟨ht, g, e, kg, hg, r⟩ => ⟨so_sole ht hs fun b' o e' => by rw [e] at e'; cases e'; exact fun h' => hg (.inl h'), g, e, kg, hg, r⟩
  exact ⟨hB, ⟨h.apart.bl, h.apart.bo, h.apart.lo, h.apart.s, h.apart.w, h.apart.f⟩, h.kk, fun k hk => Nat.lt_of_lt_of_le (h.klt k hk) hs.size, h.S.sole hs fun k e h' => (h.apart.s k e).1 h', fun x hx' => hx x (h.SO x hx'), h.Q.sole hs fun k e h' => (h.apart.w k e).1 h', fun y hy => ⟨hx _ (h.QO y hy).1, (h.QO y hy).2⟩,
    h.F.sole hs fun k e h' => (h.apart.f k e).1 h', map_sole h.L hs fun h' => h.apart.bl h'.symm, map_sole h.O hs fun h' => h.apart.bo h'.symm, h.last, h.lenS, hc, hl, ⟨h.uniq.s, h.uniq.q, h.uniq.sq⟩⟩
end Go.Proofs.Ytcklmemnjchdcaa

/-
  Package disk: trouble, has, Count, Waits, Fail.
-/

namespace Go.Proofs.Ytcklmemnjchdcaa
open Go.RowKit Go.Maps
set_option linter.unusedVariables false
set_option linter.unusedSimpArgs false

/-- Can a call do nothing? -/
def DM.trb (m : DM) : Bool := m.off || (m.tf && decide (m.fl ≤ 0))
def DM.after (m : DM) : DM := { m with tf := if m.off then m.tf else if m.tf && decide (m.fl ≤ 0) then false else m.tf, fl := if m.off then m.fl else if m.tf && decide (m.fl ≤ 0) then 0 else wrap64 (m.fl - 1) }

set_option maxRecDepth 100000 in
set_option maxHeartbeats 2000000 in
theorem trouble_any (m : DM) (b : Nat) (w : World) (B : Blk w b m.cells) : Calls Try.prog 29 #[.pointer (some ⟨b, 0, none⟩)] w fun e w' => e = .returned (.int .i64 (if m.trb then 20 else 0)) ∧ Blk w' b m.after.cells ∧ Sole (fun k => k = b) w w' := by
  have Bh := hid B
  obtain ⟨off, tl, cl, tf, fl, sp, sc, Ls, wp, wc, Qs, fp, fc, Fs, lm, om, n, n', DL, DO⟩ := m
  unfold DM.trb DM.after
  simp only [DM.cells] at B Bh ⊢
  generalize Ls.length = ls at *
  generalize Qs.length = qs at *
  generalize Fs.length = fs at *
  have B0 := Bh.out
  obtain ⟨l0, k0, f0⟩ := B
  go_enter Try.func29, Try.ntmps29
  cases off with
  | true =>
    clear B0
    go_wp2_with fail
    go_ret
    exact ⟨rfl, Bh.out, Sole.refl _ _⟩
  | false =>
    by_cases h : tf = true ∧ fl ≤ 0
    · obtain ⟨rfl, hf⟩ := h
      have B1 := hid ((B0.set 9 (.bool false) (by simp)).set 10 (.int .i64 0) (by simp))
      have S1 := hid ((Sole.setCell (S := fun k => k = b) w (b := b) (o := 9) (.bool false) rfl).trans (Sole.setCell _ (b := b) (o := 10) (.int .i64 0) rfl))
      have hfd : decide (fl ≤ 0) = true := decide_eq_true hf
      clear B0
      go_wp2_with fail
      go_ret
      simp only [hfd, Bool.and_true, Bool.true_and, Bool.false_or, Bool.or_true, Bool.false_eq_true, if_false, ↓reduceIte]
      exact ⟨rfl, B1.out, S1.out⟩
    · have B1 := hid (B0.set 10 (.int .i64 (wrap64 (fl - 1))) (by simp))
      have S1 := hid (Sole.setCell (S := fun k => k = b) w (b := b) (o := 10) (.int .i64 (wrap64 (fl - 1))) rfl)
      clear B0
      cases tf with
      | false =>
        go_wp2_with fail
        go_ret
        exact ⟨rfl, B1.out, S1.out⟩
      | true =>
        have hf : ¬ fl ≤ 0 := fun h' => h ⟨rfl, h'⟩
        have hfd : decide (fl ≤ 0) = false := decide_eq_false hf
        clear h
        go_wp2_with fail
        go_ret
        simp only [hfd, Bool.and_false, Bool.false_or, Bool.or_false, Bool.false_eq_true, if_false, ↓reduceIte]
        exact ⟨rfl, B1.out, S1.out⟩
set_option maxRecDepth 100000 in
theorem has_any (m : DM) (b : Nat) (z : Int) (w : World) (B : Blk w b m.cells) : Calls Try.prog 30 #[.pointer (some ⟨b, 0, none⟩), .int .i64 z] w fun e w' => e = .returned (.bool (decide (0 ≤ z ∧ z < (m.Ls.length : Int)))) ∧ w' = w := by
  simp only [DM.cells, DM.sv, DM.wv, DM.fv] at B
  obtain ⟨l0, k0, f0⟩ := B
  go_enter Try.func30, Try.ntmps30
  by_cases h : 0 ≤ z
  · have hd : decide (z ≥ 0) = true := decide_eq_true h
    go_wp2_with fail
    go_ret
    exact ⟨by simp [h], rfl⟩
  · have hd : decide (z ≥ 0) = false := decide_eq_false h
    go_wp2_with fail
    go_ret
    exact ⟨by simp [h], rfl⟩
end Go.Proofs.Ytcklmemnjchdcaa

/-
  Package disk: forget, Read.
-/


namespace Go.Proofs.Ytcklmemnjchdcaa
open Go.RowKit Go.Maps Go.MapKept Go.ChangeMaps Go.WideShapes
set_option linter.unusedVariables false
set_option linter.unusedSimpArgs false

/-- Nothing waits any more. -/
def DM.clean (m : DM) : DM := { m with wp := none, wc := 0, Qs := [], n := 0, DL := .map [] }
theorem dlawK : Keyed Try.prog 3 := int_keyed Try.underlying3
theorem dzeroK (w : World) : (zeroValue 3).run Try.prog w = .ok (.int .i64 0) w := by kernel_rfl
theorem after_wf {m : DM} (h : (Lit.int .i64 m.fl).wf = true) : (Lit.int .i64 m.after.fl).wf = true := by
  unfold DM.after
  dsimp only
  split
  · exact h
  · split
    · decide
    · exact wrap64_wf _
/-- Behind trouble: a disk still. -/
theorem DiskM.after {w w' : World} {b : Nat} {m : DM} {K : Nat → Prop} (h : DiskM w b m K) (hB : Blk w' b m.after.cells) (hs : Sole (fun k => k = b) w w') : DiskM w' b m.after K :=
  h.scal m.off m.tl m.after.tf m.cl m.after.fl h.cwf (after_wf h.fwf) hs hB
/-- What is read at a sector. -/
def DM.cur (m : DM) (z : Int) : OcS := match lastI (m.Qs.map (·.at_)) z with
  | some i => (atR wtT m.Qs i).x
  | none => ocA m.Ls z.toNat
theorem lastI_lt' (z : Int) : ∀ (l : List Int) (r : Nat × Option Nat) (i : Nat), (∀ j, r.2 = some j → j < r.1) → (l.foldl (fun (r : Nat × Option Nat) a => (r.1 + 1, if a = z then some r.1 else r.2)) r).2 = some i → i < r.1 + l.length
  | [], r, i, h, e => h i e
  | a :: l, r, i, h, e => by
    have := lastI_lt' z l (r.1 + 1, if a = z then some r.1 else r.2) i (fun j hj => by
      dsimp only at hj ⊢
      split at hj
      · cases hj; omega
      · have := h j hj; omega) e
    simp only [List.length_cons] at this ⊢
    omega
theorem lastI_lt (l : List Int) (z : Int) (i : Nat) (h : lastI l z = some i) : i < l.length := by
  have := lastI_lt' z l (0, none) i (fun j hj => by cases hj) h
  simpa using this
theorem DM.cur_ok {w : World} {b : Nat} {m : DM} {K : Nat → Prop} (h : DiskM w b m K) (z : Int) (h0 : 0 ≤ z) (h1 : z < (m.Ls.length : Int)) : (m.cur z).there w ∧ (m.cur z).full K m b := by
  unfold DM.cur
  split
  · rename_i i hi
    have hl := lastI_lt _ _ _ hi
    rw [List.length_map] at hl
    exact ⟨(h.QO _ (atR_mem m.Qs i hl)).1.1.1, (h.QO _ (atR_mem m.Qs i hl)).1.2⟩
  · exact ⟨(h.SO _ (ocA_mem m.Ls _ (by omega))).1.1, (h.SO _ (ocA_mem m.Ls _ (by omega))).2⟩
theorem Fresh.below {w w' : World} {v : Value} {l : List UInt8} (h : Fresh w w' v l) : Below w.heap.size w w' := h.elim fun _ h => h.elim fun _ h => h.2.2
/-- New octets. -/
def NewO (w w' : World) (v : Value) (l : List UInt8) : Prop := ∃ a cap, v = .slice a l.length cap ∧ w'.ownsRow w.heap.size 5 1 (.slice a l.length cap) l.length (Lib.byteCells l)
theorem NewO.of_fresh {w w1 w2 : World} {v : Value} {l : List UInt8} (h : Fresh w1 w2 v l) (hs : w.heap.size ≤ w1.heap.size) : NewO w w2 v l := by
  obtain ⟨a, cap, hv, O, _⟩ := h
  refine ⟨a, cap, hv, O.1, O.2.imp id ?_⟩
  rintro ⟨g, cap, cur, e, hb, r⟩
  exact ⟨g, cap, cur, e, Nat.le_trans hs hb, r⟩
set_option maxRecDepth 100000 in
set_option maxHeartbeats 2000000 in
theorem read_any (m : DM) (b : Nat) (z : Int) (hz : (Lit.int .i64 z).wf = true) (K : Nat → Prop) (w : World) (D : DiskM w b m K) (h : m.trb = false) : Calls Try.prog 64 #[.pointer (some ⟨b, 0, none⟩), .int .i64 z] w fun e w' =>
    (0 ≤ z ∧ z < (m.Ls.length : Int) → ∃ v, e = .returned (.tuple #[v, .int .i64 0]) ∧ NewO w w' v (m.cur z).l) ∧ (¬ (0 ≤ z ∧ z < (m.Ls.length : Int)) → e = .returned (.tuple #[.slice none 0 0, .int .i64 4])) ∧ DiskM w' b m.after K ∧ Sole K w w' := by
  have KT := hid (trouble_any m b w D.blk)
  have Dh := hid D
  have ht := h
  clear D h
  simp only [ht, Bool.false_eq_true, if_false, ↓reduceIte] at KT
  go_enter Try.func64, Try.ntmps64
  go_wp2_with fail
  refine KT.out.mono ?_
  rintro e w1 ⟨rfl, hB, hS⟩
  have D1 := hid (Dh.out.after hB hS)
  have S1 := hid (hS.mono (T := K) fun k _ e => e ▸ Dh.out.kk _ (.inl rfl))
  have KH := hid (has_any m.after b z w1 hB)
  have B1 : Blk w1 b #[.bool true, .bool m.off, .slice m.sp m.Ls.length m.sc, .slice m.wp m.Qs.length m.wc, .map (some m.lm), .map (some m.om), .bool m.tl, .int .i64 m.cl, .slice m.fp m.Fs.length m.fc, .bool m.after.tf, .int .i64 m.after.fl] := hB
  have HL := hid (show w1.ownsMap Try.prog 3 (plainElem Try.prog 3) m.lm m.n m.DL from D1.out.L)
  have hla := hid (show LastOk m.DL (m.Qs.map (·.at_)) from D1.out.last)
  generalize m.after.tf = atf at B1
  generalize m.after.fl = afl at B1
  clear hB hS KT Dh
  by_cases hr : 0 ≤ z ∧ z < (m.Ls.length : Int)
  · have hd : decide (0 ≤ z ∧ z < (m.after.Ls.length : Int)) = true := decide_eq_true hr
    rw [hd] at KH
    obtain ⟨p7, c7, hv7, _, _, R7⟩ := D1.out.S.open ocOk
    obtain ⟨p8, c8, hv8, _, _, R8⟩ := D1.out.Q.open wtOk
    have e7 : m.sp = p7 ∧ m.sc = c7 := by simpa [DM.sv, DM.after] using hv7
    have e8 : m.wp = p8 ∧ m.wc = c8 := by simpa [DM.wv, DM.after] using hv8
    have hR7 : RowP w1 m.sp 1 m.Ls.length (fun i => [.slice (ocA m.Ls i).a (ocA m.Ls i).l.length (ocA m.Ls i).cap]) := by rw [e7.1]; exact R7
    have hR8 : RowP w1 m.wp 2 m.Qs.length (fun i => [.int .i64 (atR wtT m.Qs i).at_, .slice (atR wtT m.Qs i).x.a (atR wtT m.Qs i).x.l.length (atR wtT m.Qs i).x.cap]) := by rw [e8.1]; exact R8
    have hcur := hid (show (m.cur z).there w1 ∧ (m.cur z).full K m.after b from DM.cur_ok D1.out z hr.1 hr.2)
    have hkey := keyOf_int_mk (P := Try.prog) Try.underlying3 hz
    have DE := hid (show DiskM w1 b m.after K ∧ Sole K w w1 from ⟨D1.out, S1.out⟩)
    have hlt : ∀ i, lastI (m.Qs.map (·.at_)) z = some i → i < m.Qs.length := fun i h => by simpa using lastI_lt _ _ _ h
    have hz1 : z < (m.Ls.length : Int) := hr.2
    have hrh := hid hr
    have hz0 : 0 ≤ z := hr.1
    clear hv7 hv8 R7 R8 e7 e8 hd D1 S1
    cases hl : lastI (m.Qs.map (·.at_)) z with
    | none =>
      have hno := hid (hla.out.no z hl)
      have hc : m.cur z = ocA m.Ls z.toNat := by unfold DM.cur; rw [hl]
      obtain ⟨k, rfl⟩ : ∃ k : Nat, z = (k : Int) := ⟨z.toNat, by omega⟩
      obtain ⟨b7, o7, hq7, r7⟩ := hR7.row (by omega)
      have c7 := r7.at0 (i := k) (by omega) (v := .slice (ocA m.Ls k).a (ocA m.Ls k).l.length (ocA m.Ls k).cap) rfl
      rw [Nat.mul_one] at c7
      rw [Int.toNat_natCast] at hc
      have KC := hid (bclone_any (ocA m.Ls k).l (ocA m.Ls k).a (ocA m.Ls k).cap w1 (by rw [← hc]; exact hcur.out.1.1) (by have := hcur.out.2; rw [hc] at this; obtain ⟨g, _, _, _, e⟩ := this; omega))
      have hch := hid hc
      rw [hq7] at B1
      clear hl hlt hla hR7 hR8 r7 hcur hc hq7
      generalize ocA m.Ls k = x at *
      generalize m.Qs.length = qs at *
      generalize m.Fs.length = fs at *
      obtain ⟨l0, k0, f0⟩ := B1
      go_wp2_with fail
      refine KH.out.mono ?_
      rintro e w2 ⟨rfl, hw⟩
      rw [hw]
      clear hw w2 KH
      go_wp2_with (at_lookup; refine wpList_lookup_own_ok_int _ rfl _ _ 59 rfl 3 3 .i64 dlawK Try.underlying59 Try.underlying3 (dzeroK _) m.lm m.n m.DL rfl HL.out _ _ rfl hkey ?_; intro c hat hwc; rw [hno.out])
      refine KC.out.mono ?_
      rintro e w2 ⟨v, rfl, hF⟩
      have E := hid (show NewO w w2 v (m.cur (k : Int)).l ∧ DiskM w2 b m.after K ∧ Sole K w w2 from ⟨by rw [hch.out]; exact NewO.of_fresh hF DE.out.2.size, DE.out.1.more hF.below, DE.out.2.trans (Sole.made hF.below)⟩)
      obtain ⟨av, cv, hv, _, hb2⟩ := hF
      subst hv
      clear hb2
      go_wp2_with fail
      go_ret2
      exact ⟨fun _ => ⟨_, rfl, E.out.1⟩, fun h => absurd hrh.out h, E.out.2⟩
    | some i =>
      have hli := hlt i hl
      obtain ⟨hyes, hatk⟩ := hla.out.is z i hl
      have hatk := hid hatk
      replace hyes := hid hyes
      have hc : m.cur z = (atR wtT m.Qs i).x := by unfold DM.cur; rw [hl]
      obtain ⟨b8, o8, hq8, r8⟩ := hR8.row (by omega)
      have c8 := r8.cell i hli 1 (.slice (atR wtT m.Qs i).x.a (atR wtT m.Qs i).x.l.length (atR wtT m.Qs i).x.cap) rfl
      have KC := hid (bclone_any (atR wtT m.Qs i).x.l (atR wtT m.Qs i).x.a (atR wtT m.Qs i).x.cap w1 (by rw [← hc]; exact hcur.out.1.1) (by have := hcur.out.2; rw [hc] at this; obtain ⟨g, _, _, _, e⟩ := this; omega))
      have hch := hid hc
      rw [hq8] at B1
      clear hl hlt hla hR7 hR8 r8 hcur hc hq8
      generalize (atR wtT m.Qs i).x = x at *
      generalize m.Qs.length = qs at *
      generalize m.Fs.length = fs at *
      obtain ⟨l0, k0, f0⟩ := B1
      go_wp2_with fail
      refine KH.out.mono ?_
      rintro e w2 ⟨rfl, hw⟩
      rw [hw]
      clear hw w2 KH
      go_wp2_with (at_lookup; refine wpList_lookup_own_ok_int _ rfl _ _ 59 rfl 3 3 .i64 dlawK Try.underlying59 Try.underlying3 (dzeroK _) m.lm m.n m.DL rfl HL.out _ _ rfl hkey ?_; intro c hat hwc; obtain rfl : c = (i : Int) := (by have := hat.symm.trans (hatk.out _); cases this; rfl); rw [hyes.out])
      refine KC.out.mono ?_
      rintro e w2 ⟨v, rfl, hF⟩
      have E := hid (show NewO w w2 v (m.cur z).l ∧ DiskM w2 b m.after K ∧ Sole K w w2 from ⟨by rw [hch.out]; exact NewO.of_fresh hF DE.out.2.size, DE.out.1.more hF.below, DE.out.2.trans (Sole.made hF.below)⟩)
      obtain ⟨av, cv, hv, _, hb2⟩ := hF
      subst hv
      clear hb2
      go_wp2_with fail
      go_ret2
      exact ⟨fun _ => ⟨_, rfl, E.out.1⟩, fun h => absurd hrh.out h, E.out.2⟩
  · have hd : decide (0 ≤ z ∧ z < (m.after.Ls.length : Int)) = false := decide_eq_false hr
    rw [hd] at KH
    have DE := hid (show DiskM w1 b m.after K ∧ Sole K w w1 from ⟨D1.out, S1.out⟩)
    have hrh := hid hr
    clear B1 HL hla hd hr D1 S1
    go_wp2_with fail
    refine KH.out.mono ?_
    rintro e w2 ⟨rfl, hw⟩
    rw [hw]
    clear hw w2 KH
    go_wp2_with fail
    go_ret2
    exact ⟨fun h => absurd h hrh.out, fun _ => rfl, DE.out⟩
end Go.Proofs.Ytcklmemnjchdcaa

/-
  Package seglog: Load of no sector.
-/

namespace Go.Proofs.Ytcklmemnjchdcaa
open Go.RowKit Go.Maps
set_option linter.unusedVariables false
set_option linter.unusedSimpArgs false

theorem below_al1 (w : World) (o : Obj) : Below w.heap.size w (w.alloc o) := (Below.refl _ _).alloc (Nat.le_refl _) _
/-- An item of none. -/
abbrev item0 : Value := .agg #[.int .i64 0, .bool false, .slice none 0 0, .int .i64 0, .int .i64 0, .int .i64 0, .int .i64 0, .int .i64 0, .int .i64 0, .int .i64 0, .int .i64 0, .int .i64 0]
abbrev item0c : List Value := [.int .i64 0, .bool false, .slice none 0 0, .int .i64 0, .int .i64 0, .int .i64 0, .int .i64 0, .int .i64 0, .int .i64 0, .int .i64 0, .int .i64 0, .int .i64 0]
end Go.Proofs.Ytcklmemnjchdcaa

/-
  Package disk: New.
-/



namespace Go.Proofs.Ytcklmemnjchdcaa
open Go.RowKit Go.Maps
set_option linter.unusedVariables false
set_option linter.unusedSimpArgs false

theorem flatO_map : ∀ L : List OcS, flatR ocT L = L.map (fun x => .slice x.a x.l.length x.cap)
  | [] => rfl
  | x :: L => by
    have := flatO_map L
    unfold flatR at this ⊢
    rw [List.flatMap_cons, this]
    rfl
/-- A store into a row of octets. -/
theorem rowO_set {w : World} {base g n cap : Nat} {L : List OcS} (h : RowOwn ocT w base (.slice (some ⟨g, 0, none⟩) n cap) L) (hn : n = L.length) (j : Nat) (x : OcS) :
    RowOwn ocT (w.setCell ⟨g, j, none⟩ (.slice x.a x.l.length x.cap)) base (.slice (some ⟨g, 0, none⟩) n cap) (L.set j x) := by
  subst hn
  have := own_set h j (.slice x.a x.l.length x.cap)
  unfold RowOwn
  rw [List.length_set, flatO_map, List.map_set, ← flatO_map]
  exact this
def zerosN (n : Nat) : List UInt8 := List.replicate n 0
theorem zerosN_len (n : Nat) : (zerosN n).length = n := List.length_replicate
def emptyO : OcS := ⟨none, 0, []⟩
theorem made_octs (t : TypeId) (n : Nat) (w : World) : Octs (w.alloc (.cells (madeCells #[.int .u8 0] n) t)) (some ⟨w.heap.size, 0, none⟩) (zerosN n) := by
  refine .inr ⟨_, _, rfl, by simp, fun i hi => ?_⟩
  have h := (Blk.new w (madeCells #[.int .u8 0] n) t).cell (0 + i)
  rw [h, Nat.zero_add]
  have hi' : i < n := by rw [zerosN_len] at hi; exact hi
  simp [madeCells, zerosN, hi', Nat.mod_one]
theorem made_nils (n : Nat) : (madeCells #[.slice none 0 0] n).toList = flatR ocT (List.replicate n emptyO) := by
  rw [flatO_map, List.map_replicate]
  apply List.ext_getElem?
  intro t
  by_cases h : t < n
  · simp [madeCells, h, emptyO, Nat.mod_one]
  · rw [List.getElem?_eq_none (by simp [size_madeCells]; omega), List.getElem?_eq_none (by simp; omega)]
theorem run_zeros (n : Nat) (hn : n ≤ 1000000) (w : World) : (Instr.makeSlice 51 (.int .i64 (n : Int)) (.int .i64 (n : Int))).run Try.prog w = .ok (.slice (some ⟨w.heap.size, 0, none⟩) n n) (w.alloc (.cells (madeCells #[.int .u8 0] n) 5)) := by
  obtain ⟨i, hi, hz, hs, hby⟩ := info_parts u8Info
  have := run_make (P := Try.prog) w 51 5 i (.int .u8 0) Try.underlying51 hi hz .i64 .i64 (n : Int) (n : Int) (by omega) (Int.le_refl _) (by rw [hby]; omega) (by omega)
  simp only [Int.toNat_natCast, hs, Nat.mul_one] at this
  exact this

theorem run_nils (n : Nat) (hn : n ≤ 1000000) (w : World) : (Instr.makeSlice 53 (.int .i64 (n : Int)) (.int .i64 (n : Int))).run Try.prog w = .ok (.slice (some ⟨w.heap.size, 0, none⟩) n n) (w.alloc (.cells (madeCells #[.slice none 0 0] n) 51)) := by
  obtain ⟨i, hi, hz, hs, hby⟩ := info_parts ocOk.tab
  have := run_make (P := Try.prog) w 53 51 i (.slice none 0 0) Try.underlying53 hi hz .i64 .i64 (n : Int) (n : Int) (by omega) (Int.le_refl _) (by rw [hby]; show (24 : Int) * _ ≤ _; omega) (by omega)
  simp only [Int.toNat_natCast, hs] at this
  rw [show n * ocT.sz = n from Nat.mul_one n] at this
  exact this
/-- A new disk's sectors, as far as they are made. -/
structure NewL (w : World) (S0 N k : Nat) (L : List OcS) : Prop where
  len : L.length = k
  row : RowOwn ocT w 0 (.slice (some ⟨S0, 0, none⟩) N N) (L ++ List.replicate (N - k) emptyO)
  oct : ∀ x ∈ L, x.soft w ∧ (∃ g, x.a = some ⟨g, 0, none⟩ ∧ S0 + 4 ≤ g ∧ g < w.heap.size) ∧ x.l = zerosN 256
  uniq : (L.map (·.a)).Nodup
theorem NewL.drew {w : World} {S0 N k : Nat} {L : List OcS} (h : NewL w S0 N k L) : NewL w.drew S0 N k L :=
  ⟨h.len, h.row.drew, fun x hx => ⟨(h.oct x hx).1.more (Below.refl _ _).drew, (h.oct x hx).2⟩, h.uniq⟩
theorem NewL.next {w : World} {S0 N k : Nat} {L : List OcS} (h : NewL w S0 N k L) (hk : k < N) (hS : S0 + 4 ≤ w.heap.size) :
    ∃ L', NewL ((w.alloc (.cells (madeCells #[.int .u8 0] 256) 5)).setCell ⟨S0, k, none⟩ (.slice (some ⟨w.heap.size, 0, none⟩) 256 256)) S0 N (k + 1) L' := by
  have hb : Below w.heap.size w (w.alloc (.cells (madeCells #[.int .u8 0] 256) 5)) := (Below.refl _ _).alloc (Nat.le_refl _) _
  have O := made_octs 5 256 w
  have BA := Blk.new w (madeCells #[.int .u8 0] 256) 5
  have hs : (w.alloc (.cells (madeCells #[.int .u8 0] 256) 5)).heap.size = w.heap.size + 1 := by simp
  generalize w.alloc (.cells (madeCells #[.int .u8 0] 256) 5) = wA at *
  have hsole : Sole (fun j => j = S0) wA (wA.setCell ⟨S0, k, none⟩ (.slice (some ⟨w.heap.size, 0, none⟩) 256 256)) := Sole.setCell wA _ rfl
  have hl := h.len
  have hrow := rowO_set (h.row.more hb) (by simp; omega) k ⟨some ⟨w.heap.size, 0, none⟩, 256, zerosN 256⟩
  rw [show (zerosN 256).length = 256 from zerosN_len 256] at hrow
  refine ⟨L ++ [⟨some ⟨w.heap.size, 0, none⟩, 256, zerosN 256⟩], by simp [hl], ?_, ?_, ?_⟩
  · have e : (L ++ List.replicate (N - k) emptyO).set k ⟨some ⟨w.heap.size, 0, none⟩, 256, zerosN 256⟩ = L ++ [⟨some ⟨w.heap.size, 0, none⟩, 256, zerosN 256⟩] ++ List.replicate (N - (k + 1)) emptyO := by
      rw [List.set_append_right _ _ (by omega), hl, Nat.sub_self, show N - k = (N - (k + 1)) + 1 by omega, List.replicate_succ, List.set_cons_zero, List.append_assoc]
      rfl
    rw [← e]
    exact hrow
  · intro x hx
    rcases List.mem_append.1 hx with hx | hx
    · obtain ⟨ht, ⟨g, e, h1, h2⟩, hz⟩ := h.oct x hx
      exact ⟨so_sole (ht.more hb) hsole fun b o e' => by rw [e] at e'; cases e'; omega, ⟨g, e, h1, by have := hsole.size; omega⟩, hz⟩
    · simp only [List.mem_singleton] at hx
      subst hx
      refine ⟨⟨⟨O.sole hsole fun b o e' _ => by cases e'; omega, by rw [zerosN_len]; exact Nat.le_refl _, by show 256 ≤ maxLen; unfold maxLen; omega⟩, fun b o e' => by cases e'; exact ⟨by have := hsole.size; omega, fun i => (hsole.frozen BA.lt (show ¬ w.heap.size = S0 by omega)).trans (BA.frz i)⟩⟩, ⟨_, rfl, by omega, by have := hsole.size; omega⟩, rfl⟩
  · rw [List.map_append, List.nodup_append]
    refine ⟨h.uniq, by simp, fun a ha c hc => ?_⟩
    simp only [List.map_cons, List.map_nil, List.mem_singleton] at hc
    obtain ⟨x, hx, rfl⟩ := List.mem_map.1 ha
    obtain ⟨_, ⟨g, e, h1, h2⟩, _⟩ := h.oct x hx
    rw [hc, e]
    intro he
    cases he
    omega

theorem own_fill {w : World} {base : Nat} {e : TypeId} {size g n m : Nat} {xs : List Value} (h : w.ownsRow base e size (.slice (some ⟨g, 0, none⟩) n n) m xs) : ∃ c : Array Value, Blk w g c ∧ c.toList = xs := by
  rcases h.2 with ⟨hv, _⟩ | ⟨g', cap, cur, hv, hb, hg, h1, h2, h3, h4⟩
  · simp at hv
  · simp at hv
    obtain ⟨rfl, rfl, rfl⟩ := hv
    refine ⟨cur, ⟨(h.lt g rfl).2, fun o => by simp [World.cell?, hg], fun o => by simp [World.frozen?, hg]⟩, ?_⟩
    rw [← h4, List.take_of_length_le]
    rw [Array.length_toList, h3]
    exact Nat.le_refl _
/-- A new disk. -/
structure NewD (m : DM) (N : Nat) : Prop where
  off : m.off = false
  tl : m.tl = false
  tf : m.tf = false
  Q : m.Qs = []
  S : m.Ls.length = N
  Z : ∀ x ∈ m.Ls, x.l = zerosN 256
  O : ∀ z : Int, Maps.has m.DO (.int .i64 z) = false
  n : m.n = 0
  n' : m.n' = 0
def newM (S0 N : Nat) (L : List OcS) : DM := ⟨false, false, 0, false, 0, some ⟨S0, 0, none⟩, N, L, none, 0, [], none, 0, [], S0 + 1, S0 + 2, 0, 0, .map [], .map []⟩
def sectorsN (z : Int) : Nat := (min (max z 0) 4096).toNat
def newW (w : World) (N : Nat) : World := (((w.alloc (.cells (madeCells #[.slice none 0 0] N) 51)).alloc (.map #[] 0)).alloc (.map #[] 0)).alloc (.cells #[.bool true, .bool false, .slice (some ⟨w.heap.size, 0, none⟩) N N, .slice none 0 0, .map (some (w.heap.size + 1)), .map (some (w.heap.size + 1 + 1)), .bool false, .int .i64 0, .slice none 0 0, .bool false, .int .i64 0] 67)
structure NewMem (w W : World) (N : Nat) : Prop where
  size : W.heap.size = w.heap.size + 4
  blk : Blk W (w.heap.size + 3) #[.bool true, .bool false, .slice (some ⟨w.heap.size, 0, none⟩) N N, .slice none 0 0, .map (some (w.heap.size + 1)), .map (some (w.heap.size + 1 + 1)), .bool false, .int .i64 0, .slice none 0 0, .bool false, .int .i64 0]
  row : NewL W w.heap.size N 0 []
  L : W.ownsMap (H := Unit) Try.prog 3 (plainElem Try.prog 3) (w.heap.size + 1) 0 (.map [])
  O : W.ownsMap (H := Unit) Try.prog 3 unitElem (w.heap.size + 1 + 1) 0 (.map [])
  low : Below w.heap.size w W
theorem newMem (w : World) (N : Nat) (hN : N ≤ 4096) : NewMem w (newW w N) N := by
  unfold newW
  have b1 : Below w.heap.size w (w.alloc (.cells (madeCells #[.slice none 0 0] N) 51)) := (Below.refl _ _).alloc (Nat.le_refl _) _
  have s1 : (w.alloc (.cells (madeCells #[.slice none 0 0] N) 51)).heap.size = w.heap.size + 1 := by simp
  have R : RowOwn ocT (w.alloc (.cells (madeCells #[.slice none 0 0] N) 51)) 0 (.slice (some ⟨w.heap.size, 0, none⟩) N N) (List.replicate N emptyO) := by
    have := World.ownsRow_lit (size := 1) (e := 51) (base := 0) w (madeCells #[.slice none 0 0] N) N (Nat.zero_le _) (by unfold maxLen; omega) (by rw [size_madeCells, Nat.mul_one])
    unfold RowOwn
    rw [List.length_replicate, ← made_nils]
    exact this
  generalize w.alloc (.cells (madeCells #[.slice none 0 0] N) 51) = W1 at *
  have M2 := World.ownsMap_made (H := Unit) W1 Try.prog 3 (plainElem Try.prog 3)
  have b2 : Below W1.heap.size W1 (W1.alloc (.map #[] 0)) := (Below.refl _ _).alloc (Nat.le_refl _) _
  have s2 : (W1.alloc (.map #[] 0)).heap.size = w.heap.size + 2 := by simp [s1]
  have R2 := R.more b2
  have B2 := below2 b1 b2 b1.size
  generalize W1.alloc (.map #[] 0) = W2 at *
  have M3 := World.ownsMap_made (H := Unit) W2 Try.prog 3 unitElem
  have b3 : Below W2.heap.size W2 (W2.alloc (.map #[] 0)) := (Below.refl _ _).alloc (Nat.le_refl _) _
  have s3 : (W2.alloc (.map #[] 0)).heap.size = w.heap.size + 3 := by simp [s2]
  have R3 := R2.more b3
  have B3 := below2 B2 b3 B2.size
  have M2' := map_sole M2 (Sole.made (S := fun _ => False) b3) id
  generalize W2.alloc (.map #[] 0) = W3 at *
  generalize hc : (#[.bool true, .bool false, .slice (some ⟨w.heap.size, 0, none⟩) N N, .slice none 0 0, .map (some (w.heap.size + 1)), .map (some (w.heap.size + 1 + 1)), .bool false, .int .i64 0, .slice none 0 0, .bool false, .int .i64 0] : Array Value) = c
  have b4 : Below W3.heap.size W3 (W3.alloc (.cells c 67)) := (Below.refl _ _).alloc (Nat.le_refl _) _
  have B := Blk.new W3 c 67
  rw [s3] at B
  rw [s1] at M2'
  rw [s2] at M3
  have hL := map_sole M2' (Sole.made (S := fun _ => False) b4) id
  have hO := map_sole M3 (Sole.made (S := fun _ => False) b4) id
  have hR := R3.more b4
  exact ⟨by simp [s3], by rw [hc]; exact B, ⟨rfl, by simpa using hR, nofun, by simp⟩, hL, hO, below2 B3 b4 B3.size⟩
theorem newD_of {w W wr : World} {N : Nat} {L : List OcS} (hN : N ≤ 4096) (M : NewMem w W N) (hs : Sole (fun k => k = w.heap.size) W wr) (h : NewL wr w.heap.size N N L) :
    DiskM wr (w.heap.size + 3) (newM w.heap.size N L) (fun k => w.heap.size ≤ k ∧ k < wr.heap.size) ∧ NewD (newM w.heap.size N L) N ∧ Below w.heap.size w wr := by
  obtain ⟨hl, hrow, hoct, huniq⟩ := h
  subst hl
  have hsz := hs.size
  have hms := M.size
  have hbase : ∀ g, (newM w.heap.size L.length L).base (w.heap.size + 3) g → g = w.heap.size + 3 ∨ g = w.heap.size + 1 ∨ g = w.heap.size + 2 ∨ g = w.heap.size := by
    rintro g (e | e | e | e | e | e)
    · exact .inl e
    · exact .inr (.inl e)
    · exact .inr (.inr (.inl e))
    · exact .inr (.inr (.inr (by simpa [DM.sv, newM, Value.ownBlock, eq_comm] using e)))
    · cases e
    · cases e
  refine ⟨?_, ⟨rfl, rfl, rfl, rfl, rfl, fun x hx => (hoct x hx).2.2, fun z => by rfl, rfl, rfl⟩, M.low.trans (hs.below (B := w.heap.size) (by omega) fun k e => by omega)⟩
  exact
  { blk := (M.blk.sole hs (by omega))
    apart := ⟨by show w.heap.size + 3 ≠ w.heap.size + 1; omega, by show w.heap.size + 3 ≠ w.heap.size + 2; omega, by show w.heap.size + 1 ≠ w.heap.size + 2; omega, fun k e => by
      have e' : w.heap.size = k := by simpa [DM.sv, newM, Value.ownBlock] using e
      refine ⟨by omega, by show k ≠ w.heap.size + 1; omega, by show k ≠ w.heap.size + 2; omega, nofun, nofun⟩, nofun, nofun⟩
    kk := fun k hk => by have := hbase k hk; show w.heap.size ≤ k ∧ k < wr.heap.size; omega
    klt := fun k hk => hk.2
    S := (by simpa using hrow : RowOwn ocT wr 0 (.slice (some ⟨w.heap.size, 0, none⟩) L.length L.length) L)
    SO := fun x hx => by
      obtain ⟨ht, ⟨g, e, h1, h2⟩, hz⟩ := hoct x hx
      exact ⟨ht, g, e, ⟨by omega, h2⟩, fun hb => by have := hbase g hb; omega, by rw [hz, zerosN_len]⟩
    Q := RowOwn.nil _ _
    QO := nofun
    F := RowOwn.nil _ _
    L := map_sole M.L hs (show ¬ (w.heap.size + 1 = w.heap.size) by omega)
    O := map_sole M.O hs (show ¬ (w.heap.size + 1 + 1 = w.heap.size) by omega)
    last := LastOk.nil
    lenS := hN
    cwf := rfl
    fwf := rfl
    uniq := ⟨huniq, List.nodup_nil, nofun⟩ }
set_option maxRecDepth 100000 in
set_option maxHeartbeats 2000000 in
theorem dnew_any (z : Int) (w : World) : Calls Try.prog 7 #[.int .i64 z] w fun e w' =>
    ∃ L, e = .returned (.pointer (some ⟨w.heap.size + 3, 0, none⟩)) ∧ DiskM w' (w.heap.size + 3) (newM w.heap.size (sectorsN z) L) (fun k => w.heap.size ≤ k ∧ k < w'.heap.size) ∧ NewD (newM w.heap.size (sectorsN z) L) (sectorsN z) ∧ Below w.heap.size w w' := by
  have hN : (sectorsN z : Int) = min (max z 0) 4096 := by unfold sectorsN; omega
  have hN4 : sectorsN z ≤ 4096 := by unfold sectorsN; omega
  generalize sectorsN z = N at *
  have hmm := @run_makeMap Try.prog
  have hNm : min (max z 0) 4096 = (N : Int) := hN.symm
  have mk2 := run_nils N (by omega) w
  clear hN
  have mk : ∀ w, (Instr.makeSlice 51 (.int .i64 256) (.int .i64 256)).run Try.prog w = .ok (.slice (some ⟨w.heap.size, 0, none⟩) 256 256) (w.alloc (.cells (madeCells #[.int .u8 0] 256) 5)) := fun w => run_zeros 256 (by omega) w
  have NM := hid (newMem w N hN4)
  have hN4h := hid hN4
  go_enter Try.func7, Try.ntmps7
  go_wp2_with fail
  change Code.wp _ _ _ _ (newW w N)
  generalize newW w N = W at *
  have B0 := NM.out.blk
  go_loopw [18] (fun i wr => ∃ k : Nat, k ≤ N ∧ i = .int .i64 (k : Int) ∧ Sole (fun j => j = w.heap.size) W wr ∧ ∃ L, NewL wr w.heap.size N k L) (fun i _ => N - (intOf i).toNat)
  case atStart => exact ⟨0, Nat.zero_le _, rfl, Sole.refl _ _, _, NM.out.row⟩
  case round =>
    obtain ⟨k, hk, rfl, hs, L, HL⟩ := hrel
    by_cases hlt : k < N
    · obtain ⟨c5, B5, hc5⟩ := own_fill HL.row
      have hc : c5[k]? = some (.slice none 0 0) := by
        rw [← Array.getElem?_toList, hc5, flatO_map, List.map_append, List.getElem?_append_right (by simp [HL.len]), List.length_map, HL.len, Nat.sub_self, List.map_replicate]
        simp [List.getElem?_replicate, emptyO]
        omega
      have B3 := NM.out.blk.sole hs (by omega)
      obtain ⟨L', HL'⟩ := HL.drew.next hlt (by have := hs.size; have := NM.out.size; show _ ≤ wr.heap.size; omega)
      have hs' : Sole (fun j => j = w.heap.size) W ((wr.drew.alloc (.cells (madeCells #[.int .u8 0] 256) 5)).setCell ⟨w.heap.size, k, none⟩ (.slice (some ⟨wr.drew.heap.size, 0, none⟩) 256 256)) := (hs.drew.trans (Sole.alloc wr.drew _)).trans (Sole.setCell _ _ rfl)
      rw [World.setCell_alloc_past _ _ _ _ (show w.heap.size < wr.drew.heap.size by have := hs.size; have := NM.out.size; show _ < wr.heap.size; omega)] at hs' HL'
      have E := hid (And.intro hs' HL')
      obtain ⟨l3, k3, f3⟩ := B3
      obtain ⟨l5, k5, f5⟩ := B5
      have x5 := (k5 k).trans hc
      have y5 := f5 k
      clear hs HL hs' HL' k5 f5 hc hc5 B0
      go_wp2_with fail
      go_region
      go_wp2_with fail
      go_roundw
      case rel => exact ⟨k + 1, by omega, by simp, E.out.1, L', E.out.2⟩
      case measure => simp [intOf]; omega
    · obtain rfl : k = N := by omega
      have E := hid (newD_of hN4h.out NM.out hs HL)
      clear hs HL B0
      go_wp2_with fail
      go_ret
      exact ⟨L, rfl, E.out⟩
end Go.Proofs.Ytcklmemnjchdcaa

/-
  Package disk: count, Write.
-/




namespace Go.Proofs.Ytcklmemnjchdcaa
open Go.RowKit Go.Maps
set_option linter.unusedVariables false
set_option linter.unusedSimpArgs false

/-- A call that was done is counted; what comes of it. -/
def DM.counted (m : DM) : DM := { m with cl := wrap64 (m.cl - 1) }
set_option maxRecDepth 100000 in
theorem count_any {G : DM → World → World → Prop} (m : DM) (b : Nat) (K : Nat → Prop) (w : World) (D : DiskM w b m K)
    (KG : ∀ w1, DiskM w1 b m.counted K → Calls Try.prog 48 #[.pointer (some ⟨b, 0, none⟩)] w1 fun e w' => e = .returned (.tuple #[]) ∧ G m.counted w1 w') :
    Calls Try.prog 32 #[.pointer (some ⟨b, 0, none⟩)] w fun e w' => e = .returned (.tuple #[]) ∧ ∃ w1, DiskM w1 b m.counted K ∧ Sole K w w1 ∧ G m.counted w1 w' := by
  have B0 := D.blk
  have B1 := B0.set 7 (.int .i64 (wrap64 (m.cl - 1))) (by simp [DM.cells])
  have S1 : Sole (fun k => k = b) w (w.setCell ⟨b, 7, none⟩ (.int .i64 (wrap64 (m.cl - 1)))) := Sole.setCell w _ rfl
  have D1 : DiskM _ b m.counted K := D.scal m.off m.tl m.tf (wrap64 (m.cl - 1)) m.fl (wrap64_wf _) D.fwf S1 B1
  have KG1 := hid (KG _ D1)
  have E := hid (And.intro D1 (S1.mono (T := K) fun k _ e => e ▸ D.kk _ (.inl rfl)))
  clear D D1 S1 B1 KG
  simp only [DM.cells, DM.sv, DM.wv, DM.fv] at B0
  obtain ⟨l0, k0, f0⟩ := B0
  go_enter Try.func32, Try.ntmps32
  go_wp2_with fail
  refine KG1.out.mono ?_
  rintro e w2 ⟨rfl, hG⟩
  have HG := hid hG
  clear hG KG1
  go_wp2_with fail
  refine bodyPost_end (results_none rfl _ _ _) rfl ?_
  exact ⟨rfl, _, E.out.1, E.out.2, HG.out⟩

/-- One more that waits. -/
theorem wt_grow {W : World} {V : Value} {L : List WtS} (OV : RowOwn wtT W 0 V L) (hl : (L.length + 1) * 32 ≤ 140737488355328) {g : Nat} (y : WtS) (B : Blk W g #[.int .i64 y.at_, .slice y.x.a y.x.l.length y.x.cap]) :
    ∃ q c w10, (∀ ty, (Builtin.append_ #[61, 61] ty #[V, .slice (some ⟨g, 0, none⟩) 1 1]).run Try.prog W = .ok (.slice q (L.length + 1) c) w10) ∧ RowOwn wtT w10 0 (.slice q (L.length + 1) c) (L ++ [y]) ∧ Sole (fun k => V.ownBlock = some k) W w10 ∧
      ∀ k, (Value.slice q (L.length + 1) c).ownBlock = some k → V.ownBlock = some k ∨ W.heap.size ≤ k := by
  have R1 := rowOf_one wtOk B (x := y) rfl
  obtain ⟨v', w', hr, O', gr, mv⟩ := append_row wtOk 0 61 W V L OV (some ⟨g, 0, none⟩) 1 [y] R1 hl (by unfold maxLen; simp; omega) (Nat.zero_le _)
  obtain ⟨q, c, hv, _⟩ := O'.open wtOk
  rw [show (L ++ [y]).length = L.length + 1 by simp] at hv
  subst hv
  refine ⟨q, c, w', fun ty => hr, O', Sole.grown gr fun k e => e, fun k e => ?_⟩
  rcases mv with h | h
  · exact .inl (h ▸ e)
  · rw [h] at e; cases e; exact .inr (Nat.le_refl _)

theorem LastOk.snoc {D : DataW Unit} {l : List Int} (h : LastOk D l) (z : Int) (hz : (Lit.int .i64 z).wf = true) : LastOk (D.put (.int .i64 z) (.lit (.int .i64 (l.length : Int)))) (l ++ [z]) := by
  have hk : WideAt.IsKeyLit (.int .i64 z) := dlawK.key (keyOf_int_mk (P := Try.prog) Try.underlying3 hz)
  refine ⟨h.map.put _ _, fun y hy => ?_, fun y i hy => ?_⟩
  · rw [lastI_snoc] at hy
    split at hy
    · cases hy
    · rename_i e
      rw [has_put_other (fun e' => e (by cases e'; rfl))]
      exact h.no y hy
  · rw [lastI_snoc] at hy
    split at hy
    · rename_i e
      subst e
      cases hy
      exact ⟨has_put_same h.map hk _, fun d => atKey_put_same h.map hk _ d⟩
    · rename_i e
      have hne : Lit.int .i64 y ≠ Lit.int .i64 z := fun e' => e (by cases e'; rfl)
      rw [has_put_other hne]
      exact ⟨(h.is y i hy).1, fun d => by rw [atKey_put_other hne]; exact (h.is y i hy).2 d⟩

/-- What a write leaves. -/
def DM.wrote (m : DM) (z : Int) (y : OcS) (q : Option Addr) (c : Nat) : DM := { m with wp := q, wc := c, Qs := m.Qs ++ [⟨z, y⟩], n := m.n + 1, DL := m.DL.put (.int .i64 z) (.lit (.int .i64 (m.Qs.length : Int))) }
theorem DiskM.wrote {w3 w4 w5 w6 : World} {b : Nat} {m : DM} {K : Nat → Prop} (h : DiskM w3 b m K) {z : Int} {y : OcS} {q : Option Addr} {c : Nat} (hz : (Lit.int .i64 z).wf = true) (hz0 : 0 ≤ z) (hz1 : z < (m.Ls.length : Int))
    (S34 : Sole (fun k => k = m.lm) w3 w4) (hL : w4.ownsMap Try.prog 3 (plainElem Try.prog 3) m.lm (m.n + 1) (m.DL.put (.int .i64 z) (.lit (.int .i64 (m.Qs.length : Int)))))
    (b45 : Below w4.heap.size w4 w5) (hy : y.soft w5) (hyl : y.l.length = 256) {g : Nat} (hya : y.a = some ⟨g, 0, none⟩) (hg : w4.heap.size ≤ g) (hg5 : g < w5.heap.size)
    (S56 : Sole (fun k => m.wv.ownBlock = some k) w5 w6) (hQ : RowOwn wtT w6 0 (.slice q (m.Qs.length + 1) c) (m.Qs ++ [⟨z, y⟩])) (hown : ∀ k, (Value.slice q (m.Qs.length + 1) c).ownBlock = some k → m.wv.ownBlock = some k ∨ w5.heap.size ≤ k) :
    DiskM (w6.setCell ⟨b, 3, none⟩ (.slice q (m.Qs.length + 1) c)) b (m.wrote z y q c) (fun k => K k ∨ (w3.heap.size ≤ k ∧ k < w6.heap.size)) ∧ Sole K w3 (w6.setCell ⟨b, 3, none⟩ (.slice q (m.Qs.length + 1) c)) := by
  have s34 := S34.size
  have s45 := b45.size
  have s56 := S56.size
  have S67 : Sole (fun k => k = b) w6 (w6.setCell ⟨b, 3, none⟩ (.slice q (m.Qs.length + 1) c)) := Sole.setCell _ _ rfl
  have s7 : (w6.setCell ⟨b, 3, none⟩ (.slice q (m.Qs.length + 1) c)).heap.size = w6.heap.size := by simp [World.setCell]
  have hlen : (m.Qs ++ [(⟨z, y⟩ : WtS)]).length = m.Qs.length + 1 := by simp
  have kb := h.klt b (h.kk b (.inl rfl))
  have kl := h.klt m.lm (h.kk _ (.inr (.inl rfl)))
  have ko := h.klt m.om (h.kk _ (.inr (.inr (.inl rfl))))
  have ks : ∀ k, m.sv.ownBlock = some k → k < w3.heap.size := fun k e => h.klt k (h.kk k (.inr (.inr (.inr (.inl e)))))
  have kw : ∀ k, m.wv.ownBlock = some k → k < w3.heap.size := fun k e => h.klt k (h.kk k (.inr (.inr (.inr (.inr (.inl e))))))
  have kf : ∀ k, m.fv.ownBlock = some k → k < w3.heap.size := fun k e => h.klt k (h.kk k (.inr (.inr (.inr (.inr (.inr e))))))
  have B7 := (((h.blk.sole S34 h.apart.bl).more b45).sole S56 (fun e => (h.apart.w b e).1 rfl)).set 3 (.slice q (m.Qs.length + 1) c) (by simp [DM.cells])
  have ST : Sole (fun k => k = b ∨ k = m.lm ∨ m.wv.ownBlock = some k) w3 (w6.setCell ⟨b, 3, none⟩ (.slice q (m.Qs.length + 1) c)) :=
    (((S34.mono fun k _ e => .inr (.inl e)).trans (Sole.made b45)).trans (S56.mono fun k _ e => .inr (.inr e))).trans (S67.mono fun k _ e => .inl e)
  have hown' : ∀ k, (m.wrote z y q c).wv.ownBlock = some k → m.wv.ownBlock = some k ∨ w5.heap.size ≤ k := fun k e => hown k (by simpa [DM.wv, DM.wrote, Value.ownBlock] using e)
  have hbase : ∀ k, (m.wrote z y q c).base b k → m.base b k ∨ w5.heap.size ≤ k := by
    rintro k (e | e | e | e | e | e)
    · exact .inl (.inl e)
    · exact .inl (.inr (.inl e))
    · exact .inl (.inr (.inr (.inl e)))
    · exact .inl (.inr (.inr (.inr (.inl e))))
    · rcases hown' k e with r | r
      · exact .inl (.inr (.inr (.inr (.inr (.inl r)))))
      · exact .inr r
    · exact .inl (.inr (.inr (.inr (.inr (.inr e)))))
  have hbl : ∀ k, m.base b k → k < w3.heap.size := fun k e => h.klt k (h.kk k e)
  have hQ7 := hQ.sole S67 fun k e => by
    rcases hown k e with r | r
    · exact (h.apart.w k r).1
    · omega
  have hwt := hQ.within
  have ht7 : ∀ x : OcS, x.soft w3 ∧ x.full K m b → x.soft (w6.setCell ⟨b, 3, none⟩ (.slice q (m.Qs.length + 1) c)) ∧ x.full (fun k => K k ∨ (w3.heap.size ≤ k ∧ k < w6.heap.size)) (m.wrote z y q c) b := by
    rintro x ⟨ht, g', e, kg, hg', r⟩
    refine ⟨so_sole ht ST fun b' o e' => ?_, g', e, .inl kg, fun hb => ?_, r⟩
    · rw [e] at e'; cases e'
      rintro (r' | r' | r')
      · exact hg' (.inl r')
      · exact hg' (.inr (.inl r'))
      · exact hg' (.inr (.inr (.inr (.inr (.inl r')))))
    · rcases hbase g' hb with r' | r'
      · exact hg' r'
      · have := h.klt g' kg; omega
  refine ⟨?_, ST.mono fun k _ e => ?_⟩
  · exact
    { blk := by
        have : (m.wrote z y q c).cells = m.cells.setIfInBounds 3 (.slice q (m.Qs.length + 1) c) := by
          simp [DM.cells, DM.wrote, DM.wv, hlen]
        rw [this]
        exact B7
      apart := ⟨h.apart.bl, h.apart.bo, h.apart.lo, fun k e => ⟨(h.apart.s k e).1, (h.apart.s k e).2.1, (h.apart.s k e).2.2.1, fun e' => by
          rcases hown' k e' with r | r
          · exact (h.apart.s k e).2.2.2.1 r
          · have := ks k e; omega, (h.apart.s k e).2.2.2.2⟩, fun k e => by
          rcases hown' k e with r | r
          · exact h.apart.w k r
          · exact ⟨by omega, show k ≠ m.lm by omega, show k ≠ m.om by omega, fun e' => by have := kf k e'; omega⟩, h.apart.f⟩
      kk := fun k hk => by
        rcases hbase k hk with r | r
        · exact .inl (h.kk k r)
        · refine .inr ⟨by omega, ?_⟩
          rcases hk with e | e | e | e | e | e
          · omega
          · have : k = m.lm := e; omega
          · have : k = m.om := e; omega
          · have := ks k e; omega
          · have := hwt k (by simpa [DM.wv, DM.wrote, Value.ownBlock] using e); omega
          · have := kf k e; omega
      klt := fun k hk => by
        rw [s7]
        rcases hk with r | r
        · have := h.klt k r; omega
        · exact r.2
      S := h.S.sole ST fun k e => by
        rintro (r | r | r)
        · exact (h.apart.s k e).1 r
        · exact (h.apart.s k e).2.1 r
        · exact (h.apart.s k e).2.2.2.1 r
      SO := fun x hx => ht7 x (h.SO x hx)
      Q := by
        show RowOwn wtT _ 0 (.slice q (m.Qs ++ [(⟨z, y⟩ : WtS)]).length c) (m.Qs ++ [⟨z, y⟩])
        rw [hlen]
        exact hQ7
      QO := fun y' hy' => by
        rcases List.mem_append.1 hy' with r | r
        · exact ⟨ht7 _ (h.QO y' r).1, (h.QO y' r).2⟩
        · simp only [List.mem_singleton] at r
          subst r
          refine ⟨⟨so_sole (so_sole hy S56 fun b' o e' => ?_) S67 fun b' o e' => ?_, g, hya, .inr ⟨by omega, by omega⟩, fun hb => ?_, hyl⟩, hz0, hz1⟩
          · rw [show (⟨z, y⟩ : WtS).x.a = some ⟨g, 0, none⟩ from hya] at e'; cases e'
            intro e2
            have := kw _ e2; omega
          · rw [show (⟨z, y⟩ : WtS).x.a = some ⟨g, 0, none⟩ from hya] at e'; cases e'
            omega
          · rcases hbase g hb with r' | r'
            · have := hbl g r'; omega
            · omega
      F := h.F.sole ST fun k e => by
        rintro (r | r | r)
        · exact (h.apart.f k e).1 r
        · exact (h.apart.f k e).2.1 r
        · exact (h.apart.w k r).2.2.2 e
      L := map_sole (map_sole (map_sole hL (Sole.made (S := fun _ => False) b45) id) S56 (fun e => (h.apart.w _ e).2.1 rfl)) S67 (fun e => h.apart.bl e.symm)
      O := map_sole h.O ST (by
        rintro (r | r | r)
        · exact h.apart.bo r.symm
        · exact h.apart.lo r.symm
        · exact (h.apart.w _ r).2.2.1 rfl)
      last := by
        have := h.last.snoc z hz
        rw [List.length_map] at this
        show LastOk _ ((m.Qs ++ [(⟨z, y⟩ : WtS)]).map (·.at_))
        rw [List.map_append]
        exact this
      lenS := h.lenS
      cwf := h.cwf
      fwf := h.fwf
      uniq := by
        have hfr : ∀ x : OcS, x.full K m b → x.a ≠ y.a := fun x ⟨g', e, kg, _⟩ e' => by
          rw [e, hya] at e'; cases e'
          have := h.klt _ kg; omega
        refine ⟨h.uniq.s, ?_, fun s i hs hi e => ?_⟩
        · show ((m.Qs ++ [(⟨z, y⟩ : WtS)]).map fun y => y.x.a).Nodup
          rw [List.map_append, List.nodup_append]
          refine ⟨h.uniq.q, by simp, fun a ha c' hc => ?_⟩
          simp only [List.map_cons, List.map_nil, List.mem_singleton] at hc
          obtain ⟨y', hy', rfl⟩ := List.mem_map.1 ha
          rw [hc]
          exact hfr _ (h.QO y' hy').1.2
        · have hi' : i < m.Qs.length + 1 := by rw [← hlen]; exact hi
          by_cases hil : i < m.Qs.length
          · have e1 : atR wtT (m.Qs ++ [(⟨z, y⟩ : WtS)]) i = atR wtT m.Qs i := by unfold atR; rw [List.getElem?_append_left hil]
            have e' : (ocA m.Ls s).a = (atR wtT (m.Qs ++ [(⟨z, y⟩ : WtS)]) i).x.a := e
            rw [e1] at e'
            show (s : Int) = (atR wtT (m.Qs ++ [(⟨z, y⟩ : WtS)]) i).at_
            rw [e1]
            exact h.uniq.sq s i hs hil e'
          · obtain rfl : i = m.Qs.length := by omega
            have e1 : atR wtT (m.Qs ++ [(⟨z, y⟩ : WtS)]) m.Qs.length = ⟨z, y⟩ := by unfold atR; rw [List.getElem?_append_right (Nat.le_refl _)]; simp
            have e' : (ocA m.Ls s).a = (atR wtT (m.Qs ++ [(⟨z, y⟩ : WtS)]) m.Qs.length).x.a := e
            rw [e1] at e'
            exact absurd e' (hfr _ (h.SO _ (ocA_mem m.Ls s hs)).2) }
  · rcases e with r | r | r
    · exact r ▸ h.kk b (.inl rfl)
    · exact r ▸ h.kk _ (.inr (.inl rfl))
    · exact h.kk k (.inr (.inr (.inr (.inr (.inl r)))))

theorem step_append_run {P : Program} {ops : Array Oper} {o : Oper} {a : Act} {w : World} {K : Act → World → Prop} {Q : Exit → Act → World → Prop} {E : Prop} (hgd : o.guard = none) (s x : Operand) (t : TypeId)
    (ho : o.op = .call { callee := .builtin .append, args := #[s, x], argTypes := #[t, t] }) (v u : Value) (hs : a.eval s = v) (hx : a.eval x = u) (v' : Value) (w' : World) (hr : ∀ ty, (Builtin.append_ #[t, t] ty #[v, u]).run P w = .ok v' w') (h : K (a.put o.dst v') w') :
    if Region.wanted o (yielded ops a.tmps) = true then Oper.wp P o a w K Q else E := by
  rw [if_pos (by simp [Region.wanted, hgd])]
  unfold Oper.wp
  simp [execOp, ho, resolve, invoke, builtin, hs, hx, hr, Result.andThen]
  exact h
/-- The memory of a write, ahead of its walk. -/
theorem write_mem {w3 w4 w5 : World} {b : Nat} {m : DM} {K : Nat → Prop} (h : DiskM w3 b m K) {z : Int} (hz : (Lit.int .i64 z).wf = true) (hz0 : 0 ≤ z) (hz1 : z < (m.Ls.length : Int)) (hq : m.Qs.length ≤ 1000000)
    (S34 : Sole (fun k => k = m.lm) w3 w4) (hL : w4.ownsMap Try.prog 3 (plainElem Try.prog 3) m.lm (m.n + 1) (m.DL.put (.int .i64 z) (.lit (.int .i64 (m.Qs.length : Int)))))
    {l : List UInt8} (hl : l.length = 256) {v : Value} (hF : Fresh w4 w5 v l) :
    ∃ a5 c5, v = .slice a5 256 c5 ∧ Blk w5 b m.cells ∧ ∃ q c w10, (∀ ty, (Builtin.append_ #[61, 61] ty #[.slice m.wp m.Qs.length m.wc, .slice (some ⟨w5.heap.size, 0, none⟩) 1 1]).run Try.prog (w5.alloc (.cells #[.int .i64 z, .slice a5 256 c5] 103)) = .ok (.slice q (m.Qs.length + 1) c) w10) ∧
      Blk w10 b m.cells ∧ ∃ (y : OcS) (K1 : Nat → Prop), y.l = l ∧ DiskM (w10.setCell ⟨b, 3, none⟩ (.slice q (m.Qs.length + 1) c)) b (m.wrote z y q c) K1 ∧ Sole K w3 (w10.setCell ⟨b, 3, none⟩ (.slice q (m.Qs.length + 1) c)) ∧ ∀ k, K1 k → K k ∨ w3.heap.size ≤ k := by
  obtain ⟨a5, c5, rfl, O5, hb5⟩ := hF
  have hoc := Octs.of_own O5
  obtain ⟨g, cap', cur, he, hbg, hlc, hcm, B5', _, _⟩ := own_blk O5 (by omega)
  simp only [Value.slice.injEq] at he
  obtain ⟨rfl, _, rfl⟩ := he
  have hbA : Below w5.heap.size w5 (w5.alloc (.cells #[.int .i64 z, .slice (some ⟨g, 0, none⟩) 256 c5] 103)) := (Below.refl _ _).alloc (Nat.le_refl _) _
  have Bn := Blk.new w5 #[.int .i64 z, .slice (some ⟨g, 0, none⟩) 256 c5] 103
  have hsA : (w5.alloc (.cells #[.int .i64 z, .slice (some ⟨g, 0, none⟩) 256 c5] 103)).heap.size = w5.heap.size + 1 := by simp
  have B4 := h.blk.sole S34 h.apart.bl
  have B5 := B4.more hb5
  refine ⟨_, _, by rw [hl], B5, ?_⟩
  generalize w5.alloc (.cells #[.int .i64 z, .slice (some ⟨g, 0, none⟩) 256 c5] 103) = wA at *
  have Q4 := h.Q.sole S34 (fun k e e' => (h.apart.w k e).2.1 e')
  have QA := (Q4.more hb5).more hbA
  obtain ⟨q, c, w10, hr, O10, S10, own10⟩ := wt_grow QA (by omega) (⟨z, ⟨some ⟨g, 0, none⟩, c5, l⟩⟩ : WtS) (by rw [hl]; exact Bn)
  have b4A : Below w4.heap.size w4 wA := below2 hb5 hbA hb5.size
  have B10 := (B5.more hbA).sole S10 (fun e => (h.apart.w b e).1 rfl)
  have hthere : (⟨some ⟨g, 0, none⟩, c5, l⟩ : OcS).soft wA := ⟨⟨hoc.more hbA, hlc, hcm⟩, fun b' o e => by cases e; exact ⟨(B5'.more hbA).lt, fun i => (B5'.more hbA).frz i⟩⟩
  obtain ⟨Dw, Sw⟩ := h.wrote hz hz0 hz1 S34 hL b4A hthere hl rfl hbg (by have := B5'.lt; have := hbA.size; omega) S10 O10 own10
  exact ⟨q, c, w10, hr, B10, ⟨some ⟨g, 0, none⟩, c5, l⟩, fun k => K k ∨ (w3.heap.size ≤ k ∧ k < w10.heap.size), rfl, Dw, Sw, fun k hk => hk.imp id (·.1)⟩

set_option maxRecDepth 100000 in
set_option maxHeartbeats 4000000 in
theorem write_any {G : (Nat → Prop) → DM → World → World → Prop} (m : DM) (b : Nat) (z : Int) (K : Nat → Prop) (w : World) (D : DiskM w b m K) (x : OcS) (hx : x.there w) (hxK : ∀ b' o, x.a = some ⟨b', o, none⟩ → ¬ K b') (hxl : x.l.length = 256)
    (hz : (Lit.int .i64 z).wf = true) (hz0 : 0 ≤ z) (hz1 : z < (m.Ls.length : Int)) (htr : m.trb = false) (hn : m.n < 1000000) (hq : m.Qs.length ≤ 1000000)
    (KG : ∀ y q c w1 K1, DiskM w1 b (m.after.wrote z y q c).counted K1 → Calls Try.prog 48 #[.pointer (some ⟨b, 0, none⟩)] w1 fun e w' => e = .returned (.tuple #[]) ∧ G K1 (m.after.wrote z y q c).counted w1 w') :
    Calls Try.prog 14 #[.pointer (some ⟨b, 0, none⟩), .int .i64 z, .slice x.a 256 x.cap] w fun e w' => e = .returned (.int .i64 0) ∧
      ∃ y q c w1 K1, y.l = x.l ∧ DiskM w1 b (m.after.wrote z y q c).counted K1 ∧ Sole K w w1 ∧ (∀ k, K1 k → K k ∨ w.heap.size ≤ k) ∧ G K1 (m.after.wrote z y q c).counted w1 w' := by
  have KT := hid (trouble_any m b w D.blk)
  have Dh := hid D
  have hxh := hid hx
  have hxKh := hid hxK
  have hxlh := hid hxl
  have ht := htr
  have KGh := hid KG
  clear D htr hx hxK hxl KG
  simp only [ht, Bool.false_eq_true, if_false, ↓reduceIte] at KT
  go_enter Try.func14, Try.ntmps14
  go_wp2_with fail
  refine KT.out.mono ?_
  rintro e w1 ⟨rfl, hB, hS⟩
  have D1 := hid (Dh.out.after hB hS)
  have S1 := hid (hS.mono (T := K) fun k _ e => e ▸ Dh.out.kk _ (.inl rfl))
  have X1 := hid (oc_sole hxh.out hS fun b' o e e' => hxKh.out b' o e (e' ▸ Dh.out.kk _ (.inl rfl)))
  have KH := has_any m.after b z w1 hB
  rw [show decide (0 ≤ z ∧ z < (m.after.Ls.length : Int)) = true from decide_eq_true ⟨hz0, hz1⟩] at KH
  replace KH := hid KH
  have B1 : Blk w1 b #[.bool true, .bool m.off, .slice m.sp m.Ls.length m.sc, .slice m.wp m.Qs.length m.wc, .map (some m.lm), .map (some m.om), .bool m.tl, .int .i64 m.cl, .slice m.fp m.Fs.length m.fc, .bool m.after.tf, .int .i64 m.after.fl] := hB
  generalize m.after.tf = atf at B1
  generalize m.after.fl = afl at B1
  clear hB hS KT Dh hxh
  go_wp2_with fail
  refine KH.out.mono ?_
  rintro e w2 ⟨rfl, hw⟩
  rw [hw]
  clear hw w2 KH
  go_wp2_with fail
  have q0 := fun u : Later w1 => u.blk B1
  refine wp_region_late 10 (by kernel_rfl) (by kernel_rfl) ?_
  simp only [List.take_succ_cons, List.take_zero, List.drop_succ_cons, List.drop_zero]
  repeat (go_big_quiet_step (fail))
  refine wpQuiet_nil ?_
  intro w3 h3'
  have h3 := late_out h3'
  clear h3' q0
  have D3 := hid (D1.out.more h3)
  have X3 := hid (X1.out.more h3)
  have S3 := hid (S1.out.trans (Sole.made h3))
  have HL := hid (show w3.ownsMap Try.prog 3 (plainElem Try.prog 3) m.lm m.n m.DL from D3.out.L)
  have B3 := B1.more h3
  have hkey := keyOf_int_mk (P := Try.prog) Try.underlying3 hz
  have hql : (Lit.int .i64 (m.Qs.length : Int)).wf = true := by
    rw [show (m.Qs.length : Int) = wrap64 (m.Qs.length : Int) by unfold wrap64; omega]
    exact wrap64_wf _
  clear D1 S1 X1 B1 h3
  go_wp2_with (at_mapUpdate; refine wpList_mapUpdate_own _ rfl _ _ _ 59 rfl 3 3 dlawK Try.underlying59 _ m.lm m.n m.DL rfl HL.out (by unfold maxLen; omega) _ _ _ rfl rfl hkey _ [] (plainElem_int Try.underlying3 hql) ?_; intro w4 hown4 hgrow4)
  have S34 : Sole (fun k => k = m.lm) w3 w4 := Sole.grown hgrow4 (fun k e => by cases e; rfl)
  have X4 := oc_sole X3.out S34 fun b' o e e' => hxKh.out b' o e (e' ▸ D3.out.kk _ (.inr (.inl rfl)))
  have B4 := B3.sole S34 D3.out.apart.bl
  have KC : Hid (∀ W', Below w4.heap.size w4 W' → Calls Try.prog 31 #[.slice x.a 256 x.cap] W' fun e w' => ∃ v, e = .returned v ∧ Fresh W' w' v x.l) := hid (fun W' hb => by
    have := bclone_any x.l x.a x.cap W' (X4.more hb).1 (by rw [hxlh.out]; omega)
    rw [hxlh.out] at this
    exact this)
  have hown4h := hid (show w4.drew.ownsMap Try.prog 3 (plainElem Try.prog 3) m.lm (m.n + 1) (m.DL.put (.int .i64 z) (.lit (.int .i64 (m.Qs.length : Int)))) from hown4.drew)
  have S34h := hid S34.drew
  clear hown4 hgrow4 S34 X4 X3 B3 HL
  obtain ⟨l4, k4, f4⟩ := B4
  go_region_law (first
    | (refine step_append_run (by rfl) _ _ _ (by rfl) _ _ (by rfl) (by rfl) _ _ hr ?_)
    | (go_simp; (with_reducible refine (KC.out _ (Below.refl _ _).drew).mono ?_); rintro e w5 ⟨v, rfl, hF⟩; obtain ⟨a5, c5, rfl, ⟨l5, k5, f5⟩, q, c, w10, hr, ⟨l10, k10, f10⟩, hEx⟩ := write_mem D3.out hz hz0 hz1 hq S34h.out hown4h.out hxlh.out hF; replace hEx := hid hEx; simp only [DM.cells, DM.sv, DM.wv, DM.fv] at k5 k10; clear hF))
  all_goals
    obtain ⟨y, K1, hy, Dw, Sw, hK1⟩ := hEx.out
    have KCt := hid (count_any (G := fun m1 w1 w' => G K1 m1 w1 w') (m.after.wrote z y q c) b K1 _ Dw (fun w1 D1 => KGh.out y q c w1 K1 D1))
    have E := hid (And.intro hy (And.intro (S3.out.trans Sw) hK1))
    have hsz := hid S3.out.size
    clear hEx Dw Sw hK1 hy hr l5 k5 f5 l10 k10 f10 l4 k4 f4
    go_wp2_with fail
    refine KCt.out.mono ?_
    rintro e w9 ⟨rfl, w8, D8, S8, hG⟩
    have E2 := hid (show ∃ y q c w1 K1, y.l = x.l ∧ DiskM w1 b (m.after.wrote z y q c).counted K1 ∧ Sole K w w1 ∧ (∀ k, K1 k → K k ∨ w.heap.size ≤ k) ∧ G K1 (m.after.wrote z y q c).counted w1 w9 from
      ⟨y, q, c, w8, K1, E.out.1, D8, E.out.2.1.trans' S8 (fun k hk e => (E.out.2.2 k e).resolve_right (by have := hsz.out; omega)), fun k e => (E.out.2.2 k e).imp id (fun h => Nat.le_trans hsz.out h), hG⟩)
    clear D8 S8 hG KCt E
    go_wp2_with fail
    go_ret
    exact ⟨rfl, E2.out⟩
end Go.Proofs.Ytcklmemnjchdcaa

/-
  Package disk: goAtZero where nothing is told, Power.
-/

namespace Go.Proofs.Ytcklmemnjchdcaa
open Go.RowKit Go.Maps
set_option linter.unusedVariables false
set_option linter.unusedSimpArgs false

set_option maxRecDepth 100000 in
theorem goz_off (m : DM) (b : Nat) (w : World) (B : Blk w b m.cells) (h : m.tl = false) : Calls Try.prog 48 #[.pointer (some ⟨b, 0, none⟩)] w fun e w' => e = .returned (.tuple #[]) ∧ w' = w := by
  simp only [DM.cells, DM.sv, DM.wv, DM.fv, h] at B
  obtain ⟨l0, k0, f0⟩ := B
  go_enter Try.func48, Try.ntmps48
  go_wp2_with fail
  refine bodyPost_end (results_none rfl _ _ _) rfl ?_
  exact ⟨rfl, rfl⟩

/-- The power is on again. -/
def DM.reset (m : DM) : DM := { m with off := false, tl := false, cl := 0, fp := none, fc := 0, Fs := [], tf := false, fl := 0 }
theorem base_reset {m : DM} {b g : Nat} (h : m.reset.base b g) : m.base b g := by
  rcases h with h | h | h | h | h | h
  · exact .inl h
  · exact .inr (.inl h)
  · exact .inr (.inr (.inl h))
  · exact .inr (.inr (.inr (.inl h)))
  · exact .inr (.inr (.inr (.inr (.inl h))))
  · cases h
theorem DiskM.reset {w w' : World} {b : Nat} {m : DM} {K : Nat → Prop} (h : DiskM w b m K) (hs : Sole (fun k => k = b) w w') (hB : Blk w' b m.reset.cells) : DiskM w' b m.reset K := by
  have hx : ∀ x : OcS, x.soft w ∧ x.full K m b → x.soft w' ∧ x.full K m.reset b := fun x ⟨ht, g, e, kg, hg, r⟩ => ⟨so_sole ht hs fun b' o e' => by rw [e] at e'; cases e'; exact fun h' => hg (.inl h'), g, e, kg, fun h' => hg (base_reset h'), r⟩
  exact
  { blk := hB
    apart := ⟨h.apart.bl, h.apart.bo, h.apart.lo, fun k e => ⟨(h.apart.s k e).1, (h.apart.s k e).2.1, (h.apart.s k e).2.2.1, (h.apart.s k e).2.2.2.1, nofun⟩, fun k e => ⟨(h.apart.w k e).1, (h.apart.w k e).2.1, (h.apart.w k e).2.2.1, nofun⟩, nofun⟩
    kk := fun k hk => h.kk k (base_reset hk)
    klt := fun k hk => Nat.lt_of_lt_of_le (h.klt k hk) hs.size
    S := h.S.sole hs fun k e h' => (h.apart.s k e).1 h'
    SO := fun x hx' => hx x (h.SO x hx')
    Q := h.Q.sole hs fun k e h' => (h.apart.w k e).1 h'
    QO := fun y hy => ⟨hx _ (h.QO y hy).1, (h.QO y hy).2⟩
    F := RowOwn.nil _ _
    L := map_sole h.L hs fun h' => h.apart.bl h'.symm
    O := map_sole h.O hs fun h' => h.apart.bo h'.symm
    last := h.last
    lenS := h.lenS
    cwf := rfl
    fwf := rfl
    uniq := ⟨h.uniq.s, h.uniq.q, h.uniq.sq⟩ }

end Go.Proofs.Ytcklmemnjchdcaa

/-
  Package disk: fated: what waits, in order, each with its fate.
-/















namespace Go.Proofs.Ytcklmemnjchdcaa
open Go.RowKit Go.Shelf
set_option linter.unusedVariables false
set_option linter.unusedSimpArgs false

attribute [local go_sem] Oper.semAt_some

/-- The first k of N. -/
def fk (N k : Nat) : List (Fin N) := (List.finRange N).take k
def wVal (y : WtS) : Value := .agg #[.int .i64 y.at_, .slice y.x.a y.x.l.length y.x.cap]

end Go.Proofs.Ytcklmemnjchdcaa

/-
  Package disk: settle, where nothing has a fate.
-/

namespace Go.Proofs.Ytcklmemnjchdcaa
open Go.RowKit Go.Shelf
set_option linter.unusedVariables false
set_option linter.unusedSimpArgs false

attribute [local go_sem] Oper.semAt_some

end Go.Proofs.Ytcklmemnjchdcaa

/-
  Package disk: what becoming sure leaves.
-/

namespace Go.Proofs.Ytcklmemnjchdcaa
open Go.RowKit Go.Maps
set_option linter.unusedVariables false
set_option linter.unusedSimpArgs false

def DM.became (m : DM) (i : Nat) (x : OcS) (DO : DataW Unit) (n' : Nat) : DM := { m with Ls := m.Ls.set i x, DO := DO, n' := n' }
theorem became_sv (m : DM) (i : Nat) (x : OcS) (DO : DataW Unit) (n' : Nat) : (m.became i x DO n').sv = m.sv := by simp [DM.sv, DM.became]
theorem became_cells (m : DM) (i : Nat) (x : OcS) (DO : DataW Unit) (n' : Nat) : (m.became i x DO n').cells = m.cells := by
  simp [DM.cells, DM.became, DM.sv]
theorem became_base {m : DM} {i : Nat} {x : OcS} {DO : DataW Unit} {n' b k : Nat} : (m.became i x DO n').base b k ↔ m.base b k := by
  unfold DM.base
  rw [became_sv]
  exact Iff.rfl
theorem nodup_set {α : Type} {l : List α} (h : l.Nodup) (i : Nat) (x : α) (hx : ∀ j (hj : j < l.length), j ≠ i → l[j] ≠ x) : (l.set i x).Nodup := by
  unfold List.Nodup at h ⊢
  rw [List.pairwise_iff_getElem] at h ⊢
  intro a c ha hc hac
  rw [List.length_set] at ha hc
  rw [List.getElem_set, List.getElem_set]
  split
  · split
    · omega
    · rename_i h1 h2
      exact fun e => hx c hc (fun e' => h2 e'.symm) e.symm
  · split
    · rename_i h1 h2
      exact hx a ha (fun e' => h1 e'.symm)
    · exact h a c ha hc hac
theorem DiskM.became {w w1 w3 : World} {b : Nat} {m : DM} {K : Nat → Prop} (h : DiskM w b m K) {i : Nat} (hi : i < m.Ls.length) {x : OcS} {DO : DataW Unit} {n' : Nat} (b01 : Below w.heap.size w w1) (hx : x.soft w1) (hxl : x.l.length = 256)
    (hnow : (∃ j, j < m.Qs.length ∧ x = (atR wtT m.Qs j).x ∧ (atR wtT m.Qs j).at_ = (i : Int)) ∨ (∃ g, x.a = some ⟨g, 0, none⟩ ∧ w.heap.size ≤ g ∧ g < w1.heap.size))
    (S13 : Sole (fun k => m.sv.ownBlock = some k ∨ k = m.om) w1 w3) (hS : RowOwn ocT w3 0 m.sv (m.Ls.set i x)) (hO : w3.ownsMap Try.prog 3 unitElem m.om n' DO) :
    DiskM w3 b (m.became i x DO n') (fun k => K k ∨ (w.heap.size ≤ k ∧ k < w1.heap.size)) := by
  have s01 := b01.size
  have s13 := S13.size
  have hbl : ∀ k, m.base b k → k < w.heap.size := fun k e => h.klt k (h.kk k e)
  have hT : ∀ k, (m.sv.ownBlock = some k ∨ k = m.om) → m.base b k := fun k e => e.elim (fun e => .inr (.inr (.inr (.inl e)))) (fun e => .inr (.inr (.inl e)))
  have D1 := h.more b01
  have ht3 : ∀ y : OcS, y.soft w1 → y.full K m b → y.soft w3 ∧ y.full (fun k => K k ∨ (w.heap.size ≤ k ∧ k < w1.heap.size)) (m.became i x DO n') b := fun y hy ⟨g, e, kg, hg, r⟩ =>
    ⟨so_sole hy S13 fun b' o e' => by rw [e] at e'; cases e'; exact fun h' => hg (hT _ h'), g, e, .inl kg, fun hb => hg (became_base.1 hb), r⟩
  have hfr : ∀ y : OcS, y.full K m b → ∀ g, x.a = some ⟨g, 0, none⟩ → w.heap.size ≤ g → y.a ≠ x.a := fun y ⟨g', e, kg, _⟩ g hg hge e' => by
    rw [e, hg] at e'; cases e'
    have := h.klt _ kg; omega
  have hx3 : x.soft w3 ∧ x.full (fun k => K k ∨ (w.heap.size ≤ k ∧ k < w1.heap.size)) (m.became i x DO n') b := by
    rcases hnow with ⟨j, hj, rfl, hat⟩ | ⟨g, e, h1, h2⟩
    · exact ht3 _ hx (h.QO _ (atR_mem m.Qs j hj)).1.2
    · refine ⟨so_sole hx S13 fun b' o e' => by rw [e] at e'; cases e'; exact fun h' => by have := hbl _ (hT _ h'); omega, g, e, .inr ⟨h1, h2⟩, fun hb => ?_, hxl⟩
      have := hbl g (became_base.1 hb); omega
  exact
  { blk := by rw [became_cells]; exact D1.blk.sole S13 (by rintro (e | e); exact (h.apart.s b e).1 rfl; exact h.apart.bo e)
    apart := ⟨h.apart.bl, h.apart.bo, h.apart.lo, by rw [became_sv]; exact h.apart.s, h.apart.w, h.apart.f⟩
    kk := fun k hk => .inl (h.kk k (became_base.1 hk))
    klt := fun k hk => by
      rcases hk with r | r
      · have := h.klt k r; omega
      · omega
    S := by rw [became_sv]; exact hS
    SO := fun y hy => by
      rcases List.mem_or_eq_of_mem_set hy with r | rfl
      · exact ht3 y (D1.SO y r).1 (h.SO y r).2
      · exact hx3
    Q := D1.Q.sole S13 fun k e => by
      rintro (r | r)
      · exact (h.apart.s k r).2.2.2.1 e
      · exact (h.apart.w k e).2.2.1 r
    QO := fun y hy => ⟨ht3 _ (D1.QO y hy).1.1 (h.QO y hy).1.2, (h.QO y hy).2.1, by
      show y.at_ < ((m.Ls.set i x).length : Int)
      rw [List.length_set]
      exact (h.QO y hy).2.2⟩
    F := D1.F.sole S13 fun k e => by
      rintro (r | r)
      · exact (h.apart.s k r).2.2.2.2 e
      · exact (h.apart.f k e).2.2 r
    L := map_sole D1.L S13 (by
      rintro (r | r)
      · exact (h.apart.s _ r).2.1 rfl
      · exact h.apart.lo r)
    O := hO
    last := h.last
    lenS := by show (m.Ls.set i x).length ≤ 4096; rw [List.length_set]; exact h.lenS
    cwf := h.cwf
    fwf := h.fwf
    uniq := by
      refine ⟨?_, h.uniq.q, fun s j hs hj e => ?_⟩
      · show ((m.Ls.set i x).map OcS.a).Nodup
        rw [List.map_set]
        refine nodup_set h.uniq.s i _ fun j hj hne => ?_
        rw [List.length_map] at hj
        rw [List.getElem_map]
        rcases hnow with ⟨j', hj', rfl, hat⟩ | ⟨g, e, h1, h2⟩
        · intro e'
          have := h.uniq.sq j j' hj hj' (by rw [ocA_eq m.Ls j hj]; exact e')
          omega
        · exact hfr _ (h.SO _ (List.getElem_mem hj)).2 g e h1
      · have hs' : s < m.Ls.length := by have : s < (m.Ls.set i x).length := hs; rwa [List.length_set] at this
        have e2 : (ocA (m.Ls.set i x) s).a = (atR wtT m.Qs j).x.a := e
        rw [ocA_eq _ s (by rw [List.length_set]; exact hs'), List.getElem_set] at e2
        split at e2
        · rename_i his
          subst his
          rcases hnow with ⟨j', hj', rfl, hat⟩ | ⟨g, ex, h1, h2⟩
          · have hjj : j' = j := by
              have hq := h.uniq.q
              unfold List.Nodup at hq
              rw [List.pairwise_iff_getElem] at hq
              rw [atR_eq m.Qs j' hj', atR_eq m.Qs j hj] at e2
              rcases Nat.lt_trichotomy j' j with h1 | h1 | h1
              · exact absurd (by rw [List.getElem_map, List.getElem_map]; exact e2) (hq j' j (by rw [List.length_map]; exact hj') (by rw [List.length_map]; exact hj) h1)
              · exact h1
              · exact absurd (by rw [List.getElem_map, List.getElem_map]; exact e2.symm) (hq j j' (by rw [List.length_map]; exact hj) (by rw [List.length_map]; exact hj') h1)
            subst hjj
            exact hat.symm
          · exact absurd e2.symm (hfr _ (h.QO _ (atR_mem m.Qs j hj)).1.2 g ex h1)
        · rw [← ocA_eq m.Ls s hs'] at e2
          exact h.uniq.sq s j hs' hj e2 }
end Go.Proofs.Ytcklmemnjchdcaa

/-
  Package disk: become, from where it is known what a sector becomes. (Written by wip/tools/genbecome.py.)
-/




namespace Go.Proofs.Ytcklmemnjchdcaa
open Go.RowKit Go.Maps
set_option linter.unusedVariables false
set_option linter.unusedSimpArgs false

/-- The code from a region on. -/
def codeFrom' (n : Nat) : Code → Option Code
  | .seq (.region m o d) b => if m = n then some (.seq (.region m o d) b) else codeFrom' n b
  | .seq _ b => codeFrom' n b
  | _ => none
noncomputable def becC : Code := ((Try.f83.body.bind (codeFrom' 6)).getD .skip)

/-- Which sectors are odd then. -/
def oddL (l old now : List UInt8) (was : Bool) : Bool := if now = l then false else if now = old then was else true

end Go.Proofs.Ytcklmemnjchdcaa

/-
  slices.Concat of two rows of octets.
-/






namespace Go.Proofs.Ytcklmemnjchdcaa
open Go.RowKit
set_option linter.unusedVariables false
set_option linter.unusedSimpArgs false

end Go.Proofs.Ytcklmemnjchdcaa

/-
  Package disk: become.
-/


namespace Go.Proofs.Ytcklmemnjchdcaa
open Go.RowKit Go.Maps
set_option linter.unusedVariables false
set_option linter.unusedSimpArgs false

/-- What a sector becomes, of what was written and of what stood there. -/
def nowL (f : Int) (l old : List UInt8) : List UInt8 := if 2 ≤ f then l.take ((f - 2) % 256).toNat ++ old.drop ((f - 2) % 256).toNat else l
def BecPost (m : DM) (b i : Nat) (K : Nat → Prop) (f : Int) (ly : List UInt8) (w : World) (e : Ending) (w' : World) : Prop :=
  e = .returned (.tuple #[]) ∧ ∃ x DO n' K1, x.l = nowL f ly (ocA m.Ls i).l ∧ DiskM w' b (m.became i x DO n') K1 ∧ n' ≤ m.n' + 1 ∧
    (∀ z : Int, (Lit.int .i64 z).wf = true → Maps.has DO (.int .i64 z) = if z = (i : Int) then oddL ly (ocA m.Ls i).l x.l (Maps.has m.DO (.int .i64 z)) else Maps.has m.DO (.int .i64 z)) ∧ Sole (fun k => m.sv.ownBlock = some k ∨ k = m.om) w w' ∧ (∀ k, K1 k → K k ∨ w.heap.size ≤ k)

end Go.Proofs.Ytcklmemnjchdcaa

/-
  Package disk: settle: all that waits has its fate.
-/


namespace Go.Proofs.Ytcklmemnjchdcaa
open Go.RowKit Go.Shelf Go.Maps
set_option linter.unusedVariables false
set_option linter.unusedSimpArgs false

attribute [local go_sem] Oper.semAt_some

theorem cells_at {W : World} {b o : Nat} {v : Value} (h : W.cell? ⟨b, o, none⟩ = some v) : ∃ ob : Obj, W.heap[b]? = some ob ∧ ob.isCells = true := by
  unfold World.cell? at h
  cases hb : W.heap[b]? with
  | none => simp [hb] at h
  | some ob =>
    refine ⟨ob, rfl, ?_⟩
    cases ob <;> simp [hb] at h <;> rfl
theorem not_row {W W' : World} {row : Option Nat} {b o : Nat} {v : Value} (h : W.cell? ⟨b, o, none⟩ = some v) (hr : ∀ r, row = some r → ∃ o : Obj, W.heap[r]? = some o ∧ o.isCells = false) : row ≠ some b := fun e => by
  obtain ⟨ob, h1, h2⟩ := cells_at h
  obtain ⟨o', h3, h4⟩ := hr b e
  rw [h1] at h3; cases h3
  rw [h2] at h4; cases h4
theorem row_kept {α : Type} {T : RowT α} {W W' : World} {row : Option Nat} {base : Nat} {v : Value} {L : List α} (h : RowOwn T W base v L) (hg : W.grownBy W' row) (hr : ∀ r, row = some r → ∃ o : Obj, W.heap[r]? = some o ∧ o.isCells = false) : RowOwn T W' base v L := by
  refine ⟨h.1, h.2.imp id ?_⟩
  rintro ⟨g, cap, cur, rfl, hb, hg0, h1, h2, h3, h4⟩
  exact ⟨g, cap, cur, rfl, hb, (grownBy_keeps_cells hg hr hg0 rfl).trans hg0, h1, h2, h3, h4⟩
theorem octs_kept {W W' : World} {row : Option Nat} {x : OcS} (h : x.there W) (hg : W.grownBy W' row) (hr : ∀ r, row = some r → ∃ o : Obj, W.heap[r]? = some o ∧ o.isCells = false) : x.there W' := by
  refine ⟨?_, h.2⟩
  rcases h.1 with h0 | ⟨b, o, e, hlt, hc⟩
  · exact .inl h0
  · exact .inr ⟨b, o, e, Nat.lt_of_lt_of_le hlt hg.size, fun i hi => cell_kept (hc i hi) hg hr⟩
theorem soft_kept {W W' : World} {row : Option Nat} {x : OcS} (h : x.soft W) (hne : x.l.length ≠ 0) (hg : W.grownBy W' row) (hr : ∀ r, row = some r → ∃ o : Obj, W.heap[r]? = some o ∧ o.isCells = false) : x.soft W' := by
  refine ⟨octs_kept h.1 hg hr, fun b o e => ⟨Nat.lt_of_lt_of_le (h.2 b o e).1 hg.size, fun i => ?_⟩⟩
  rcases h.1.1 with h0 | ⟨b', o', e', hlt, hc⟩
  · exact absurd (by rw [h0]; rfl) hne
  · rw [e] at e'; cases e'
    have hnb : row ≠ some b := not_row (W' := W') (hc 0 (by omega)) hr
    exact (World.frozen?_of_block (a := ⟨b, i, none⟩) (hg.block b hlt (fun e => hnb e.symm))).trans ((h.2 b o e).2 i)
/-- A loop's own blocks are turned: the disk is as it was. -/
theorem DiskM.turned {W W' : World} {b B : Nat} {m : DM} {K : Nat → Prop} {row : Option Nat} (h : DiskM W b m K) (hg : W.grownBy W' row) (hr : ∀ r, row = some r → B ≤ r ∧ ∃ o : Obj, W.heap[r]? = some o ∧ o.isCells = false) (hl : m.lm < B) (ho : m.om < B) : DiskM W' b m K := by
  have hr' := fun r e => (hr r e).2
  have hnb : row ≠ some b := not_row (W' := W') (h.blk.cell 0 |>.trans (by rfl)) hr'
  have hbk : ∀ k, row ≠ some k → k < W.heap.size → W'.heap[k]? = W.heap[k]? := fun k hk hlt => hg.block k hlt (fun e => hk e.symm)
  exact
  { blk := ⟨Nat.lt_of_lt_of_le h.blk.lt hg.size, fun o => (World.cell?_of_block (a := ⟨b, o, none⟩) (hbk b hnb h.blk.lt)).trans (h.blk.cell o), fun o => (World.frozen?_of_block (a := ⟨b, o, none⟩) (hbk b hnb h.blk.lt)).trans (h.blk.frz o)⟩
    apart := h.apart
    kk := h.kk
    klt := fun k hk => Nat.lt_of_lt_of_le (h.klt k hk) hg.size
    S := row_kept h.S hg hr'
    SO := fun x hx => ⟨soft_kept (h.SO x hx).1 (by obtain ⟨_, _, _, _, e⟩ := (h.SO x hx).2; omega) hg hr', (h.SO x hx).2⟩
    Q := row_kept h.Q hg hr'
    QO := fun y hy => ⟨⟨soft_kept (h.QO y hy).1.1 (by obtain ⟨_, _, _, _, e⟩ := (h.QO y hy).1.2; omega) hg hr', (h.QO y hy).1.2⟩, (h.QO y hy).2⟩
    F := row_kept h.F hg hr'
    L := by
      have hlt := h.L.lt
      obtain ⟨es, clock, hb, r⟩ := h.L
      exact ⟨es, clock, (hbk _ (fun e => by have := (hr _ e).1; omega) hlt).trans hb, r⟩
    O := by
      have hlt := h.O.lt
      obtain ⟨es, clock, hb, r⟩ := h.O
      exact ⟨es, clock, (hbk _ (fun e => by have := (hr _ e).1; omega) hlt).trans hb, r⟩
    last := h.last
    lenS := h.lenS
    cwf := h.cwf
    fwf := h.fwf
    uniq := h.uniq }

/-- Sectors, and which are odd. -/
abbrev SD := List (List UInt8) × (Int → Bool)
def stepD (s : SD) (z : Int) (l : List UInt8) (f : Int) : SD :=
  if 1 ≤ f then (s.1.set z.toNat (nowL f l (s.1.getD z.toNat [])), fun y => if y = z then oddL l (s.1.getD z.toNat []) (nowL f l (s.1.getD z.toNat [])) (s.2 y) else s.2 y) else s
def settleD (Qs : List WtS) (Fs : List Int) {N : Nat} (s : SD) (pre : List (Fin N)) : SD := pre.foldl (fun s i => stepD s (atR wtT Qs i.val).at_ (atR wtT Qs i.val).x.l (atR fatT Fs i.val)) s
def DM.moved (m : DM) (L : List OcS) (DO : DataW Unit) (n' : Nat) : DM := { m with Ls := L, DO := DO, n' := n' }
/-- A disk whose sectors have become others. -/
structure Moved' (W : World) (b : Nat) (m : DM) (K : Nat → Prop) (B : Nat) (s : SD) (j : Nat) (L : List OcS) (DO : DataW Unit) (n' : Nat) (K' : Nat → Prop) : Prop where
  D : DiskM W b (m.moved L DO n') K'
  len : L.length = m.Ls.length
  S : L.map OcS.l = s.1
  O : ∀ z : Int, (Lit.int .i64 z).wf = true → Maps.has DO (.int .i64 z) = s.2 z
  n : n' ≤ m.n' + j
  K : ∀ k, K' k → K k ∨ B ≤ k

end Go.Proofs.Ytcklmemnjchdcaa

/-
  The document's own disk: what it holds; Broken.
-/



namespace Go.Proofs.Ytcklmemnjchdcaa
open Go.RowKit Go.Maps
set_option linter.unusedVariables false
set_option linter.unusedSimpArgs false

/-- The cells of such a disk. -/
abbrev rdv (p0 : Option Addr) (n0 c0 : Nat) (p1 : Option Addr) (n1 c1 : Nat) (p2 : Option Addr) (n2 c2 : Nat) (off : Bool) (cut : Int) (p5 : Option Addr) (n5 c5 : Nat) (fail : Int) : List Value :=
  [.slice p0 n0 c0, .slice p1 n1 c1, .slice p2 n2 c2, .bool off, .int .i64 cut, .slice p5 n5 c5, .int .i64 fail]
/-- Is a call broken, and what is left to fail. -/
def bkB (off : Bool) (fail : Int) : Bool := off || decide (fail = 0)
def bkF (off : Bool) (fail : Int) : Int := if off then fail else if 0 < fail then fail - 1 else if fail = 0 then -1 else fail
end Go.Proofs.Ytcklmemnjchdcaa

/-
  The document's own disk as data, and where it lies; copies of rows.
-/

namespace Go.Proofs.Ytcklmemnjchdcaa
open Go.RowKit Go.Maps
set_option linter.unusedVariables false
set_option linter.unusedSimpArgs false

theorem r_rowp_sole {S : Nat → Prop} {w w' : World} {p : Option Addr} {sz n : Nat} {f : Nat → List Value} (h : RowP w p sz n f) (hs : Sole S w w') (hn : ∀ b o, p = some ⟨b, o, none⟩ → ¬ S b) : RowP w' p sz n f := by
  rcases h with h | ⟨b, o, e, R⟩
  · exact .inl h
  · exact .inr ⟨b, o, e, Nat.lt_of_lt_of_le R.lt hs.size, fun i hi j v hv => (hs.cell R.lt (hn b o e)).trans (R.cell i hi j v hv)⟩
/-- The document's disk. -/
structure RM where
  p0 : Option Addr
  c0 : Nat
  L : List OcS
  p1 : Option Addr
  c1 : Nat
  Q : List WtS
  p2 : Option Addr
  c2 : Nat
  O : List Bool
  off : Bool
  cut : Int
  p5 : Option Addr
  c5 : Nat
  F : List Int
  fail : Int
abbrev RM.cells (m : RM) : List Value := rdv m.p0 m.L.length m.c0 m.p1 m.Q.length m.c1 m.p2 m.O.length m.c2 m.off m.cut m.p5 m.F.length m.c5 m.fail
abbrev RM.v (m : RM) : Value := .agg m.cells.toArray
/-- Blocks of J, and those made since. -/
def JN (J : Nat → Prop) (w w' : World) : Nat → Prop := fun k => J k ∨ (w.heap.size ≤ k ∧ k < w'.heap.size)
theorem sole_setAll {S : Nat → Prop} {b : Nat} (hb : S b) : ∀ (vs : List Value) (o : Nat) (w : World), Sole S w (setAll w b o vs)
  | [], _, w => Sole.refl S w
  | v :: vs, o, w => (Sole.setCell (S := S) w (b := b) (o := o) v hb).trans (sole_setAll hb vs (o + 1) _)
end Go.Proofs.Ytcklmemnjchdcaa

/-
  Package disk: goAtZero where the power goes, Cut.
-/


namespace Go.Proofs.Ytcklmemnjchdcaa
open Go.RowKit Go.Maps
set_option linter.unusedVariables false
set_option linter.unusedSimpArgs false

def DM.sd (m : DM) : SD := (m.Ls.map OcS.l, fun z => Maps.has m.DO (.int .i64 z))
/-- What settling leaves. -/
structure Settled (w w' : World) (b : Nat) (m : DM) (K : Nat → Prop) (Fs : List Int) (N : Nat) (L : List OcS) (DO : DataW Unit) (n' : Nat) (K' : Nat → Prop) : Prop where
  len : L.length = m.Ls.length
  S : L.map OcS.l = (settleD m.Qs Fs m.sd (fk N N)).1
  O : ∀ z : Int, (Lit.int .i64 z).wf = true → Maps.has DO (.int .i64 z) = (settleD m.Qs Fs m.sd (fk N N)).2 z
  n : n' ≤ m.n' + m.Qs.length
  K : ∀ k, K' k → K k ∨ w.heap.size ≤ k
/-- The power has gone. -/
def DM.gone (m : DM) : DM := { m with off := true, tl := false, cl := 0, fp := none, fc := 0, Fs := [] }
theorem base_gone {m : DM} {b g : Nat} (h : m.gone.base b g) : m.base b g := by
  rcases h with h | h | h | h | h | h
  · exact .inl h
  · exact .inr (.inl h)
  · exact .inr (.inr (.inl h))
  · exact .inr (.inr (.inr (.inl h)))
  · exact .inr (.inr (.inr (.inr (.inl h))))
  · cases h
theorem DiskM.gone {w w' : World} {b : Nat} {m : DM} {K : Nat → Prop} (h : DiskM w b m K) (hs : Sole (fun k => k = b) w w') (hB : Blk w' b m.gone.cells) : DiskM w' b m.gone K := by
  have hx : ∀ x : OcS, x.soft w ∧ x.full K m b → x.soft w' ∧ x.full K m.gone b := fun x ⟨ht, g, e, kg, hg, r⟩ => ⟨so_sole ht hs fun b' o e' => by rw [e] at e'; cases e'; exact fun h' => hg (.inl h'), g, e, kg, fun h' => hg (base_gone h'), r⟩
  exact
  { blk := hB
    apart := ⟨h.apart.bl, h.apart.bo, h.apart.lo, fun k e => ⟨(h.apart.s k e).1, (h.apart.s k e).2.1, (h.apart.s k e).2.2.1, (h.apart.s k e).2.2.2.1, nofun⟩, fun k e => ⟨(h.apart.w k e).1, (h.apart.w k e).2.1, (h.apart.w k e).2.2.1, nofun⟩, nofun⟩
    kk := fun k hk => h.kk k (base_gone hk)
    klt := fun k hk => Nat.lt_of_lt_of_le (h.klt k hk) hs.size
    S := h.S.sole hs fun k e h' => (h.apart.s k e).1 h'
    SO := fun x hx' => hx x (h.SO x hx')
    Q := h.Q.sole hs fun k e h' => (h.apart.w k e).1 h'
    QO := fun y hy => ⟨hx _ (h.QO y hy).1, (h.QO y hy).2⟩
    F := RowOwn.nil _ _
    L := map_sole h.L hs fun h' => h.apart.bl h'.symm
    O := map_sole h.O hs fun h' => h.apart.bo h'.symm
    last := h.last
    lenS := h.lenS
    cwf := rfl
    fwf := h.fwf
    uniq := ⟨h.uniq.s, h.uniq.q, h.uniq.sq⟩ }

/-- When the power goes is told. -/
def DM.toldCut (m : DM) (z : Int) (q : Option Addr) (c : Nat) (Fs : List Int) : DM := { m with tl := true, cl := z, fp := q, fc := c, Fs := Fs }
theorem DiskM.toldCut {w w1 w2 : World} {b : Nat} {m : DM} {K : Nat → Prop} (h : DiskM w b m K) {z : Int} (hz : (Lit.int .i64 z).wf = true) {q : Option Addr} {c : Nat} {Fs : List Int} (b01 : Below w.heap.size w w1) (hF : RowOwn fatT w1 w.heap.size (.slice q Fs.length c) Fs) (hs : Sole (fun k => k = b) w1 w2)
    (hB : Blk w2 b (m.toldCut z q c Fs).cells) : DiskM w2 b (m.toldCut z q c Fs) (fun k => K k ∨ (w.heap.size ≤ k ∧ k < w1.heap.size)) := by
  have hin := hF.within
  have s01 := b01.size
  have s12 := hs.size
  have hbl : ∀ k, m.base b k → k < w.heap.size := fun k e => h.klt k (h.kk k e)
  have hbase : ∀ k, (m.toldCut z q c Fs).base b k → m.base b k ∨ w.heap.size ≤ k := by
    rintro k (e | e | e | e | e | e)
    · exact .inl (.inl e)
    · exact .inl (.inr (.inl e))
    · exact .inl (.inr (.inr (.inl e)))
    · exact .inl (.inr (.inr (.inr (.inl e))))
    · exact .inl (.inr (.inr (.inr (.inr (.inl e)))))
    · exact .inr (hin k e).1
  have D1 := h.more b01
  have kb := h.klt b (h.kk b (.inl rfl))
  have kl := hbl m.lm (.inr (.inl rfl))
  have ko := hbl m.om (.inr (.inr (.inl rfl)))
  have hx : ∀ x : OcS, x.soft w1 ∧ x.full K m b → x.soft w2 ∧ x.full (fun k => K k ∨ (w.heap.size ≤ k ∧ k < w1.heap.size)) (m.toldCut z q c Fs) b := fun x ⟨ht, g, e, kg, hg, r⟩ =>
    ⟨so_sole ht hs fun b' o e' => by rw [e] at e'; cases e'; exact fun h' => hg (.inl h'), g, e, .inl kg, fun h' => by rcases hbase g h' with r | r; exact hg r; (have := h.klt g kg; omega), r⟩
  exact
  { blk := hB
    apart := ⟨h.apart.bl, h.apart.bo, h.apart.lo, fun k e => ⟨(h.apart.s k e).1, (h.apart.s k e).2.1, (h.apart.s k e).2.2.1, (h.apart.s k e).2.2.2.1, fun e' => by have := (hin k e').1; have := hbl k (.inr (.inr (.inr (.inl e)))); omega⟩,
      fun k e => ⟨(h.apart.w k e).1, (h.apart.w k e).2.1, (h.apart.w k e).2.2.1, fun e' => by have := (hin k e').1; have := hbl k (.inr (.inr (.inr (.inr (.inl e))))); omega⟩,
      fun k e => ⟨by have := (hin k e).1; omega, by have := (hin k e).1; show k ≠ m.lm; omega, by have := (hin k e).1; show k ≠ m.om; omega⟩⟩
    kk := fun k hk => by
      rcases hk with e | e | e | e | e | e
      · exact .inl (h.kk k (.inl e))
      · exact .inl (h.kk k (.inr (.inl e)))
      · exact .inl (h.kk k (.inr (.inr (.inl e))))
      · exact .inl (h.kk k (.inr (.inr (.inr (.inl e)))))
      · exact .inl (h.kk k (.inr (.inr (.inr (.inr (.inl e))))))
      · exact .inr (hin k e)
    klt := fun k hk => by
      rcases hk with r | r
      · have := h.klt k r; omega
      · omega
    S := D1.S.sole hs fun k e h' => (h.apart.s k e).1 h'
    SO := fun x hx' => hx x ⟨(D1.SO x hx').1, (h.SO x hx').2⟩
    Q := D1.Q.sole hs fun k e h' => (h.apart.w k e).1 h'
    QO := fun y hy => ⟨hx _ ⟨(D1.QO y hy).1.1, (h.QO y hy).1.2⟩, (h.QO y hy).2⟩
    F := (hF.mono (Nat.zero_le _)).sole hs fun k e h' => by have := (hin k e).1; omega
    L := map_sole D1.L hs fun h' => h.apart.bl h'.symm
    O := map_sole D1.O hs fun h' => h.apart.bo h'.symm
    last := h.last
    lenS := h.lenS
    cwf := hz
    fwf := h.fwf
    uniq := ⟨h.uniq.s, h.uniq.q, h.uniq.sq⟩ }

end Go.Proofs.Ytcklmemnjchdcaa

/-
  Package disk: Flush.
-/

namespace Go.Proofs.Ytcklmemnjchdcaa
open Go.RowKit Go.Maps
set_option linter.unusedVariables false
set_option linter.unusedSimpArgs false

/-- The first j of what waits become sure, wholly. -/
def flushD (Qs : List WtS) (s : SD) (j : Nat) : SD := (Qs.take j).foldl (fun s y => stepD s y.at_ y.x.l 1) s
end Go.Proofs.Ytcklmemnjchdcaa

/-
  The law's own small check of a disk: alive.
-/



namespace Go.Proofs.Ytcklmemnjchdcaa
open Go.RowKit Go.Maps
set_option linter.unusedVariables false
set_option linter.unusedSimpArgs false

end Go.Proofs.Ytcklmemnjchdcaa

/-
  Layer 14: the law's own full sectors.
-/

namespace Go.Proofs.Ytcklmemnjchdcaa
open Go.RowKit Go.Maps
set_option linter.unusedVariables false
set_option linter.unusedSimpArgs false

def fullV (n : Int) (j : Nat) : Int := (n + ((j / 100 : Nat) : Int)) % 256
def fullL (n : Int) : List UInt8 := (List.range 256).map fun j => UInt8.ofNat (fullV n j).toNat
end Go.Proofs.Ytcklmemnjchdcaa

/-
  Package disk: Waits and Count of a disk; Power where it is off; what settling leaves alone.
-/



namespace Go.Proofs.Ytcklmemnjchdcaa
open Go.RowKit Go.Maps
set_option linter.unusedVariables false
set_option linter.unusedSimpArgs false

end Go.Proofs.Ytcklmemnjchdcaa

/-
  The document's own disk: put: a sector is as it is told.
-/


namespace Go.Proofs.Ytcklmemnjchdcaa
open Go.RowKit Go.Maps
set_option linter.unusedVariables false
set_option linter.unusedSimpArgs false

theorem flatR_set1 {α : Type} {T : RowT α} (hsz : T.sz = 1) (K : T.Ok) (c : α → Value) (hc : ∀ x, T.cells x = [c x]) (L : List α) (k : Nat) (x : α) : (flatR T L).set k (c x) = flatR T (L.set k x) := by
  have hf : ∀ M : List α, flatR T M = M.map c := fun M => by
    induction M with
    | nil => rfl
    | cons a M ih => simp only [flatR, List.flatMap_cons, List.map_cons, hc] at ih ⊢; rw [ih]; rfl
  rw [hf, hf, List.map_set]
/-- A store into an owned row whose elements are one cell each. -/
theorem row_set1 {α : Type} {T : RowT α} (hsz : T.sz = 1) (K : T.Ok) (c : α → Value) (hc : ∀ x, T.cells x = [c x]) {w : World} {base g cap : Nat} {L : List α} (h : RowOwn T w base (.slice (some ⟨g, 0, none⟩) L.length cap) L) (k : Nat) (x : α) :
    RowOwn T (w.setCell ⟨g, k, none⟩ (c x)) base (.slice (some ⟨g, 0, none⟩) (L.set k x).length cap) (L.set k x) := by
  unfold RowOwn at h ⊢
  rw [hsz] at h ⊢
  rw [List.length_set, ← flatR_set1 hsz K c hc]
  exact own_set h k (c x)
/-- A row of the call's own as a block that may be written. -/
theorem row_blk1 {α : Type} {T : RowT α} (hsz : T.sz = 1) {w : World} {base g cap : Nat} {L : List α} (h : RowOwn T w base (.slice (some ⟨g, 0, none⟩) L.length cap) L) (hn : L.length ≠ 0) : ∃ cur, Blk w g cur ∧ L.length ≤ cur.size := by
  unfold RowOwn at h
  rw [hsz] at h
  obtain ⟨g', cap', cur, e, _, h1, _, B, hs, _⟩ := own_blk h hn
  cases e
  exact ⟨cur, B, by omega⟩
theorem own_g {g n c j : Nat} (e : (Value.slice (some ⟨g, 0, none⟩) n c).ownBlock = some j) : j = g := by cases e; rfl
/-- The disk with this sector. -/
abbrev RM.put (m : RM) (p0 : Option Addr) (c0 : Nat) (p2 : Option Addr) (c2 : Nat) (k : Nat) (y : OcS) (odd : Bool) : RM := { m with p0 := p0, c0 := c0, L := m.L.set k y, p2 := p2, c2 := c2, O := m.O.set k odd }
end Go.Proofs.Ytcklmemnjchdcaa

/-
  Package disk: Write whatever comes, Fail.
-/

namespace Go.Proofs.Ytcklmemnjchdcaa
open Go.RowKit Go.Maps
set_option linter.unusedVariables false
set_option linter.unusedSimpArgs false

/-- What a write answers where there is no trouble. -/
def wrC (N : Nat) (z : Int) (n : Nat) : Int := if 0 ≤ z ∧ z < (N : Int) then (if n = 256 then 0 else 5) else 4
/-- What of a disk no write changes, where no power goes. -/
structure Same (m m' : DM) : Prop where
  off : m'.off = m.off
  tl : m'.tl = m.tl
  tf : m'.tf = m.after.tf
  fl : m'.fl = m.after.fl
  L : m'.Ls = m.Ls
  O : m'.DO = m.DO
  o : m'.n' = m.n'
  q : m'.Qs.length ≤ m.Qs.length + 1
  n : m'.n ≤ m.n + 1
end Go.Proofs.Ytcklmemnjchdcaa

namespace Go.Proofs.Ytcklmemnjchdcaa
open Go.RowKit Go.Maps
set_option linter.unusedVariables false
set_option linter.unusedSimpArgs false

theorem sole_setCells {S : Nat → Prop} {b : Nat} (hb : S b) : ∀ (vs : List Value) (o : Nat) (w : World), Sole S w (w.setCells b o vs)
  | [], _, w => Sole.refl S w
  | v :: r, o, w => (Sole.setCell (S := S) w (b := b) (o := o) v hb).trans (sole_setCells hb r (o + 1) _)
/-- What a sector becomes that is loaded. -/
def fillL (l : List UInt8) : List UInt8 := l.take 256 ++ zerosN (256 - l.length)
theorem fillL_len (l : List UInt8) : (fillL l).length = 256 := by
  unfold fillL
  rw [List.length_append, List.length_take, zerosN_len]
  omega
/-- A sector's own octets are others. -/
theorem DiskM.inner {w w' : World} {b : Nat} {m : DM} {K : Nat → Prop} (h : DiskM w b m K) (hQ : m.Qs = []) {i : Nat} (hi : i < m.Ls.length) {g : Nat} (hg : (ocA m.Ls i).a = some ⟨g, 0, none⟩) (hs : Sole (fun k => k = g) w w') (l : List UInt8) (hl : l.length = 256)
    (ho : Octs w' (some ⟨g, 0, none⟩) l) (hf : ∀ j, w'.frozen? ⟨g, j, none⟩ = false) : DiskM w' b { m with Ls := m.Ls.set i ⟨(ocA m.Ls i).a, (ocA m.Ls i).cap, l⟩ } K := by
  have hx := h.SO _ (ocA_mem m.Ls i hi)
  obtain ⟨hsoft, g', e', kg, hbg, hl0⟩ := hx
  rw [hg] at e'; cases e'
  have hglt := h.klt g kg
  have hb : ∀ k, m.base b k → k ≠ g := fun k hk e => hbg (e ▸ hk)
  have hsv : ({ m with Ls := m.Ls.set i ⟨(ocA m.Ls i).a, (ocA m.Ls i).cap, l⟩ } : DM).sv = m.sv := by simp [DM.sv]
  have hba : ∀ k, ({ m with Ls := m.Ls.set i ⟨(ocA m.Ls i).a, (ocA m.Ls i).cap, l⟩ } : DM).base b k → m.base b k := fun k hk => by
    unfold DM.base at hk ⊢
    rw [hsv] at hk
    exact hk
  have hset : flatR ocT (m.Ls.set i ⟨(ocA m.Ls i).a, (ocA m.Ls i).cap, l⟩) = flatR ocT m.Ls := by
    rw [flatO_map, flatO_map, List.map_set, hl, ← hl0]
    apply List.ext_getElem
    · simp
    · intro j h1 h2
      rw [List.getElem_set]
      split
      · rename_i e
        subst e
        rw [List.getElem_map, ← ocA_eq m.Ls i hi]
      · rfl
  exact
  { blk := by
      have : ({ m with Ls := m.Ls.set i ⟨(ocA m.Ls i).a, (ocA m.Ls i).cap, l⟩ } : DM).cells = m.cells := by simp [DM.cells, DM.sv]
      rw [this]
      exact h.blk.sole hs (hb b (.inl rfl))
    apart := ⟨h.apart.bl, h.apart.bo, h.apart.lo, by rw [hsv]; exact h.apart.s, h.apart.w, h.apart.f⟩
    kk := fun k hk => h.kk k (hba k hk)
    klt := fun k hk => Nat.lt_of_lt_of_le (h.klt k hk) hs.size
    S := by
      rw [hsv]
      have := h.S.sole hs fun k e => hb k (.inr (.inr (.inr (.inl e))))
      unfold RowOwn at this ⊢
      rw [List.length_set, hset]
      exact this
    SO := fun x hx => by
      obtain ⟨j, hj, rfl⟩ := List.getElem_of_mem hx
      rw [List.length_set] at hj
      rw [List.getElem_set]
      split
      · refine ⟨⟨⟨by rw [hg]; exact ho, by have := hsoft.1.2.1; rw [hl0] at this; show l.length ≤ (ocA m.Ls i).cap; omega, hsoft.1.2.2⟩, fun b' o e => ?_⟩, g, hg, kg, fun hk => hbg (hba g hk), hl⟩
        rw [show (ocA m.Ls i).a = some ⟨b', o, none⟩ from e] at hg; cases hg
        exact ⟨Nat.lt_of_lt_of_le hglt hs.size, hf⟩
      · rename_i hne
        obtain ⟨hy, g2, e2, k2, hb2, hl2⟩ := h.SO _ (List.getElem_mem hj)
        refine ⟨so_sole hy hs fun b' o e => ?_, g2, e2, k2, fun hk => hb2 (hba g2 hk), hl2⟩
        rw [e2] at e; cases e
        rintro rfl
        have hu := h.uniq.s
        unfold List.Nodup at hu
        rw [List.pairwise_iff_getElem] at hu
        have e3 : m.Ls[i].a = m.Ls[j].a := by rw [← ocA_eq m.Ls i hi, hg, e2]
        rcases Nat.lt_or_gt_of_ne hne with h1 | h1
        · exact hu i j (by rw [List.length_map]; exact hi) (by rw [List.length_map]; exact hj) h1 (by rw [List.getElem_map, List.getElem_map]; exact e3)
        · exact hu j i (by rw [List.length_map]; exact hj) (by rw [List.length_map]; exact hi) h1 (by rw [List.getElem_map, List.getElem_map]; exact e3.symm)
    Q := h.Q.sole hs fun k e => hb k (.inr (.inr (.inr (.inr (.inl e)))))
    QO := fun y hy => by rw [show ({ m with Ls := m.Ls.set i ⟨(ocA m.Ls i).a, (ocA m.Ls i).cap, l⟩ } : DM).Qs = [] from hQ] at hy; cases hy
    F := h.F.sole hs fun k e => hb k (.inr (.inr (.inr (.inr (.inr e)))))
    L := map_sole h.L hs (hb _ (.inr (.inl rfl)))
    O := map_sole h.O hs (hb _ (.inr (.inr (.inl rfl))))
    last := h.last
    lenS := by show (m.Ls.set i _).length ≤ 4096; rw [List.length_set]; exact h.lenS
    cwf := h.cwf
    fwf := h.fwf
    uniq := by
      refine ⟨?_, h.uniq.q, fun s j hs hj e => by rw [show ({ m with Ls := m.Ls.set i ⟨(ocA m.Ls i).a, (ocA m.Ls i).cap, l⟩ } : DM).Qs = [] from hQ] at hj; cases hj⟩
      have : (m.Ls.set i ⟨(ocA m.Ls i).a, (ocA m.Ls i).cap, l⟩).map OcS.a = m.Ls.map OcS.a := by
        rw [List.map_set]
        apply List.ext_getElem
        · simp
        · intro j h1 h2
          rw [List.getElem_set]
          split
          · rename_i e
            subst e
            rw [List.getElem_map, ← ocA_eq m.Ls i hi]
          · rfl
      show ((m.Ls.set i ⟨(ocA m.Ls i).a, (ocA m.Ls i).cap, l⟩).map OcS.a).Nodup
      rw [this]
      exact h.uniq.s }
/-- A disk behind Load, as far as it has come. -/
structure Loaded (W : World) (b : Nat) (m : DM) (K : Nat → Prop) (Xs : List OcS) (k : Nat) (L : List OcS) (DO : DataW Unit) : Prop where
  D : DiskM W b (m.clean.moved L DO m.n') K
  len : L.length = m.Ls.length
  S : ∀ i, i < m.Ls.length → (ocA L i).l = if i < k then fillL (ocA Xs i).l else (ocA m.Ls i).l
  O : ∀ z : Int, (Lit.int .i64 z).wf = true → Maps.has DO (.int .i64 z) = if 0 ≤ z ∧ z < (k : Int) then false else Maps.has m.DO (.int .i64 z)
theorem Loaded.next {W W2 W3 : World} {b : Nat} {m : DM} {K : Nat → Prop} {Xs : List OcS} {k : Nat} {L : List OcS} {DO : DataW Unit} (h : Loaded W b m K Xs k L DO) (hk : k < m.Ls.length) {g : Nat} (hg : (ocA L k).a = some ⟨g, 0, none⟩)
    (S12 : Sole (fun j => j = g) W W2) (ho : Octs W2 (some ⟨g, 0, none⟩) (fillL (ocA Xs k).l)) (hf : ∀ j, W2.frozen? ⟨g, j, none⟩ = false) (S23 : Sole (fun j => j = m.om) W2 W3) (hO : W3.ownsMap Try.prog 3 unitElem m.om m.n' (DO.del (.int .i64 (k : Int)))) :
    ∃ L', Loaded W3 b m K Xs (k + 1) L' (DO.del (.int .i64 (k : Int))) ∧ Sole K W W3 := by
  have hk' : k < L.length := by rw [h.len]; exact hk
  have D2 := h.D.inner rfl hk' hg S12 _ (fillL_len _) ho hf
  have kg : K g := by
    obtain ⟨_, g', e, kg, _⟩ := h.D.SO _ (ocA_mem L k hk')
    have : some (⟨g, 0, none⟩ : Addr) = some ⟨g', 0, none⟩ := hg.symm.trans e
    cases this; exact kg
  have ko : K m.om := h.D.kk _ (.inr (.inr (.inl rfl)))
  refine ⟨L.set k ⟨(ocA L k).a, (ocA L k).cap, fillL (ocA Xs k).l⟩, ⟨?_, by rw [List.length_set]; exact h.len, fun i hi => ?_, fun z hz => ?_⟩, (S12.mono fun j _ e => e ▸ kg).trans (S23.mono fun j _ e => e ▸ ko)⟩
  · have hbo : ∀ j, j = m.om → (m.clean.moved (L.set k ⟨(ocA L k).a, (ocA L k).cap, fillL (ocA Xs k).l⟩) DO m.n').base b j := fun j e => .inr (.inr (.inl e))
    have ap := D2.apart
    exact
    { blk := D2.blk.sole S23 ap.bo
      apart := ⟨ap.bl, ap.bo, ap.lo, ap.s, ap.w, ap.f⟩
      kk := D2.kk
      klt := fun j hj => Nat.lt_of_lt_of_le (D2.klt j hj) S23.size
      S := D2.S.sole S23 fun j e => (ap.s j e).2.2.1
      SO := fun x hx => by
        obtain ⟨hs, g', e', kg', hb', r⟩ := D2.SO x hx
        exact ⟨so_sole hs S23 fun b' o e => by rw [e'] at e; cases e; exact fun h' => hb' (hbo _ h'), g', e', kg', hb', r⟩
      Q := D2.Q.sole S23 fun j e => (ap.w j e).2.2.1
      QO := fun y hy => by cases hy
      F := D2.F.sole S23 fun j e => (ap.f j e).2.2
      L := map_sole D2.L S23 ap.lo
      O := hO
      last := D2.last
      lenS := D2.lenS
      cwf := D2.cwf
      fwf := D2.fwf
      uniq := ⟨D2.uniq.s, D2.uniq.q, D2.uniq.sq⟩ }
  · have hi' : i < L.length := by rw [h.len]; exact hi
    rw [ocA_eq _ i (by rw [List.length_set]; exact hi'), List.getElem_set]
    split
    · rename_i e
      subst e
      rw [if_pos (by omega)]
    · rename_i e
      rw [← ocA_eq L i hi', h.S i hi]
      by_cases h1 : i < k
      · rw [if_pos h1, if_pos (by omega)]
      · rw [if_neg h1, if_neg (by omega)]
  · by_cases e : z = (k : Int)
    · subst e
      rw [if_pos (by omega)]
      exact has_del_same
    · rw [has_del_other (fun e' => e (by cases e'; rfl)), h.O z hz]
      by_cases h1 : 0 ≤ z ∧ z < (k : Int)
      · rw [if_pos h1, if_pos (by omega)]
      · rw [if_neg h1, if_neg (by omega)]

end Go.Proofs.Ytcklmemnjchdcaa
