/-
  Package disk: Load.
-/
import Derived.Test.YtcklmemnjchdcaaOcRow
import Derived.Test.YtcklmemnjchdcaaOctAppend
import Derived.Test.YtcklmemnjchdcaaAidMore
import Derived.Test.YtcklmemnjchdcaaBig
import Derived.Maps.OwnSet
import Derived.WalkKit
import Derived.Test.YtcklmemnjchdcaaBytesClone
import Derived.OwnWalk
import Derived.Laws.OwnMore
import Derived.Test.YtcklmemnjchdcaaRegion
import Derived.BigQuiet
import Derived.Test.YtcklmemnjchdcaaRegionIn
import Derived.RangeFuncNested
import Derived.RangeFuncBox
import Derived.RangeFuncBound
import Derived.RangeFuncCalls
import Derived.RangeFuncLeaves
import Derived.Shelf.Abstract
import Derived.Shelf.RegionOpen
import Derived.OwnWalkIn
import Derived.TacticsInMore
import Derived.LoopNIn
import Derived.LoopIn
import Derived.Lib.BufferMore
import Derived.Lib.SliceRun

/-
  Package disk: what a disk's blocks hold, and what stays of it.
-/






namespace Go.Proofs.Ytcklmemnjchdcaa
open Go.RowKit Go.Maps
set_option linter.unusedVariables false
set_option linter.unusedSimpArgs false

/-- A write that waits. -/
structure WtS where
  at_ : Int
  x : OcS
def wtT : RowT WtS := { ty := 103, sl := 61, sz := 2, bytes := 32, zero := .agg #[.int .i64 0, .slice none 0 0], cells := fun y => [.int .i64 y.at_, .slice y.x.a y.x.l.length y.x.cap], dflt := ⟨0, ⟨none, 0, []⟩⟩ }
theorem wtOk : wtT.Ok := ⟨Try.underlying61, by kernel_rfl, rfl, by decide, fun _ => rfl, fun x u hu => by
  simp [wtT] at hu
  rcases hu with rfl | rfl <;> rfl⟩
/-- Fates. -/
def fatT : RowT Int := { ty := 3, sl := 35, sz := 1, bytes := 8, zero := .int .i64 0, cells := fun x => [.int .i64 x], dflt := 0 }
theorem fatOk : fatT.Ok := ⟨Try.underlying35, by kernel_rfl, rfl, by decide, fun _ => rfl, fun x u hu => by
  simp [fatT] at hu
  rcases hu with rfl; rfl⟩

/-- The last of those that are z. -/
def lastI (l : List Int) (z : Int) : Option Nat := (l.foldl (fun (r : Nat × Option Nat) a => (r.1 + 1, if a = z then some r.1 else r.2)) (0, none)).2
theorem lastI_fst (z : Int) : ∀ (l : List Int) (r : Nat × Option Nat), (l.foldl (fun (r : Nat × Option Nat) a => (r.1 + 1, if a = z then some r.1 else r.2)) r).1 = r.1 + l.length
  | [], r => rfl
  | a :: l, r => by rw [List.foldl_cons, lastI_fst z l, List.length_cons]; simp only; omega
theorem lastI_snoc (l : List Int) (a z : Int) : lastI (l ++ [a]) z = if a = z then some l.length else lastI l z := by
  unfold lastI
  rw [List.foldl_append, List.foldl_cons, List.foldl_nil, lastI_fst]
  simp
theorem lastI_nil (z : Int) : lastI [] z = none := rfl

/-- Octets in a block that lets itself be written. -/
def OcS.soft (w : World) (x : OcS) : Prop := x.there w ∧ ∀ b o, x.a = some ⟨b, o, none⟩ → b < w.heap.size ∧ ∀ i, w.frozen? ⟨b, i, none⟩ = false
theorem so_sole {S : Nat → Prop} {w w' : World} {x : OcS} (h : x.soft w) (hs : Sole S w w') (hn : ∀ b o, x.a = some ⟨b, o, none⟩ → ¬ S b) : x.soft w' :=
  ⟨oc_sole h.1 hs hn, fun b o e => ⟨Nat.lt_of_lt_of_le (h.2 b o e).1 hs.size, fun i => (hs.frozen (h.2 b o e).1 (hn b o e)).trans ((h.2 b o e).2 i)⟩⟩
theorem OcS.soft.more {w w' : World} {x : OcS} (h : x.soft w) (hb : Below w.heap.size w w') : x.soft w' := so_sole h (Sole.made (S := fun _ => False) hb) fun _ _ _ => id

/-- What a disk's blocks hold. -/
structure DM where
  off : Bool
  tl : Bool
  cl : Int
  tf : Bool
  fl : Int
  sp : Option Addr
  sc : Nat
  Ls : List OcS
  wp : Option Addr
  wc : Nat
  Qs : List WtS
  fp : Option Addr
  fc : Nat
  Fs : List Int
  lm : Nat
  om : Nat
  n : Nat
  n' : Nat
  DL : DataW Unit
  DO : DataW Unit
abbrev DM.sv (m : DM) : Value := .slice m.sp m.Ls.length m.sc
abbrev DM.wv (m : DM) : Value := .slice m.wp m.Qs.length m.wc
abbrev DM.fv (m : DM) : Value := .slice m.fp m.Fs.length m.fc
def DM.cells (m : DM) : Array Value := #[.bool true, .bool m.off, m.sv, m.wv, .map (some m.lm), .map (some m.om), .bool m.tl, .int .i64 m.cl, m.fv, .bool m.tf, .int .i64 m.fl]
/-- The blocks of its own parts. -/
def DM.base (m : DM) (b g : Nat) : Prop := g = b ∨ g = m.lm ∨ g = m.om ∨ m.sv.ownBlock = some g ∨ m.wv.ownBlock = some g ∨ m.fv.ownBlock = some g
structure DM.Apart (m : DM) (b : Nat) : Prop where
  bl : b ≠ m.lm
  bo : b ≠ m.om
  lo : m.lm ≠ m.om
  s : ∀ k, m.sv.ownBlock = some k → k ≠ b ∧ k ≠ m.lm ∧ k ≠ m.om ∧ m.wv.ownBlock ≠ some k ∧ m.fv.ownBlock ≠ some k
  w : ∀ k, m.wv.ownBlock = some k → k ≠ b ∧ k ≠ m.lm ∧ k ≠ m.om ∧ m.fv.ownBlock ≠ some k
  f : ∀ k, m.fv.ownBlock = some k → k ≠ b ∧ k ≠ m.lm ∧ k ≠ m.om
/-- A sector's octets: in a block of its own. -/
def OcS.full (x : OcS) (K : Nat → Prop) (m : DM) (b : Nat) : Prop := ∃ g, x.a = some ⟨g, 0, none⟩ ∧ K g ∧ ¬ m.base b g ∧ x.l.length = 256
/-- What is said of where the last write of a sector stands. -/
structure LastOk (D : DataW Unit) (l : List Int) : Prop where
  map : IsMap D
  no : ∀ z : Int, lastI l z = none → Maps.has D (.int .i64 z) = false
  is : ∀ (z : Int) (i : Nat), lastI l z = some i → Maps.has D (.int .i64 z) = true ∧ ∀ d, D.atKey (.int .i64 z) d = .lit (.int .i64 (i : Int))
theorem LastOk.nil : LastOk (.map []) [] := ⟨isMap_empty, fun z _ => rfl, fun z i h => by cases h⟩

/-- No two sectors lie in one block; a sector lies where a write of its own waits, or where none does. -/
structure DM.Uniq (m : DM) : Prop where
  s : (m.Ls.map OcS.a).Nodup
  q : (m.Qs.map fun y => y.x.a).Nodup
  sq : ∀ s i, s < m.Ls.length → i < m.Qs.length → (ocA m.Ls s).a = (atR wtT m.Qs i).x.a → (s : Int) = (atR wtT m.Qs i).at_

structure DiskM (w : World) (b : Nat) (m : DM) (K : Nat → Prop) : Prop where
  blk : Blk w b m.cells
  apart : m.Apart b
  kk : ∀ k, m.base b k → K k
  klt : ∀ k, K k → k < w.heap.size
  S : RowOwn ocT w 0 m.sv m.Ls
  SO : ∀ x ∈ m.Ls, x.soft w ∧ x.full K m b
  Q : RowOwn wtT w 0 m.wv m.Qs
  QO : ∀ y ∈ m.Qs, (y.x.soft w ∧ y.x.full K m b) ∧ 0 ≤ y.at_ ∧ y.at_ < (m.Ls.length : Int)
  F : RowOwn fatT w 0 m.fv m.Fs
  L : w.ownsMap Try.prog 3 (plainElem Try.prog 3) m.lm m.n m.DL
  O : w.ownsMap Try.prog 3 unitElem m.om m.n' m.DO
  last : LastOk m.DL (m.Qs.map (·.at_))
  lenS : m.Ls.length ≤ 4096
  cwf : (Lit.int .i64 m.cl).wf = true
  fwf : (Lit.int .i64 m.fl).wf = true
  uniq : m.Uniq

theorem map_sole {S : Nat → Prop} {w w' : World} {R : Value → Option (DataW Unit × List MemPlace)} {b n : Nat} {D : DataW Unit} (h : w.ownsMap Try.prog 3 R b n D) (hs : Sole S w w') (hn : ¬ S b) : w'.ownsMap Try.prog 3 R b n D := by
  have hlt := h.lt
  obtain ⟨es, clock, hb, r⟩ := h
  exact ⟨es, clock, (hs.block b hlt hn).trans hb, r⟩
/-- Nothing of it is touched. -/
theorem DiskM.kept {S : Nat → Prop} {w w' : World} {b : Nat} {m : DM} {K : Nat → Prop} (h : DiskM w b m K) (hs : Sole S w w') (hn : ∀ k, K k → ¬ S k) : DiskM w' b m K := by
  refine ⟨h.blk.sole hs (hn _ (h.kk _ (.inl rfl))), h.apart, h.kk, fun k hk => Nat.lt_of_lt_of_le (h.klt k hk) hs.size, h.S.sole hs fun k e => hn k (h.kk k (.inr (.inr (.inr (.inl e))))), fun x hx => ?_, h.Q.sole hs fun k e => hn k (h.kk k (.inr (.inr (.inr (.inr (.inl e)))))), fun y hy => ?_,
    h.F.sole hs fun k e => hn k (h.kk k (.inr (.inr (.inr (.inr (.inr e)))))), map_sole h.L hs (hn _ (h.kk _ (.inr (.inl rfl)))), map_sole h.O hs (hn _ (h.kk _ (.inr (.inr (.inl rfl))))), h.last, h.lenS, h.cwf, h.fwf, h.uniq⟩
  · obtain ⟨ht, g, e, kg, r⟩ := h.SO x hx
    exact ⟨so_sole ht hs fun b' o e' => by rw [e] at e'; cases e'; exact hn _ kg, g, e, kg, r⟩
  · obtain ⟨⟨ht, g, e, kg, r⟩, hat⟩ := h.QO y hy
    exact ⟨⟨so_sole ht hs fun b' o e' => by rw [e] at e'; cases e'; exact hn _ kg, g, e, kg, r⟩, hat⟩
theorem DiskM.more {w w' : World} {b : Nat} {m : DM} {K : Nat → Prop} (h : DiskM w b m K) (hb : Below w.heap.size w w') : DiskM w' b m K := h.kept (Sole.made (S := fun _ => False) hb) fun _ _ x => x
/-- Only its own numbers become others. -/
theorem DiskM.scal {w w' : World} {b : Nat} {m : DM} {K : Nat → Prop} (h : DiskM w b m K) (o t f : Bool) (c l : Int) (hc : (Lit.int .i64 c).wf = true) (hl : (Lit.int .i64 l).wf = true) (hs : Sole (fun k => k = b) w w')
    (hB : Blk w' b { m with off := o, tl := t, cl := c, tf := f, fl := l }.cells) : DiskM w' b { m with off := o, tl := t, cl := c, tf := f, fl := l } K := by
  have hx : ∀ x : OcS, x.soft w ∧ x.full K m b → x.soft w' ∧ x.full K { m with off := o, tl := t, cl := c, tf := f, fl := l } b := fun x ⟨ht, g, e, kg, hg, r⟩ => ⟨so_sole ht hs fun b' o e' => by rw [e] at e'; cases e'; exact fun h' => hg (.inl h'), g, e, kg, hg, r⟩
  exact ⟨hB, ⟨h.apart.bl, h.apart.bo, h.apart.lo, h.apart.s, h.apart.w, h.apart.f⟩, h.kk, fun k hk => Nat.lt_of_lt_of_le (h.klt k hk) hs.size, h.S.sole hs fun k e h' => (h.apart.s k e).1 h', fun x hx' => hx x (h.SO x hx'), h.Q.sole hs fun k e h' => (h.apart.w k e).1 h', fun y hy => ⟨hx _ (h.QO y hy).1, (h.QO y hy).2⟩,
    h.F.sole hs fun k e h' => (h.apart.f k e).1 h', map_sole h.L hs fun h' => h.apart.bl h'.symm, map_sole h.O hs fun h' => h.apart.bo h'.symm, h.last, h.lenS, hc, hl, ⟨h.uniq.s, h.uniq.q, h.uniq.sq⟩⟩
end Go.Proofs.Ytcklmemnjchdcaa

/-
  Package disk: trouble, has, Count, Waits, Fail.
-/

namespace Go.Proofs.Ytcklmemnjchdcaa
open Go.RowKit Go.Maps
set_option linter.unusedVariables false
set_option linter.unusedSimpArgs false

/-- Can a call do nothing? -/
def DM.trb (m : DM) : Bool := m.off || (m.tf && decide (m.fl ≤ 0))
def DM.after (m : DM) : DM := { m with tf := if m.off then m.tf else if m.tf && decide (m.fl ≤ 0) then false else m.tf, fl := if m.off then m.fl else if m.tf && decide (m.fl ≤ 0) then 0 else wrap64 (m.fl - 1) }

set_option maxRecDepth 100000 in
set_option maxHeartbeats 2000000 in
theorem trouble_any (m : DM) (b : Nat) (w : World) (B : Blk w b m.cells) : Calls Try.prog 29 #[.pointer (some ⟨b, 0, none⟩)] w fun e w' => e = .returned (.int .i64 (if m.trb then 20 else 0)) ∧ Blk w' b m.after.cells ∧ Sole (fun k => k = b) w w' := by
  have Bh := hid B
  obtain ⟨off, tl, cl, tf, fl, sp, sc, Ls, wp, wc, Qs, fp, fc, Fs, lm, om, n, n', DL, DO⟩ := m
  unfold DM.trb DM.after
  simp only [DM.cells] at B Bh ⊢
  generalize Ls.length = ls at *
  generalize Qs.length = qs at *
  generalize Fs.length = fs at *
  have B0 := Bh.out
  obtain ⟨l0, k0, f0⟩ := B
  go_enter Try.func29, Try.ntmps29
  cases off with
  | true =>
    clear B0
    go_wp2_with fail
    go_ret
    exact ⟨rfl, Bh.out, Sole.refl _ _⟩
  | false =>
    by_cases h : tf = true ∧ fl ≤ 0
    · obtain ⟨rfl, hf⟩ := h
      have B1 := hid ((B0.set 9 (.bool false) (by simp)).set 10 (.int .i64 0) (by simp))
      have S1 := hid ((Sole.setCell (S := fun k => k = b) w (b := b) (o := 9) (.bool false) rfl).trans (Sole.setCell _ (b := b) (o := 10) (.int .i64 0) rfl))
      have hfd : decide (fl ≤ 0) = true := decide_eq_true hf
      clear B0
      go_wp2_with fail
      go_ret
      simp only [hfd, Bool.and_true, Bool.true_and, Bool.false_or, Bool.or_true, Bool.false_eq_true, if_false, ↓reduceIte]
      exact ⟨rfl, B1.out, S1.out⟩
    · have B1 := hid (B0.set 10 (.int .i64 (wrap64 (fl - 1))) (by simp))
      have S1 := hid (Sole.setCell (S := fun k => k = b) w (b := b) (o := 10) (.int .i64 (wrap64 (fl - 1))) rfl)
      clear B0
      cases tf with
      | false =>
        go_wp2_with fail
        go_ret
        exact ⟨rfl, B1.out, S1.out⟩
      | true =>
        have hf : ¬ fl ≤ 0 := fun h' => h ⟨rfl, h'⟩
        have hfd : decide (fl ≤ 0) = false := decide_eq_false hf
        clear h
        go_wp2_with fail
        go_ret
        simp only [hfd, Bool.and_false, Bool.false_or, Bool.or_false, Bool.false_eq_true, if_false, ↓reduceIte]
        exact ⟨rfl, B1.out, S1.out⟩
set_option maxRecDepth 100000 in
theorem has_any (m : DM) (b : Nat) (z : Int) (w : World) (B : Blk w b m.cells) : Calls Try.prog 30 #[.pointer (some ⟨b, 0, none⟩), .int .i64 z] w fun e w' => e = .returned (.bool (decide (0 ≤ z ∧ z < (m.Ls.length : Int)))) ∧ w' = w := by
  simp only [DM.cells, DM.sv, DM.wv, DM.fv] at B
  obtain ⟨l0, k0, f0⟩ := B
  go_enter Try.func30, Try.ntmps30
  by_cases h : 0 ≤ z
  · have hd : decide (z ≥ 0) = true := decide_eq_true h
    go_wp2_with fail
    go_ret
    exact ⟨by simp [h], rfl⟩
  · have hd : decide (z ≥ 0) = false := decide_eq_false h
    go_wp2_with fail
    go_ret
    exact ⟨by simp [h], rfl⟩
end Go.Proofs.Ytcklmemnjchdcaa

/-
  Package disk: forget, Read.
-/


namespace Go.Proofs.Ytcklmemnjchdcaa
open Go.RowKit Go.Maps Go.MapKept Go.ChangeMaps Go.WideShapes
set_option linter.unusedVariables false
set_option linter.unusedSimpArgs false

theorem run_clear_own {R : Value → Option (DataW Unit × List MemPlace)} {w : World} {r n : Nat} {D : DataW Unit} (t e : TypeId) (ht : Try.prog.underlying t = some (.map 3 e)) (h : w.ownsMap Try.prog 3 R r n D) :
    ∃ w', (∀ ty, (Builtin.clear_ #[t] ty #[.map (some r)]).run Try.prog w = .ok (.tuple #[]) w') ∧ w'.ownsMap Try.prog 3 R r 0 (.map []) ∧ Sole (fun k => k = r) w w' := by
  obtain ⟨es, clock, hb, F, _, rfl⟩ := h
  refine ⟨setBlock w r (.map #[] clock), fun ty => by simp [Builtin.clear_, run_underlying ht, MapKept.run_getObj_map hb, run_setObj_map _ hb, Result.andThen, setBlock], ⟨#[], clock, heap_setBlock_same hb _, ⟨by simp, stamped_empty clock, by simp⟩, Nat.le_refl _, rfl⟩, rfl, rfl, rfl, by simp [setBlock], fun k hk hn => heap_setBlock_other hb _ hn⟩

/-- Nothing waits any more. -/
def DM.clean (m : DM) : DM := { m with wp := none, wc := 0, Qs := [], n := 0, DL := .map [] }
theorem base_clean {m : DM} {b g : Nat} (h : m.clean.base b g) : m.base b g := by
  rcases h with h | h | h | h | h | h
  · exact .inl h
  · exact .inr (.inl h)
  · exact .inr (.inr (.inl h))
  · exact .inr (.inr (.inr (.inl h)))
  · cases h
  · exact .inr (.inr (.inr (.inr (.inr h))))
/-- What was said of a disk is said of it, when two of its parts are others: its own struct, and a map. -/
theorem DiskM.forgot {w w1 w2 : World} {b : Nat} {m : DM} {K : Nat → Prop} (h : DiskM w b m K) (s1 : Sole (fun k => k = b) w w1) (B : Blk w1 b (m.cells.setIfInBounds 3 (.slice none 0 0))) (s2 : Sole (fun k => k = m.lm) w1 w2)
    (hL : w2.ownsMap (H := Unit) Try.prog 3 (plainElem Try.prog 3) m.lm 0 (.map [])) : DiskM w2 b m.clean K := by
  have hs : Sole (fun k => k = b ∨ k = m.lm) w w2 := (s1.mono fun k _ e => .inl e).trans (s2.mono fun k _ e => .inr e)
  exact
  { blk := B.sole s2 h.apart.bl
    apart := ⟨h.apart.bl, h.apart.bo, h.apart.lo, fun k e => ⟨(h.apart.s k e).1, (h.apart.s k e).2.1, (h.apart.s k e).2.2.1, nofun, (h.apart.s k e).2.2.2.2⟩, nofun, h.apart.f⟩
    kk := fun k hk => h.kk k (base_clean hk)
    klt := fun k hk => Nat.lt_of_lt_of_le (h.klt k hk) hs.size
    S := h.S.sole hs fun k e => by rintro (r | r); exact (h.apart.s k e).1 r; exact (h.apart.s k e).2.1 r
    SO := fun x hx => by
      obtain ⟨ht, g, e, kg, hg, r⟩ := h.SO x hx
      exact ⟨so_sole ht hs fun b' o e' => by rw [e] at e'; cases e'; rintro (r | r); exact hg (.inl r); exact hg (.inr (.inl r)), g, e, kg, fun h' => hg (base_clean h'), r⟩
    Q := RowOwn.nil _ _
    QO := nofun
    F := h.F.sole hs fun k e => by rintro (r | r); exact (h.apart.f k e).1 r; exact (h.apart.f k e).2.1 r
    L := hL
    O := map_sole h.O hs (by rintro (r | r); exact h.apart.bo r.symm; exact h.apart.lo r.symm)
    last := LastOk.nil
    lenS := h.lenS
    cwf := h.cwf
    fwf := h.fwf
    uniq := ⟨h.uniq.s, List.nodup_nil, nofun⟩ }
set_option maxRecDepth 100000 in
set_option maxHeartbeats 2000000 in
theorem forget_any (m : DM) (b : Nat) (K : Nat → Prop) (w : World) (D : DiskM w b m K) : Calls Try.prog 33 #[.pointer (some ⟨b, 0, none⟩)] w fun e w' => e = .returned (.tuple #[]) ∧ DiskM w' b m.clean K ∧ Sole (fun k => k = b ∨ k = m.lm) w w' := by
  have B0 := D.blk
  have B1 := B0.set 3 (.slice none 0 0) (by simp [DM.cells])
  have S1 : Sole (fun k => k = b) w (w.setCell ⟨b, 3, none⟩ (.slice none 0 0)) := Sole.setCell w _ rfl
  have hL := map_sole D.L S1 (fun e => D.apart.bl e.symm)
  obtain ⟨w2, hr, hL2, S2⟩ := run_clear_own 59 3 Try.underlying59 hL
  have E := hid (show DiskM w2 b m.clean K ∧ Sole (fun k => k = b ∨ k = m.lm) w w2 from ⟨D.forgot S1 B1 S2 hL2, (S1.mono fun k _ e => .inl e).trans (S2.mono fun k _ e => .inr e)⟩)
  clear D hL B1 S1 hL2 S2
  simp only [DM.cells, DM.sv, DM.wv, DM.fv] at B0
  obtain ⟨l0, k0, f0⟩ := B0
  go_enter Try.func33, Try.ntmps33
  go_wp2_with fail
  refine bodyPost_end (results_none rfl _ _ _) rfl ?_
  exact ⟨rfl, E.out⟩

theorem dlawK : Keyed Try.prog 3 := int_keyed Try.underlying3
theorem dzeroK (w : World) : (zeroValue 3).run Try.prog w = .ok (.int .i64 0) w := by kernel_rfl
theorem after_wf {m : DM} (h : (Lit.int .i64 m.fl).wf = true) : (Lit.int .i64 m.after.fl).wf = true := by
  unfold DM.after
  dsimp only
  split
  · exact h
  · split
    · decide
    · exact wrap64_wf _
/-- Behind trouble: a disk still. -/
theorem DiskM.after {w w' : World} {b : Nat} {m : DM} {K : Nat → Prop} (h : DiskM w b m K) (hB : Blk w' b m.after.cells) (hs : Sole (fun k => k = b) w w') : DiskM w' b m.after K :=
  h.scal m.off m.tl m.after.tf m.cl m.after.fl h.cwf (after_wf h.fwf) hs hB
/-- What is read at a sector. -/
def DM.cur (m : DM) (z : Int) : OcS := match lastI (m.Qs.map (·.at_)) z with
  | some i => (atR wtT m.Qs i).x
  | none => ocA m.Ls z.toNat
theorem lastI_lt' (z : Int) : ∀ (l : List Int) (r : Nat × Option Nat) (i : Nat), (∀ j, r.2 = some j → j < r.1) → (l.foldl (fun (r : Nat × Option Nat) a => (r.1 + 1, if a = z then some r.1 else r.2)) r).2 = some i → i < r.1 + l.length
  | [], r, i, h, e => h i e
  | a :: l, r, i, h, e => by
    have := lastI_lt' z l (r.1 + 1, if a = z then some r.1 else r.2) i (fun j hj => by
      dsimp only at hj ⊢
      split at hj
      · cases hj; omega
      · have := h j hj; omega) e
    simp only [List.length_cons] at this ⊢
    omega
theorem lastI_lt (l : List Int) (z : Int) (i : Nat) (h : lastI l z = some i) : i < l.length := by
  have := lastI_lt' z l (0, none) i (fun j hj => by cases hj) h
  simpa using this
theorem DM.cur_ok {w : World} {b : Nat} {m : DM} {K : Nat → Prop} (h : DiskM w b m K) (z : Int) (h0 : 0 ≤ z) (h1 : z < (m.Ls.length : Int)) : (m.cur z).there w ∧ (m.cur z).full K m b := by
  unfold DM.cur
  split
  · rename_i i hi
    have hl := lastI_lt _ _ _ hi
    rw [List.length_map] at hl
    exact ⟨(h.QO _ (atR_mem m.Qs i hl)).1.1.1, (h.QO _ (atR_mem m.Qs i hl)).1.2⟩
  · exact ⟨(h.SO _ (ocA_mem m.Ls _ (by omega))).1.1, (h.SO _ (ocA_mem m.Ls _ (by omega))).2⟩
theorem Fresh.below {w w' : World} {v : Value} {l : List UInt8} (h : Fresh w w' v l) : Below w.heap.size w w' := h.elim fun _ h => h.elim fun _ h => h.2.2
/-- New octets. -/
def NewO (w w' : World) (v : Value) (l : List UInt8) : Prop := ∃ a cap, v = .slice a l.length cap ∧ w'.ownsRow w.heap.size 5 1 (.slice a l.length cap) l.length (Lib.byteCells l)
theorem NewO.of_fresh {w w1 w2 : World} {v : Value} {l : List UInt8} (h : Fresh w1 w2 v l) (hs : w.heap.size ≤ w1.heap.size) : NewO w w2 v l := by
  obtain ⟨a, cap, hv, O, _⟩ := h
  refine ⟨a, cap, hv, O.1, O.2.imp id ?_⟩
  rintro ⟨g, cap, cur, e, hb, r⟩
  exact ⟨g, cap, cur, e, Nat.le_trans hs hb, r⟩
theorem read_bad (m : DM) (b : Nat) (z : Int) (K : Nat → Prop) (w : World) (D : DiskM w b m K) (h : m.trb = true) : Calls Try.prog 64 #[.pointer (some ⟨b, 0, none⟩), .int .i64 z] w fun e w' => e = .returned (.tuple #[.slice none 0 0, .int .i64 20]) ∧ DiskM w' b m.after K ∧ Sole K w w' := by
  have KT := hid (trouble_any m b w D.blk)
  have Dh := hid D
  have ht := h
  clear D h
  simp only [ht, if_true, ↓reduceIte] at KT
  go_enter Try.func64, Try.ntmps64
  go_wp2_with fail
  refine KT.out.mono ?_
  rintro e w1 ⟨rfl, hB, hS⟩
  have E := hid (show DiskM w1 b m.after K ∧ Sole K w w1 from ⟨Dh.out.after hB hS, hS.mono fun k _ e => e ▸ Dh.out.kk _ (.inl rfl)⟩)
  clear hB hS KT Dh
  go_wp2_with fail
  go_ret2
  exact ⟨rfl, E.out⟩
set_option maxRecDepth 100000 in
set_option maxHeartbeats 2000000 in
theorem read_any (m : DM) (b : Nat) (z : Int) (hz : (Lit.int .i64 z).wf = true) (K : Nat → Prop) (w : World) (D : DiskM w b m K) (h : m.trb = false) : Calls Try.prog 64 #[.pointer (some ⟨b, 0, none⟩), .int .i64 z] w fun e w' =>
    (0 ≤ z ∧ z < (m.Ls.length : Int) → ∃ v, e = .returned (.tuple #[v, .int .i64 0]) ∧ NewO w w' v (m.cur z).l) ∧ (¬ (0 ≤ z ∧ z < (m.Ls.length : Int)) → e = .returned (.tuple #[.slice none 0 0, .int .i64 4])) ∧ DiskM w' b m.after K ∧ Sole K w w' := by
  have KT := hid (trouble_any m b w D.blk)
  have Dh := hid D
  have ht := h
  clear D h
  simp only [ht, Bool.false_eq_true, if_false, ↓reduceIte] at KT
  go_enter Try.func64, Try.ntmps64
  go_wp2_with fail
  refine KT.out.mono ?_
  rintro e w1 ⟨rfl, hB, hS⟩
  have D1 := hid (Dh.out.after hB hS)
  have S1 := hid (hS.mono (T := K) fun k _ e => e ▸ Dh.out.kk _ (.inl rfl))
  have KH := hid (has_any m.after b z w1 hB)
  have B1 : Blk w1 b #[.bool true, .bool m.off, .slice m.sp m.Ls.length m.sc, .slice m.wp m.Qs.length m.wc, .map (some m.lm), .map (some m.om), .bool m.tl, .int .i64 m.cl, .slice m.fp m.Fs.length m.fc, .bool m.after.tf, .int .i64 m.after.fl] := hB
  have HL := hid (show w1.ownsMap Try.prog 3 (plainElem Try.prog 3) m.lm m.n m.DL from D1.out.L)
  have hla := hid (show LastOk m.DL (m.Qs.map (·.at_)) from D1.out.last)
  generalize m.after.tf = atf at B1
  generalize m.after.fl = afl at B1
  clear hB hS KT Dh
  by_cases hr : 0 ≤ z ∧ z < (m.Ls.length : Int)
  · have hd : decide (0 ≤ z ∧ z < (m.after.Ls.length : Int)) = true := decide_eq_true hr
    rw [hd] at KH
    obtain ⟨p7, c7, hv7, _, _, R7⟩ := D1.out.S.open ocOk
    obtain ⟨p8, c8, hv8, _, _, R8⟩ := D1.out.Q.open wtOk
    have e7 : m.sp = p7 ∧ m.sc = c7 := by simpa [DM.sv, DM.after] using hv7
    have e8 : m.wp = p8 ∧ m.wc = c8 := by simpa [DM.wv, DM.after] using hv8
    have hR7 : RowP w1 m.sp 1 m.Ls.length (fun i => [.slice (ocA m.Ls i).a (ocA m.Ls i).l.length (ocA m.Ls i).cap]) := by rw [e7.1]; exact R7
    have hR8 : RowP w1 m.wp 2 m.Qs.length (fun i => [.int .i64 (atR wtT m.Qs i).at_, .slice (atR wtT m.Qs i).x.a (atR wtT m.Qs i).x.l.length (atR wtT m.Qs i).x.cap]) := by rw [e8.1]; exact R8
    have hcur := hid (show (m.cur z).there w1 ∧ (m.cur z).full K m.after b from DM.cur_ok D1.out z hr.1 hr.2)
    have hkey := keyOf_int_mk (P := Try.prog) Try.underlying3 hz
    have DE := hid (show DiskM w1 b m.after K ∧ Sole K w w1 from ⟨D1.out, S1.out⟩)
    have hlt : ∀ i, lastI (m.Qs.map (·.at_)) z = some i → i < m.Qs.length := fun i h => by simpa using lastI_lt _ _ _ h
    have hz1 : z < (m.Ls.length : Int) := hr.2
    have hrh := hid hr
    have hz0 : 0 ≤ z := hr.1
    clear hv7 hv8 R7 R8 e7 e8 hd D1 S1
    cases hl : lastI (m.Qs.map (·.at_)) z with
    | none =>
      have hno := hid (hla.out.no z hl)
      have hc : m.cur z = ocA m.Ls z.toNat := by unfold DM.cur; rw [hl]
      obtain ⟨k, rfl⟩ : ∃ k : Nat, z = (k : Int) := ⟨z.toNat, by omega⟩
      obtain ⟨b7, o7, hq7, r7⟩ := hR7.row (by omega)
      have c7 := r7.at0 (i := k) (by omega) (v := .slice (ocA m.Ls k).a (ocA m.Ls k).l.length (ocA m.Ls k).cap) rfl
      rw [Nat.mul_one] at c7
      rw [Int.toNat_natCast] at hc
      have KC := hid (bclone_any (ocA m.Ls k).l (ocA m.Ls k).a (ocA m.Ls k).cap w1 (by rw [← hc]; exact hcur.out.1.1) (by have := hcur.out.2; rw [hc] at this; obtain ⟨g, _, _, _, e⟩ := this; omega))
      have hch := hid hc
      rw [hq7] at B1
      clear hl hlt hla hR7 hR8 r7 hcur hc hq7
      generalize ocA m.Ls k = x at *
      generalize m.Qs.length = qs at *
      generalize m.Fs.length = fs at *
      obtain ⟨l0, k0, f0⟩ := B1
      go_wp2_with fail
      refine KH.out.mono ?_
      rintro e w2 ⟨rfl, hw⟩
      rw [hw]
      clear hw w2 KH
      go_wp2_with (at_lookup; refine wpList_lookup_own_ok_int _ rfl _ _ 59 rfl 3 3 .i64 dlawK Try.underlying59 Try.underlying3 (dzeroK _) m.lm m.n m.DL rfl HL.out _ _ rfl hkey ?_; intro c hat hwc; rw [hno.out])
      refine KC.out.mono ?_
      rintro e w2 ⟨v, rfl, hF⟩
      have E := hid (show NewO w w2 v (m.cur (k : Int)).l ∧ DiskM w2 b m.after K ∧ Sole K w w2 from ⟨by rw [hch.out]; exact NewO.of_fresh hF DE.out.2.size, DE.out.1.more hF.below, DE.out.2.trans (Sole.made hF.below)⟩)
      obtain ⟨av, cv, hv, _, hb2⟩ := hF
      subst hv
      clear hb2
      go_wp2_with fail
      go_ret2
      exact ⟨fun _ => ⟨_, rfl, E.out.1⟩, fun h => absurd hrh.out h, E.out.2⟩
    | some i =>
      have hli := hlt i hl
      obtain ⟨hyes, hatk⟩ := hla.out.is z i hl
      have hatk := hid hatk
      replace hyes := hid hyes
      have hc : m.cur z = (atR wtT m.Qs i).x := by unfold DM.cur; rw [hl]
      obtain ⟨b8, o8, hq8, r8⟩ := hR8.row (by omega)
      have c8 := r8.cell i hli 1 (.slice (atR wtT m.Qs i).x.a (atR wtT m.Qs i).x.l.length (atR wtT m.Qs i).x.cap) rfl
      have KC := hid (bclone_any (atR wtT m.Qs i).x.l (atR wtT m.Qs i).x.a (atR wtT m.Qs i).x.cap w1 (by rw [← hc]; exact hcur.out.1.1) (by have := hcur.out.2; rw [hc] at this; obtain ⟨g, _, _, _, e⟩ := this; omega))
      have hch := hid hc
      rw [hq8] at B1
      clear hl hlt hla hR7 hR8 r8 hcur hc hq8
      generalize (atR wtT m.Qs i).x = x at *
      generalize m.Qs.length = qs at *
      generalize m.Fs.length = fs at *
      obtain ⟨l0, k0, f0⟩ := B1
      go_wp2_with fail
      refine KH.out.mono ?_
      rintro e w2 ⟨rfl, hw⟩
      rw [hw]
      clear hw w2 KH
      go_wp2_with (at_lookup; refine wpList_lookup_own_ok_int _ rfl _ _ 59 rfl 3 3 .i64 dlawK Try.underlying59 Try.underlying3 (dzeroK _) m.lm m.n m.DL rfl HL.out _ _ rfl hkey ?_; intro c hat hwc; obtain rfl : c = (i : Int) := (by have := hat.symm.trans (hatk.out _); cases this; rfl); rw [hyes.out])
      refine KC.out.mono ?_
      rintro e w2 ⟨v, rfl, hF⟩
      have E := hid (show NewO w w2 v (m.cur z).l ∧ DiskM w2 b m.after K ∧ Sole K w w2 from ⟨by rw [hch.out]; exact NewO.of_fresh hF DE.out.2.size, DE.out.1.more hF.below, DE.out.2.trans (Sole.made hF.below)⟩)
      obtain ⟨av, cv, hv, _, hb2⟩ := hF
      subst hv
      clear hb2
      go_wp2_with fail
      go_ret2
      exact ⟨fun _ => ⟨_, rfl, E.out.1⟩, fun h => absurd hrh.out h, E.out.2⟩
  · have hd : decide (0 ≤ z ∧ z < (m.after.Ls.length : Int)) = false := decide_eq_false hr
    rw [hd] at KH
    have DE := hid (show DiskM w1 b m.after K ∧ Sole K w w1 from ⟨D1.out, S1.out⟩)
    have hrh := hid hr
    clear B1 HL hla hd hr D1 S1
    go_wp2_with fail
    refine KH.out.mono ?_
    rintro e w2 ⟨rfl, hw⟩
    rw [hw]
    clear hw w2 KH
    go_wp2_with fail
    go_ret2
    exact ⟨fun h => absurd h hrh.out, fun _ => rfl, DE.out⟩
end Go.Proofs.Ytcklmemnjchdcaa

/-
  Package seglog: Load of no sector.
-/

namespace Go.Proofs.Ytcklmemnjchdcaa
open Go.RowKit Go.Maps
set_option linter.unusedVariables false
set_option linter.unusedSimpArgs false

theorem below_al1 (w : World) (o : Obj) : Below w.heap.size w (w.alloc o) := (Below.refl _ _).alloc (Nat.le_refl _) _
/-- An item of none. -/
abbrev item0 : Value := .agg #[.int .i64 0, .bool false, .slice none 0 0, .int .i64 0, .int .i64 0, .int .i64 0, .int .i64 0, .int .i64 0, .int .i64 0, .int .i64 0, .int .i64 0, .int .i64 0]
abbrev item0c : List Value := [.int .i64 0, .bool false, .slice none 0 0, .int .i64 0, .int .i64 0, .int .i64 0, .int .i64 0, .int .i64 0, .int .i64 0, .int .i64 0, .int .i64 0, .int .i64 0]
end Go.Proofs.Ytcklmemnjchdcaa

/-
  Package disk: New.
-/



namespace Go.Proofs.Ytcklmemnjchdcaa
open Go.RowKit Go.Maps
set_option linter.unusedVariables false
set_option linter.unusedSimpArgs false

theorem flatO_map : ∀ L : List OcS, flatR ocT L = L.map (fun x => .slice x.a x.l.length x.cap)
  | [] => rfl
  | x :: L => by
    have := flatO_map L
    unfold flatR at this ⊢
    rw [List.flatMap_cons, this]
    rfl
/-- A store into a row of octets. -/
theorem rowO_set {w : World} {base g n cap : Nat} {L : List OcS} (h : RowOwn ocT w base (.slice (some ⟨g, 0, none⟩) n cap) L) (hn : n = L.length) (j : Nat) (x : OcS) :
    RowOwn ocT (w.setCell ⟨g, j, none⟩ (.slice x.a x.l.length x.cap)) base (.slice (some ⟨g, 0, none⟩) n cap) (L.set j x) := by
  subst hn
  have := own_set h j (.slice x.a x.l.length x.cap)
  unfold RowOwn
  rw [List.length_set, flatO_map, List.map_set, ← flatO_map]
  exact this
def zerosN (n : Nat) : List UInt8 := List.replicate n 0
theorem zerosN_len (n : Nat) : (zerosN n).length = n := List.length_replicate
def emptyO : OcS := ⟨none, 0, []⟩
theorem made_octs (t : TypeId) (n : Nat) (w : World) : Octs (w.alloc (.cells (madeCells #[.int .u8 0] n) t)) (some ⟨w.heap.size, 0, none⟩) (zerosN n) := by
  refine .inr ⟨_, _, rfl, by simp, fun i hi => ?_⟩
  have h := (Blk.new w (madeCells #[.int .u8 0] n) t).cell (0 + i)
  rw [h, Nat.zero_add]
  have hi' : i < n := by rw [zerosN_len] at hi; exact hi
  simp [madeCells, zerosN, hi', Nat.mod_one]
theorem made_nils (n : Nat) : (madeCells #[.slice none 0 0] n).toList = flatR ocT (List.replicate n emptyO) := by
  rw [flatO_map, List.map_replicate]
  apply List.ext_getElem?
  intro t
  by_cases h : t < n
  · simp [madeCells, h, emptyO, Nat.mod_one]
  · rw [List.getElem?_eq_none (by simp [size_madeCells]; omega), List.getElem?_eq_none (by simp; omega)]
theorem run_zeros (n : Nat) (hn : n ≤ 1000000) (w : World) : (Instr.makeSlice 51 (.int .i64 (n : Int)) (.int .i64 (n : Int))).run Try.prog w = .ok (.slice (some ⟨w.heap.size, 0, none⟩) n n) (w.alloc (.cells (madeCells #[.int .u8 0] n) 5)) := by
  obtain ⟨i, hi, hz, hs, hby⟩ := info_parts u8Info
  have := run_make (P := Try.prog) w 51 5 i (.int .u8 0) Try.underlying51 hi hz .i64 .i64 (n : Int) (n : Int) (by omega) (Int.le_refl _) (by rw [hby]; omega) (by omega)
  simp only [Int.toNat_natCast, hs, Nat.mul_one] at this
  exact this

theorem run_nils (n : Nat) (hn : n ≤ 1000000) (w : World) : (Instr.makeSlice 53 (.int .i64 (n : Int)) (.int .i64 (n : Int))).run Try.prog w = .ok (.slice (some ⟨w.heap.size, 0, none⟩) n n) (w.alloc (.cells (madeCells #[.slice none 0 0] n) 51)) := by
  obtain ⟨i, hi, hz, hs, hby⟩ := info_parts ocOk.tab
  have := run_make (P := Try.prog) w 53 51 i (.slice none 0 0) Try.underlying53 hi hz .i64 .i64 (n : Int) (n : Int) (by omega) (Int.le_refl _) (by rw [hby]; show (24 : Int) * _ ≤ _; omega) (by omega)
  simp only [Int.toNat_natCast, hs] at this
  rw [show n * ocT.sz = n from Nat.mul_one n] at this
  exact this
/-- A new disk's sectors, as far as they are made. -/
structure NewL (w : World) (S0 N k : Nat) (L : List OcS) : Prop where
  len : L.length = k
  row : RowOwn ocT w 0 (.slice (some ⟨S0, 0, none⟩) N N) (L ++ List.replicate (N - k) emptyO)
  oct : ∀ x ∈ L, x.soft w ∧ (∃ g, x.a = some ⟨g, 0, none⟩ ∧ S0 + 4 ≤ g ∧ g < w.heap.size) ∧ x.l = zerosN 256
  uniq : (L.map (·.a)).Nodup
theorem NewL.drew {w : World} {S0 N k : Nat} {L : List OcS} (h : NewL w S0 N k L) : NewL w.drew S0 N k L :=
  ⟨h.len, h.row.drew, fun x hx => ⟨(h.oct x hx).1.more (Below.refl _ _).drew, (h.oct x hx).2⟩, h.uniq⟩
theorem NewL.next {w : World} {S0 N k : Nat} {L : List OcS} (h : NewL w S0 N k L) (hk : k < N) (hS : S0 + 4 ≤ w.heap.size) :
    ∃ L', NewL ((w.alloc (.cells (madeCells #[.int .u8 0] 256) 5)).setCell ⟨S0, k, none⟩ (.slice (some ⟨w.heap.size, 0, none⟩) 256 256)) S0 N (k + 1) L' := by
  have hb : Below w.heap.size w (w.alloc (.cells (madeCells #[.int .u8 0] 256) 5)) := (Below.refl _ _).alloc (Nat.le_refl _) _
  have O := made_octs 5 256 w
  have BA := Blk.new w (madeCells #[.int .u8 0] 256) 5
  have hs : (w.alloc (.cells (madeCells #[.int .u8 0] 256) 5)).heap.size = w.heap.size + 1 := by simp
  generalize w.alloc (.cells (madeCells #[.int .u8 0] 256) 5) = wA at *
  have hsole : Sole (fun j => j = S0) wA (wA.setCell ⟨S0, k, none⟩ (.slice (some ⟨w.heap.size, 0, none⟩) 256 256)) := Sole.setCell wA _ rfl
  have hl := h.len
  have hrow := rowO_set (h.row.more hb) (by simp; omega) k ⟨some ⟨w.heap.size, 0, none⟩, 256, zerosN 256⟩
  rw [show (zerosN 256).length = 256 from zerosN_len 256] at hrow
  refine ⟨L ++ [⟨some ⟨w.heap.size, 0, none⟩, 256, zerosN 256⟩], by simp [hl], ?_, ?_, ?_⟩
  · have e : (L ++ List.replicate (N - k) emptyO).set k ⟨some ⟨w.heap.size, 0, none⟩, 256, zerosN 256⟩ = L ++ [⟨some ⟨w.heap.size, 0, none⟩, 256, zerosN 256⟩] ++ List.replicate (N - (k + 1)) emptyO := by
      rw [List.set_append_right _ _ (by omega), hl, Nat.sub_self, show N - k = (N - (k + 1)) + 1 by omega, List.replicate_succ, List.set_cons_zero, List.append_assoc]
      rfl
    rw [← e]
    exact hrow
  · intro x hx
    rcases List.mem_append.1 hx with hx | hx
    · obtain ⟨ht, ⟨g, e, h1, h2⟩, hz⟩ := h.oct x hx
      exact ⟨so_sole (ht.more hb) hsole fun b o e' => by rw [e] at e'; cases e'; omega, ⟨g, e, h1, by have := hsole.size; omega⟩, hz⟩
    · simp only [List.mem_singleton] at hx
      subst hx
      refine ⟨⟨⟨O.sole hsole fun b o e' _ => by cases e'; omega, by rw [zerosN_len]; exact Nat.le_refl _, by show 256 ≤ maxLen; unfold maxLen; omega⟩, fun b o e' => by cases e'; exact ⟨by have := hsole.size; omega, fun i => (hsole.frozen BA.lt (show ¬ w.heap.size = S0 by omega)).trans (BA.frz i)⟩⟩, ⟨_, rfl, by omega, by have := hsole.size; omega⟩, rfl⟩
  · rw [List.map_append, List.nodup_append]
    refine ⟨h.uniq, by simp, fun a ha c hc => ?_⟩
    simp only [List.map_cons, List.map_nil, List.mem_singleton] at hc
    obtain ⟨x, hx, rfl⟩ := List.mem_map.1 ha
    obtain ⟨_, ⟨g, e, h1, h2⟩, _⟩ := h.oct x hx
    rw [hc, e]
    intro he
    cases he
    omega

theorem own_fill {w : World} {base : Nat} {e : TypeId} {size g n m : Nat} {xs : List Value} (h : w.ownsRow base e size (.slice (some ⟨g, 0, none⟩) n n) m xs) : ∃ c : Array Value, Blk w g c ∧ c.toList = xs := by
  rcases h.2 with ⟨hv, _⟩ | ⟨g', cap, cur, hv, hb, hg, h1, h2, h3, h4⟩
  · simp at hv
  · simp at hv
    obtain ⟨rfl, rfl, rfl⟩ := hv
    refine ⟨cur, ⟨(h.lt g rfl).2, fun o => by simp [World.cell?, hg], fun o => by simp [World.frozen?, hg]⟩, ?_⟩
    rw [← h4, List.take_of_length_le]
    rw [Array.length_toList, h3]
    exact Nat.le_refl _
/-- A new disk. -/
structure NewD (m : DM) (N : Nat) : Prop where
  off : m.off = false
  tl : m.tl = false
  tf : m.tf = false
  Q : m.Qs = []
  S : m.Ls.length = N
  Z : ∀ x ∈ m.Ls, x.l = zerosN 256
  O : ∀ z : Int, Maps.has m.DO (.int .i64 z) = false
  n : m.n = 0
  n' : m.n' = 0
def newM (S0 N : Nat) (L : List OcS) : DM := ⟨false, false, 0, false, 0, some ⟨S0, 0, none⟩, N, L, none, 0, [], none, 0, [], S0 + 1, S0 + 2, 0, 0, .map [], .map []⟩
def sectorsN (z : Int) : Nat := (min (max z 0) 4096).toNat
def newW (w : World) (N : Nat) : World := (((w.alloc (.cells (madeCells #[.slice none 0 0] N) 51)).alloc (.map #[] 0)).alloc (.map #[] 0)).alloc (.cells #[.bool true, .bool false, .slice (some ⟨w.heap.size, 0, none⟩) N N, .slice none 0 0, .map (some (w.heap.size + 1)), .map (some (w.heap.size + 1 + 1)), .bool false, .int .i64 0, .slice none 0 0, .bool false, .int .i64 0] 67)
structure NewMem (w W : World) (N : Nat) : Prop where
  size : W.heap.size = w.heap.size + 4
  blk : Blk W (w.heap.size + 3) #[.bool true, .bool false, .slice (some ⟨w.heap.size, 0, none⟩) N N, .slice none 0 0, .map (some (w.heap.size + 1)), .map (some (w.heap.size + 1 + 1)), .bool false, .int .i64 0, .slice none 0 0, .bool false, .int .i64 0]
  row : NewL W w.heap.size N 0 []
  L : W.ownsMap (H := Unit) Try.prog 3 (plainElem Try.prog 3) (w.heap.size + 1) 0 (.map [])
  O : W.ownsMap (H := Unit) Try.prog 3 unitElem (w.heap.size + 1 + 1) 0 (.map [])
  low : Below w.heap.size w W
theorem newMem (w : World) (N : Nat) (hN : N ≤ 4096) : NewMem w (newW w N) N := by
  unfold newW
  have b1 : Below w.heap.size w (w.alloc (.cells (madeCells #[.slice none 0 0] N) 51)) := (Below.refl _ _).alloc (Nat.le_refl _) _
  have s1 : (w.alloc (.cells (madeCells #[.slice none 0 0] N) 51)).heap.size = w.heap.size + 1 := by simp
  have R : RowOwn ocT (w.alloc (.cells (madeCells #[.slice none 0 0] N) 51)) 0 (.slice (some ⟨w.heap.size, 0, none⟩) N N) (List.replicate N emptyO) := by
    have := World.ownsRow_lit (size := 1) (e := 51) (base := 0) w (madeCells #[.slice none 0 0] N) N (Nat.zero_le _) (by unfold maxLen; omega) (by rw [size_madeCells, Nat.mul_one])
    unfold RowOwn
    rw [List.length_replicate, ← made_nils]
    exact this
  generalize w.alloc (.cells (madeCells #[.slice none 0 0] N) 51) = W1 at *
  have M2 := World.ownsMap_made (H := Unit) W1 Try.prog 3 (plainElem Try.prog 3)
  have b2 : Below W1.heap.size W1 (W1.alloc (.map #[] 0)) := (Below.refl _ _).alloc (Nat.le_refl _) _
  have s2 : (W1.alloc (.map #[] 0)).heap.size = w.heap.size + 2 := by simp [s1]
  have R2 := R.more b2
  have B2 := below2 b1 b2 b1.size
  generalize W1.alloc (.map #[] 0) = W2 at *
  have M3 := World.ownsMap_made (H := Unit) W2 Try.prog 3 unitElem
  have b3 : Below W2.heap.size W2 (W2.alloc (.map #[] 0)) := (Below.refl _ _).alloc (Nat.le_refl _) _
  have s3 : (W2.alloc (.map #[] 0)).heap.size = w.heap.size + 3 := by simp [s2]
  have R3 := R2.more b3
  have B3 := below2 B2 b3 B2.size
  have M2' := map_sole M2 (Sole.made (S := fun _ => False) b3) id
  generalize W2.alloc (.map #[] 0) = W3 at *
  generalize hc : (#[.bool true, .bool false, .slice (some ⟨w.heap.size, 0, none⟩) N N, .slice none 0 0, .map (some (w.heap.size + 1)), .map (some (w.heap.size + 1 + 1)), .bool false, .int .i64 0, .slice none 0 0, .bool false, .int .i64 0] : Array Value) = c
  have b4 : Below W3.heap.size W3 (W3.alloc (.cells c 67)) := (Below.refl _ _).alloc (Nat.le_refl _) _
  have B := Blk.new W3 c 67
  rw [s3] at B
  rw [s1] at M2'
  rw [s2] at M3
  have hL := map_sole M2' (Sole.made (S := fun _ => False) b4) id
  have hO := map_sole M3 (Sole.made (S := fun _ => False) b4) id
  have hR := R3.more b4
  exact ⟨by simp [s3], by rw [hc]; exact B, ⟨rfl, by simpa using hR, nofun, by simp⟩, hL, hO, below2 B3 b4 B3.size⟩
theorem newD_of {w W wr : World} {N : Nat} {L : List OcS} (hN : N ≤ 4096) (M : NewMem w W N) (hs : Sole (fun k => k = w.heap.size) W wr) (h : NewL wr w.heap.size N N L) :
    DiskM wr (w.heap.size + 3) (newM w.heap.size N L) (fun k => w.heap.size ≤ k ∧ k < wr.heap.size) ∧ NewD (newM w.heap.size N L) N ∧ Below w.heap.size w wr := by
  obtain ⟨hl, hrow, hoct, huniq⟩ := h
  subst hl
  have hsz := hs.size
  have hms := M.size
  have hbase : ∀ g, (newM w.heap.size L.length L).base (w.heap.size + 3) g → g = w.heap.size + 3 ∨ g = w.heap.size + 1 ∨ g = w.heap.size + 2 ∨ g = w.heap.size := by
    rintro g (e | e | e | e | e | e)
    · exact .inl e
    · exact .inr (.inl e)
    · exact .inr (.inr (.inl e))
    · exact .inr (.inr (.inr (by simpa [DM.sv, newM, Value.ownBlock, eq_comm] using e)))
    · cases e
    · cases e
  refine ⟨?_, ⟨rfl, rfl, rfl, rfl, rfl, fun x hx => (hoct x hx).2.2, fun z => by rfl, rfl, rfl⟩, M.low.trans (hs.below (B := w.heap.size) (by omega) fun k e => by omega)⟩
  exact
  { blk := (M.blk.sole hs (by omega))
    apart := ⟨by show w.heap.size + 3 ≠ w.heap.size + 1; omega, by show w.heap.size + 3 ≠ w.heap.size + 2; omega, by show w.heap.size + 1 ≠ w.heap.size + 2; omega, fun k e => by
      have e' : w.heap.size = k := by simpa [DM.sv, newM, Value.ownBlock] using e
      refine ⟨by omega, by show k ≠ w.heap.size + 1; omega, by show k ≠ w.heap.size + 2; omega, nofun, nofun⟩, nofun, nofun⟩
    kk := fun k hk => by have := hbase k hk; show w.heap.size ≤ k ∧ k < wr.heap.size; omega
    klt := fun k hk => hk.2
    S := (by simpa using hrow : RowOwn ocT wr 0 (.slice (some ⟨w.heap.size, 0, none⟩) L.length L.length) L)
    SO := fun x hx => by
      obtain ⟨ht, ⟨g, e, h1, h2⟩, hz⟩ := hoct x hx
      exact ⟨ht, g, e, ⟨by omega, h2⟩, fun hb => by have := hbase g hb; omega, by rw [hz, zerosN_len]⟩
    Q := RowOwn.nil _ _
    QO := nofun
    F := RowOwn.nil _ _
    L := map_sole M.L hs (show ¬ (w.heap.size + 1 = w.heap.size) by omega)
    O := map_sole M.O hs (show ¬ (w.heap.size + 1 + 1 = w.heap.size) by omega)
    last := LastOk.nil
    lenS := hN
    cwf := rfl
    fwf := rfl
    uniq := ⟨huniq, List.nodup_nil, nofun⟩ }
set_option maxRecDepth 100000 in
set_option maxHeartbeats 2000000 in
theorem dnew_any (z : Int) (w : World) : Calls Try.prog 7 #[.int .i64 z] w fun e w' =>
    ∃ L, e = .returned (.pointer (some ⟨w.heap.size + 3, 0, none⟩)) ∧ DiskM w' (w.heap.size + 3) (newM w.heap.size (sectorsN z) L) (fun k => w.heap.size ≤ k ∧ k < w'.heap.size) ∧ NewD (newM w.heap.size (sectorsN z) L) (sectorsN z) ∧ Below w.heap.size w w' := by
  have hN : (sectorsN z : Int) = min (max z 0) 4096 := by unfold sectorsN; omega
  have hN4 : sectorsN z ≤ 4096 := by unfold sectorsN; omega
  generalize sectorsN z = N at *
  have hmm := @run_makeMap Try.prog
  have hNm : min (max z 0) 4096 = (N : Int) := hN.symm
  have mk2 := run_nils N (by omega) w
  clear hN
  have mk : ∀ w, (Instr.makeSlice 51 (.int .i64 256) (.int .i64 256)).run Try.prog w = .ok (.slice (some ⟨w.heap.size, 0, none⟩) 256 256) (w.alloc (.cells (madeCells #[.int .u8 0] 256) 5)) := fun w => run_zeros 256 (by omega) w
  have NM := hid (newMem w N hN4)
  have hN4h := hid hN4
  go_enter Try.func7, Try.ntmps7
  go_wp2_with fail
  change Code.wp _ _ _ _ (newW w N)
  generalize newW w N = W at *
  have B0 := NM.out.blk
  go_loopw [18] (fun i wr => ∃ k : Nat, k ≤ N ∧ i = .int .i64 (k : Int) ∧ Sole (fun j => j = w.heap.size) W wr ∧ ∃ L, NewL wr w.heap.size N k L) (fun i _ => N - (intOf i).toNat)
  case atStart => exact ⟨0, Nat.zero_le _, rfl, Sole.refl _ _, _, NM.out.row⟩
  case round =>
    obtain ⟨k, hk, rfl, hs, L, HL⟩ := hrel
    by_cases hlt : k < N
    · obtain ⟨c5, B5, hc5⟩ := own_fill HL.row
      have hc : c5[k]? = some (.slice none 0 0) := by
        rw [← Array.getElem?_toList, hc5, flatO_map, List.map_append, List.getElem?_append_right (by simp [HL.len]), List.length_map, HL.len, Nat.sub_self, List.map_replicate]
        simp [List.getElem?_replicate, emptyO]
        omega
      have B3 := NM.out.blk.sole hs (by omega)
      obtain ⟨L', HL'⟩ := HL.drew.next hlt (by have := hs.size; have := NM.out.size; show _ ≤ wr.heap.size; omega)
      have hs' : Sole (fun j => j = w.heap.size) W ((wr.drew.alloc (.cells (madeCells #[.int .u8 0] 256) 5)).setCell ⟨w.heap.size, k, none⟩ (.slice (some ⟨wr.drew.heap.size, 0, none⟩) 256 256)) := (hs.drew.trans (Sole.alloc wr.drew _)).trans (Sole.setCell _ _ rfl)
      rw [World.setCell_alloc_past _ _ _ _ (show w.heap.size < wr.drew.heap.size by have := hs.size; have := NM.out.size; show _ < wr.heap.size; omega)] at hs' HL'
      have E := hid (And.intro hs' HL')
      obtain ⟨l3, k3, f3⟩ := B3
      obtain ⟨l5, k5, f5⟩ := B5
      have x5 := (k5 k).trans hc
      have y5 := f5 k
      clear hs HL hs' HL' k5 f5 hc hc5 B0
      go_wp2_with fail
      go_region
      go_wp2_with fail
      go_roundw
      case rel => exact ⟨k + 1, by omega, by simp, E.out.1, L', E.out.2⟩
      case measure => simp [intOf]; omega
    · obtain rfl : k = N := by omega
      have E := hid (newD_of hN4h.out NM.out hs HL)
      clear hs HL B0
      go_wp2_with fail
      go_ret
      exact ⟨L, rfl, E.out⟩
end Go.Proofs.Ytcklmemnjchdcaa

/-
  Package disk: count, Write.
-/




namespace Go.Proofs.Ytcklmemnjchdcaa
open Go.RowKit Go.Maps
set_option linter.unusedVariables false
set_option linter.unusedSimpArgs false

/-- A call that was done is counted; what comes of it. -/
def DM.counted (m : DM) : DM := { m with cl := wrap64 (m.cl - 1) }
set_option maxRecDepth 100000 in
theorem count_any {G : DM → World → World → Prop} (m : DM) (b : Nat) (K : Nat → Prop) (w : World) (D : DiskM w b m K)
    (KG : ∀ w1, DiskM w1 b m.counted K → Calls Try.prog 48 #[.pointer (some ⟨b, 0, none⟩)] w1 fun e w' => e = .returned (.tuple #[]) ∧ G m.counted w1 w') :
    Calls Try.prog 32 #[.pointer (some ⟨b, 0, none⟩)] w fun e w' => e = .returned (.tuple #[]) ∧ ∃ w1, DiskM w1 b m.counted K ∧ Sole K w w1 ∧ G m.counted w1 w' := by
  have B0 := D.blk
  have B1 := B0.set 7 (.int .i64 (wrap64 (m.cl - 1))) (by simp [DM.cells])
  have S1 : Sole (fun k => k = b) w (w.setCell ⟨b, 7, none⟩ (.int .i64 (wrap64 (m.cl - 1)))) := Sole.setCell w _ rfl
  have D1 : DiskM _ b m.counted K := D.scal m.off m.tl m.tf (wrap64 (m.cl - 1)) m.fl (wrap64_wf _) D.fwf S1 B1
  have KG1 := hid (KG _ D1)
  have E := hid (And.intro D1 (S1.mono (T := K) fun k _ e => e ▸ D.kk _ (.inl rfl)))
  clear D D1 S1 B1 KG
  simp only [DM.cells, DM.sv, DM.wv, DM.fv] at B0
  obtain ⟨l0, k0, f0⟩ := B0
  go_enter Try.func32, Try.ntmps32
  go_wp2_with fail
  refine KG1.out.mono ?_
  rintro e w2 ⟨rfl, hG⟩
  have HG := hid hG
  clear hG KG1
  go_wp2_with fail
  refine bodyPost_end (results_none rfl _ _ _) rfl ?_
  exact ⟨rfl, _, E.out.1, E.out.2, HG.out⟩

/-- One more that waits. -/
theorem wt_grow {W : World} {V : Value} {L : List WtS} (OV : RowOwn wtT W 0 V L) (hl : (L.length + 1) * 32 ≤ 140737488355328) {g : Nat} (y : WtS) (B : Blk W g #[.int .i64 y.at_, .slice y.x.a y.x.l.length y.x.cap]) :
    ∃ q c w10, (∀ ty, (Builtin.append_ #[61, 61] ty #[V, .slice (some ⟨g, 0, none⟩) 1 1]).run Try.prog W = .ok (.slice q (L.length + 1) c) w10) ∧ RowOwn wtT w10 0 (.slice q (L.length + 1) c) (L ++ [y]) ∧ Sole (fun k => V.ownBlock = some k) W w10 ∧
      ∀ k, (Value.slice q (L.length + 1) c).ownBlock = some k → V.ownBlock = some k ∨ W.heap.size ≤ k := by
  have R1 := rowOf_one wtOk B (x := y) rfl
  obtain ⟨v', w', hr, O', gr, mv⟩ := append_row wtOk 0 61 W V L OV (some ⟨g, 0, none⟩) 1 [y] R1 hl (by unfold maxLen; simp; omega) (Nat.zero_le _)
  obtain ⟨q, c, hv, _⟩ := O'.open wtOk
  rw [show (L ++ [y]).length = L.length + 1 by simp] at hv
  subst hv
  refine ⟨q, c, w', fun ty => hr, O', Sole.grown gr fun k e => e, fun k e => ?_⟩
  rcases mv with h | h
  · exact .inl (h ▸ e)
  · rw [h] at e; cases e; exact .inr (Nat.le_refl _)

theorem LastOk.snoc {D : DataW Unit} {l : List Int} (h : LastOk D l) (z : Int) (hz : (Lit.int .i64 z).wf = true) : LastOk (D.put (.int .i64 z) (.lit (.int .i64 (l.length : Int)))) (l ++ [z]) := by
  have hk : WideAt.IsKeyLit (.int .i64 z) := dlawK.key (keyOf_int_mk (P := Try.prog) Try.underlying3 hz)
  refine ⟨h.map.put _ _, fun y hy => ?_, fun y i hy => ?_⟩
  · rw [lastI_snoc] at hy
    split at hy
    · cases hy
    · rename_i e
      rw [has_put_other (fun e' => e (by cases e'; rfl))]
      exact h.no y hy
  · rw [lastI_snoc] at hy
    split at hy
    · rename_i e
      subst e
      cases hy
      exact ⟨has_put_same h.map hk _, fun d => atKey_put_same h.map hk _ d⟩
    · rename_i e
      have hne : Lit.int .i64 y ≠ Lit.int .i64 z := fun e' => e (by cases e'; rfl)
      rw [has_put_other hne]
      exact ⟨(h.is y i hy).1, fun d => by rw [atKey_put_other hne]; exact (h.is y i hy).2 d⟩

/-- What a write leaves. -/
def DM.wrote (m : DM) (z : Int) (y : OcS) (q : Option Addr) (c : Nat) : DM := { m with wp := q, wc := c, Qs := m.Qs ++ [⟨z, y⟩], n := m.n + 1, DL := m.DL.put (.int .i64 z) (.lit (.int .i64 (m.Qs.length : Int))) }
theorem DiskM.wrote {w3 w4 w5 w6 : World} {b : Nat} {m : DM} {K : Nat → Prop} (h : DiskM w3 b m K) {z : Int} {y : OcS} {q : Option Addr} {c : Nat} (hz : (Lit.int .i64 z).wf = true) (hz0 : 0 ≤ z) (hz1 : z < (m.Ls.length : Int))
    (S34 : Sole (fun k => k = m.lm) w3 w4) (hL : w4.ownsMap Try.prog 3 (plainElem Try.prog 3) m.lm (m.n + 1) (m.DL.put (.int .i64 z) (.lit (.int .i64 (m.Qs.length : Int)))))
    (b45 : Below w4.heap.size w4 w5) (hy : y.soft w5) (hyl : y.l.length = 256) {g : Nat} (hya : y.a = some ⟨g, 0, none⟩) (hg : w4.heap.size ≤ g) (hg5 : g < w5.heap.size)
    (S56 : Sole (fun k => m.wv.ownBlock = some k) w5 w6) (hQ : RowOwn wtT w6 0 (.slice q (m.Qs.length + 1) c) (m.Qs ++ [⟨z, y⟩])) (hown : ∀ k, (Value.slice q (m.Qs.length + 1) c).ownBlock = some k → m.wv.ownBlock = some k ∨ w5.heap.size ≤ k) :
    DiskM (w6.setCell ⟨b, 3, none⟩ (.slice q (m.Qs.length + 1) c)) b (m.wrote z y q c) (fun k => K k ∨ (w3.heap.size ≤ k ∧ k < w6.heap.size)) ∧ Sole K w3 (w6.setCell ⟨b, 3, none⟩ (.slice q (m.Qs.length + 1) c)) := by
  have s34 := S34.size
  have s45 := b45.size
  have s56 := S56.size
  have S67 : Sole (fun k => k = b) w6 (w6.setCell ⟨b, 3, none⟩ (.slice q (m.Qs.length + 1) c)) := Sole.setCell _ _ rfl
  have s7 : (w6.setCell ⟨b, 3, none⟩ (.slice q (m.Qs.length + 1) c)).heap.size = w6.heap.size := by simp [World.setCell]
  have hlen : (m.Qs ++ [(⟨z, y⟩ : WtS)]).length = m.Qs.length + 1 := by simp
  have kb := h.klt b (h.kk b (.inl rfl))
  have kl := h.klt m.lm (h.kk _ (.inr (.inl rfl)))
  have ko := h.klt m.om (h.kk _ (.inr (.inr (.inl rfl))))
  have ks : ∀ k, m.sv.ownBlock = some k → k < w3.heap.size := fun k e => h.klt k (h.kk k (.inr (.inr (.inr (.inl e)))))
  have kw : ∀ k, m.wv.ownBlock = some k → k < w3.heap.size := fun k e => h.klt k (h.kk k (.inr (.inr (.inr (.inr (.inl e))))))
  have kf : ∀ k, m.fv.ownBlock = some k → k < w3.heap.size := fun k e => h.klt k (h.kk k (.inr (.inr (.inr (.inr (.inr e))))))
  have B7 := (((h.blk.sole S34 h.apart.bl).more b45).sole S56 (fun e => (h.apart.w b e).1 rfl)).set 3 (.slice q (m.Qs.length + 1) c) (by simp [DM.cells])
  have ST : Sole (fun k => k = b ∨ k = m.lm ∨ m.wv.ownBlock = some k) w3 (w6.setCell ⟨b, 3, none⟩ (.slice q (m.Qs.length + 1) c)) :=
    (((S34.mono fun k _ e => .inr (.inl e)).trans (Sole.made b45)).trans (S56.mono fun k _ e => .inr (.inr e))).trans (S67.mono fun k _ e => .inl e)
  have hown' : ∀ k, (m.wrote z y q c).wv.ownBlock = some k → m.wv.ownBlock = some k ∨ w5.heap.size ≤ k := fun k e => hown k (by simpa [DM.wv, DM.wrote, Value.ownBlock] using e)
  have hbase : ∀ k, (m.wrote z y q c).base b k → m.base b k ∨ w5.heap.size ≤ k := by
    rintro k (e | e | e | e | e | e)
    · exact .inl (.inl e)
    · exact .inl (.inr (.inl e))
    · exact .inl (.inr (.inr (.inl e)))
    · exact .inl (.inr (.inr (.inr (.inl e))))
    · rcases hown' k e with r | r
      · exact .inl (.inr (.inr (.inr (.inr (.inl r)))))
      · exact .inr r
    · exact .inl (.inr (.inr (.inr (.inr (.inr e)))))
  have hbl : ∀ k, m.base b k → k < w3.heap.size := fun k e => h.klt k (h.kk k e)
  have hQ7 := hQ.sole S67 fun k e => by
    rcases hown k e with r | r
    · exact (h.apart.w k r).1
    · omega
  have hwt := hQ.within
  have ht7 : ∀ x : OcS, x.soft w3 ∧ x.full K m b → x.soft (w6.setCell ⟨b, 3, none⟩ (.slice q (m.Qs.length + 1) c)) ∧ x.full (fun k => K k ∨ (w3.heap.size ≤ k ∧ k < w6.heap.size)) (m.wrote z y q c) b := by
    rintro x ⟨ht, g', e, kg, hg', r⟩
    refine ⟨so_sole ht ST fun b' o e' => ?_, g', e, .inl kg, fun hb => ?_, r⟩
    · rw [e] at e'; cases e'
      rintro (r' | r' | r')
      · exact hg' (.inl r')
      · exact hg' (.inr (.inl r'))
      · exact hg' (.inr (.inr (.inr (.inr (.inl r')))))
    · rcases hbase g' hb with r' | r'
      · exact hg' r'
      · have := h.klt g' kg; omega
  refine ⟨?_, ST.mono fun k _ e => ?_⟩
  · exact
    { blk := by
        have : (m.wrote z y q c).cells = m.cells.setIfInBounds 3 (.slice q (m.Qs.length + 1) c) := by
          simp [DM.cells, DM.wrote, DM.wv, hlen]
        rw [this]
        exact B7
      apart := ⟨h.apart.bl, h.apart.bo, h.apart.lo, fun k e => ⟨(h.apart.s k e).1, (h.apart.s k e).2.1, (h.apart.s k e).2.2.1, fun e' => by
          rcases hown' k e' with r | r
          · exact (h.apart.s k e).2.2.2.1 r
          · have := ks k e; omega, (h.apart.s k e).2.2.2.2⟩, fun k e => by
          rcases hown' k e with r | r
          · exact h.apart.w k r
          · exact ⟨by omega, show k ≠ m.lm by omega, show k ≠ m.om by omega, fun e' => by have := kf k e'; omega⟩, h.apart.f⟩
      kk := fun k hk => by
        rcases hbase k hk with r | r
        · exact .inl (h.kk k r)
        · refine .inr ⟨by omega, ?_⟩
          rcases hk with e | e | e | e | e | e
          · omega
          · have : k = m.lm := e; omega
          · have : k = m.om := e; omega
          · have := ks k e; omega
          · have := hwt k (by simpa [DM.wv, DM.wrote, Value.ownBlock] using e); omega
          · have := kf k e; omega
      klt := fun k hk => by
        rw [s7]
        rcases hk with r | r
        · have := h.klt k r; omega
        · exact r.2
      S := h.S.sole ST fun k e => by
        rintro (r | r | r)
        · exact (h.apart.s k e).1 r
        · exact (h.apart.s k e).2.1 r
        · exact (h.apart.s k e).2.2.2.1 r
      SO := fun x hx => ht7 x (h.SO x hx)
      Q := by
        show RowOwn wtT _ 0 (.slice q (m.Qs ++ [(⟨z, y⟩ : WtS)]).length c) (m.Qs ++ [⟨z, y⟩])
        rw [hlen]
        exact hQ7
      QO := fun y' hy' => by
        rcases List.mem_append.1 hy' with r | r
        · exact ⟨ht7 _ (h.QO y' r).1, (h.QO y' r).2⟩
        · simp only [List.mem_singleton] at r
          subst r
          refine ⟨⟨so_sole (so_sole hy S56 fun b' o e' => ?_) S67 fun b' o e' => ?_, g, hya, .inr ⟨by omega, by omega⟩, fun hb => ?_, hyl⟩, hz0, hz1⟩
          · rw [show (⟨z, y⟩ : WtS).x.a = some ⟨g, 0, none⟩ from hya] at e'; cases e'
            intro e2
            have := kw _ e2; omega
          · rw [show (⟨z, y⟩ : WtS).x.a = some ⟨g, 0, none⟩ from hya] at e'; cases e'
            omega
          · rcases hbase g hb with r' | r'
            · have := hbl g r'; omega
            · omega
      F := h.F.sole ST fun k e => by
        rintro (r | r | r)
        · exact (h.apart.f k e).1 r
        · exact (h.apart.f k e).2.1 r
        · exact (h.apart.w k r).2.2.2 e
      L := map_sole (map_sole (map_sole hL (Sole.made (S := fun _ => False) b45) id) S56 (fun e => (h.apart.w _ e).2.1 rfl)) S67 (fun e => h.apart.bl e.symm)
      O := map_sole h.O ST (by
        rintro (r | r | r)
        · exact h.apart.bo r.symm
        · exact h.apart.lo r.symm
        · exact (h.apart.w _ r).2.2.1 rfl)
      last := by
        have := h.last.snoc z hz
        rw [List.length_map] at this
        show LastOk _ ((m.Qs ++ [(⟨z, y⟩ : WtS)]).map (·.at_))
        rw [List.map_append]
        exact this
      lenS := h.lenS
      cwf := h.cwf
      fwf := h.fwf
      uniq := by
        have hfr : ∀ x : OcS, x.full K m b → x.a ≠ y.a := fun x ⟨g', e, kg, _⟩ e' => by
          rw [e, hya] at e'; cases e'
          have := h.klt _ kg; omega
        refine ⟨h.uniq.s, ?_, fun s i hs hi e => ?_⟩
        · show ((m.Qs ++ [(⟨z, y⟩ : WtS)]).map fun y => y.x.a).Nodup
          rw [List.map_append, List.nodup_append]
          refine ⟨h.uniq.q, by simp, fun a ha c' hc => ?_⟩
          simp only [List.map_cons, List.map_nil, List.mem_singleton] at hc
          obtain ⟨y', hy', rfl⟩ := List.mem_map.1 ha
          rw [hc]
          exact hfr _ (h.QO y' hy').1.2
        · have hi' : i < m.Qs.length + 1 := by rw [← hlen]; exact hi
          by_cases hil : i < m.Qs.length
          · have e1 : atR wtT (m.Qs ++ [(⟨z, y⟩ : WtS)]) i = atR wtT m.Qs i := by unfold atR; rw [List.getElem?_append_left hil]
            have e' : (ocA m.Ls s).a = (atR wtT (m.Qs ++ [(⟨z, y⟩ : WtS)]) i).x.a := e
            rw [e1] at e'
            show (s : Int) = (atR wtT (m.Qs ++ [(⟨z, y⟩ : WtS)]) i).at_
            rw [e1]
            exact h.uniq.sq s i hs hil e'
          · obtain rfl : i = m.Qs.length := by omega
            have e1 : atR wtT (m.Qs ++ [(⟨z, y⟩ : WtS)]) m.Qs.length = ⟨z, y⟩ := by unfold atR; rw [List.getElem?_append_right (Nat.le_refl _)]; simp
            have e' : (ocA m.Ls s).a = (atR wtT (m.Qs ++ [(⟨z, y⟩ : WtS)]) m.Qs.length).x.a := e
            rw [e1] at e'
            exact absurd e' (hfr _ (h.SO _ (ocA_mem m.Ls s hs)).2) }
  · rcases e with r | r | r
    · exact r ▸ h.kk b (.inl rfl)
    · exact r ▸ h.kk _ (.inr (.inl rfl))
    · exact h.kk k (.inr (.inr (.inr (.inr (.inl r)))))

theorem step_append_run {P : Program} {ops : Array Oper} {o : Oper} {a : Act} {w : World} {K : Act → World → Prop} {Q : Exit → Act → World → Prop} {E : Prop} (hgd : o.guard = none) (s x : Operand) (t : TypeId)
    (ho : o.op = .call { callee := .builtin .append, args := #[s, x], argTypes := #[t, t] }) (v u : Value) (hs : a.eval s = v) (hx : a.eval x = u) (v' : Value) (w' : World) (hr : ∀ ty, (Builtin.append_ #[t, t] ty #[v, u]).run P w = .ok v' w') (h : K (a.put o.dst v') w') :
    if Region.wanted o (yielded ops a.tmps) = true then Oper.wp P o a w K Q else E := by
  rw [if_pos (by simp [Region.wanted, hgd])]
  unfold Oper.wp
  simp [execOp, ho, resolve, invoke, builtin, hs, hx, hr, Result.andThen]
  exact h
/-- The memory of a write, ahead of its walk. -/
theorem write_mem {w3 w4 w5 : World} {b : Nat} {m : DM} {K : Nat → Prop} (h : DiskM w3 b m K) {z : Int} (hz : (Lit.int .i64 z).wf = true) (hz0 : 0 ≤ z) (hz1 : z < (m.Ls.length : Int)) (hq : m.Qs.length ≤ 1000000)
    (S34 : Sole (fun k => k = m.lm) w3 w4) (hL : w4.ownsMap Try.prog 3 (plainElem Try.prog 3) m.lm (m.n + 1) (m.DL.put (.int .i64 z) (.lit (.int .i64 (m.Qs.length : Int)))))
    {l : List UInt8} (hl : l.length = 256) {v : Value} (hF : Fresh w4 w5 v l) :
    ∃ a5 c5, v = .slice a5 256 c5 ∧ Blk w5 b m.cells ∧ ∃ q c w10, (∀ ty, (Builtin.append_ #[61, 61] ty #[.slice m.wp m.Qs.length m.wc, .slice (some ⟨w5.heap.size, 0, none⟩) 1 1]).run Try.prog (w5.alloc (.cells #[.int .i64 z, .slice a5 256 c5] 103)) = .ok (.slice q (m.Qs.length + 1) c) w10) ∧
      Blk w10 b m.cells ∧ ∃ (y : OcS) (K1 : Nat → Prop), y.l = l ∧ DiskM (w10.setCell ⟨b, 3, none⟩ (.slice q (m.Qs.length + 1) c)) b (m.wrote z y q c) K1 ∧ Sole K w3 (w10.setCell ⟨b, 3, none⟩ (.slice q (m.Qs.length + 1) c)) ∧ ∀ k, K1 k → K k ∨ w3.heap.size ≤ k := by
  obtain ⟨a5, c5, rfl, O5, hb5⟩ := hF
  have hoc := Octs.of_own O5
  obtain ⟨g, cap', cur, he, hbg, hlc, hcm, B5', _, _⟩ := own_blk O5 (by omega)
  simp only [Value.slice.injEq] at he
  obtain ⟨rfl, _, rfl⟩ := he
  have hbA : Below w5.heap.size w5 (w5.alloc (.cells #[.int .i64 z, .slice (some ⟨g, 0, none⟩) 256 c5] 103)) := (Below.refl _ _).alloc (Nat.le_refl _) _
  have Bn := Blk.new w5 #[.int .i64 z, .slice (some ⟨g, 0, none⟩) 256 c5] 103
  have hsA : (w5.alloc (.cells #[.int .i64 z, .slice (some ⟨g, 0, none⟩) 256 c5] 103)).heap.size = w5.heap.size + 1 := by simp
  have B4 := h.blk.sole S34 h.apart.bl
  have B5 := B4.more hb5
  refine ⟨_, _, by rw [hl], B5, ?_⟩
  generalize w5.alloc (.cells #[.int .i64 z, .slice (some ⟨g, 0, none⟩) 256 c5] 103) = wA at *
  have Q4 := h.Q.sole S34 (fun k e e' => (h.apart.w k e).2.1 e')
  have QA := (Q4.more hb5).more hbA
  obtain ⟨q, c, w10, hr, O10, S10, own10⟩ := wt_grow QA (by omega) (⟨z, ⟨some ⟨g, 0, none⟩, c5, l⟩⟩ : WtS) (by rw [hl]; exact Bn)
  have b4A : Below w4.heap.size w4 wA := below2 hb5 hbA hb5.size
  have B10 := (B5.more hbA).sole S10 (fun e => (h.apart.w b e).1 rfl)
  have hthere : (⟨some ⟨g, 0, none⟩, c5, l⟩ : OcS).soft wA := ⟨⟨hoc.more hbA, hlc, hcm⟩, fun b' o e => by cases e; exact ⟨(B5'.more hbA).lt, fun i => (B5'.more hbA).frz i⟩⟩
  obtain ⟨Dw, Sw⟩ := h.wrote hz hz0 hz1 S34 hL b4A hthere hl rfl hbg (by have := B5'.lt; have := hbA.size; omega) S10 O10 own10
  exact ⟨q, c, w10, hr, B10, ⟨some ⟨g, 0, none⟩, c5, l⟩, fun k => K k ∨ (w3.heap.size ≤ k ∧ k < w10.heap.size), rfl, Dw, Sw, fun k hk => hk.imp id (·.1)⟩

set_option maxRecDepth 100000 in
set_option maxHeartbeats 4000000 in
theorem write_any {G : (Nat → Prop) → DM → World → World → Prop} (m : DM) (b : Nat) (z : Int) (K : Nat → Prop) (w : World) (D : DiskM w b m K) (x : OcS) (hx : x.there w) (hxK : ∀ b' o, x.a = some ⟨b', o, none⟩ → ¬ K b') (hxl : x.l.length = 256)
    (hz : (Lit.int .i64 z).wf = true) (hz0 : 0 ≤ z) (hz1 : z < (m.Ls.length : Int)) (htr : m.trb = false) (hn : m.n < 1000000) (hq : m.Qs.length ≤ 1000000)
    (KG : ∀ y q c w1 K1, DiskM w1 b (m.after.wrote z y q c).counted K1 → Calls Try.prog 48 #[.pointer (some ⟨b, 0, none⟩)] w1 fun e w' => e = .returned (.tuple #[]) ∧ G K1 (m.after.wrote z y q c).counted w1 w') :
    Calls Try.prog 14 #[.pointer (some ⟨b, 0, none⟩), .int .i64 z, .slice x.a 256 x.cap] w fun e w' => e = .returned (.int .i64 0) ∧
      ∃ y q c w1 K1, y.l = x.l ∧ DiskM w1 b (m.after.wrote z y q c).counted K1 ∧ Sole K w w1 ∧ (∀ k, K1 k → K k ∨ w.heap.size ≤ k) ∧ G K1 (m.after.wrote z y q c).counted w1 w' := by
  have KT := hid (trouble_any m b w D.blk)
  have Dh := hid D
  have hxh := hid hx
  have hxKh := hid hxK
  have hxlh := hid hxl
  have ht := htr
  have KGh := hid KG
  clear D htr hx hxK hxl KG
  simp only [ht, Bool.false_eq_true, if_false, ↓reduceIte] at KT
  go_enter Try.func14, Try.ntmps14
  go_wp2_with fail
  refine KT.out.mono ?_
  rintro e w1 ⟨rfl, hB, hS⟩
  have D1 := hid (Dh.out.after hB hS)
  have S1 := hid (hS.mono (T := K) fun k _ e => e ▸ Dh.out.kk _ (.inl rfl))
  have X1 := hid (oc_sole hxh.out hS fun b' o e e' => hxKh.out b' o e (e' ▸ Dh.out.kk _ (.inl rfl)))
  have KH := has_any m.after b z w1 hB
  rw [show decide (0 ≤ z ∧ z < (m.after.Ls.length : Int)) = true from decide_eq_true ⟨hz0, hz1⟩] at KH
  replace KH := hid KH
  have B1 : Blk w1 b #[.bool true, .bool m.off, .slice m.sp m.Ls.length m.sc, .slice m.wp m.Qs.length m.wc, .map (some m.lm), .map (some m.om), .bool m.tl, .int .i64 m.cl, .slice m.fp m.Fs.length m.fc, .bool m.after.tf, .int .i64 m.after.fl] := hB
  generalize m.after.tf = atf at B1
  generalize m.after.fl = afl at B1
  clear hB hS KT Dh hxh
  go_wp2_with fail
  refine KH.out.mono ?_
  rintro e w2 ⟨rfl, hw⟩
  rw [hw]
  clear hw w2 KH
  go_wp2_with fail
  have q0 := fun u : Later w1 => u.blk B1
  refine wp_region_late 10 (by kernel_rfl) (by kernel_rfl) ?_
  simp only [List.take_succ_cons, List.take_zero, List.drop_succ_cons, List.drop_zero]
  repeat (go_big_quiet_step (fail))
  refine wpQuiet_nil ?_
  intro w3 h3'
  have h3 := late_out h3'
  clear h3' q0
  have D3 := hid (D1.out.more h3)
  have X3 := hid (X1.out.more h3)
  have S3 := hid (S1.out.trans (Sole.made h3))
  have HL := hid (show w3.ownsMap Try.prog 3 (plainElem Try.prog 3) m.lm m.n m.DL from D3.out.L)
  have B3 := B1.more h3
  have hkey := keyOf_int_mk (P := Try.prog) Try.underlying3 hz
  have hql : (Lit.int .i64 (m.Qs.length : Int)).wf = true := by
    rw [show (m.Qs.length : Int) = wrap64 (m.Qs.length : Int) by unfold wrap64; omega]
    exact wrap64_wf _
  clear D1 S1 X1 B1 h3
  go_wp2_with (at_mapUpdate; refine wpList_mapUpdate_own _ rfl _ _ _ 59 rfl 3 3 dlawK Try.underlying59 _ m.lm m.n m.DL rfl HL.out (by unfold maxLen; omega) _ _ _ rfl rfl hkey _ [] (plainElem_int Try.underlying3 hql) ?_; intro w4 hown4 hgrow4)
  have S34 : Sole (fun k => k = m.lm) w3 w4 := Sole.grown hgrow4 (fun k e => by cases e; rfl)
  have X4 := oc_sole X3.out S34 fun b' o e e' => hxKh.out b' o e (e' ▸ D3.out.kk _ (.inr (.inl rfl)))
  have B4 := B3.sole S34 D3.out.apart.bl
  have KC : Hid (∀ W', Below w4.heap.size w4 W' → Calls Try.prog 31 #[.slice x.a 256 x.cap] W' fun e w' => ∃ v, e = .returned v ∧ Fresh W' w' v x.l) := hid (fun W' hb => by
    have := bclone_any x.l x.a x.cap W' (X4.more hb).1 (by rw [hxlh.out]; omega)
    rw [hxlh.out] at this
    exact this)
  have hown4h := hid (show w4.drew.ownsMap Try.prog 3 (plainElem Try.prog 3) m.lm (m.n + 1) (m.DL.put (.int .i64 z) (.lit (.int .i64 (m.Qs.length : Int)))) from hown4.drew)
  have S34h := hid S34.drew
  clear hown4 hgrow4 S34 X4 X3 B3 HL
  obtain ⟨l4, k4, f4⟩ := B4
  go_region_law (first
    | (refine step_append_run (by rfl) _ _ _ (by rfl) _ _ (by rfl) (by rfl) _ _ hr ?_)
    | (go_simp; (with_reducible refine (KC.out _ (Below.refl _ _).drew).mono ?_); rintro e w5 ⟨v, rfl, hF⟩; obtain ⟨a5, c5, rfl, ⟨l5, k5, f5⟩, q, c, w10, hr, ⟨l10, k10, f10⟩, hEx⟩ := write_mem D3.out hz hz0 hz1 hq S34h.out hown4h.out hxlh.out hF; replace hEx := hid hEx; simp only [DM.cells, DM.sv, DM.wv, DM.fv] at k5 k10; clear hF))
  all_goals
    obtain ⟨y, K1, hy, Dw, Sw, hK1⟩ := hEx.out
    have KCt := hid (count_any (G := fun m1 w1 w' => G K1 m1 w1 w') (m.after.wrote z y q c) b K1 _ Dw (fun w1 D1 => KGh.out y q c w1 K1 D1))
    have E := hid (And.intro hy (And.intro (S3.out.trans Sw) hK1))
    have hsz := hid S3.out.size
    clear hEx Dw Sw hK1 hy hr l5 k5 f5 l10 k10 f10 l4 k4 f4
    go_wp2_with fail
    refine KCt.out.mono ?_
    rintro e w9 ⟨rfl, w8, D8, S8, hG⟩
    have E2 := hid (show ∃ y q c w1 K1, y.l = x.l ∧ DiskM w1 b (m.after.wrote z y q c).counted K1 ∧ Sole K w w1 ∧ (∀ k, K1 k → K k ∨ w.heap.size ≤ k) ∧ G K1 (m.after.wrote z y q c).counted w1 w9 from
      ⟨y, q, c, w8, K1, E.out.1, D8, E.out.2.1.trans' S8 (fun k hk e => (E.out.2.2 k e).resolve_right (by have := hsz.out; omega)), fun k e => (E.out.2.2 k e).imp id (fun h => Nat.le_trans hsz.out h), hG⟩)
    clear D8 S8 hG KCt E
    go_wp2_with fail
    go_ret
    exact ⟨rfl, E2.out⟩
end Go.Proofs.Ytcklmemnjchdcaa

/-
  Package disk: goAtZero where nothing is told, Power.
-/

namespace Go.Proofs.Ytcklmemnjchdcaa
open Go.RowKit Go.Maps
set_option linter.unusedVariables false
set_option linter.unusedSimpArgs false

set_option maxRecDepth 100000 in
theorem goz_off (m : DM) (b : Nat) (w : World) (B : Blk w b m.cells) (h : m.tl = false) : Calls Try.prog 48 #[.pointer (some ⟨b, 0, none⟩)] w fun e w' => e = .returned (.tuple #[]) ∧ w' = w := by
  simp only [DM.cells, DM.sv, DM.wv, DM.fv, h] at B
  obtain ⟨l0, k0, f0⟩ := B
  go_enter Try.func48, Try.ntmps48
  go_wp2_with fail
  refine bodyPost_end (results_none rfl _ _ _) rfl ?_
  exact ⟨rfl, rfl⟩

/-- The power is on again. -/
def DM.reset (m : DM) : DM := { m with off := false, tl := false, cl := 0, fp := none, fc := 0, Fs := [], tf := false, fl := 0 }
theorem base_reset {m : DM} {b g : Nat} (h : m.reset.base b g) : m.base b g := by
  rcases h with h | h | h | h | h | h
  · exact .inl h
  · exact .inr (.inl h)
  · exact .inr (.inr (.inl h))
  · exact .inr (.inr (.inr (.inl h)))
  · exact .inr (.inr (.inr (.inr (.inl h))))
  · cases h
theorem DiskM.reset {w w' : World} {b : Nat} {m : DM} {K : Nat → Prop} (h : DiskM w b m K) (hs : Sole (fun k => k = b) w w') (hB : Blk w' b m.reset.cells) : DiskM w' b m.reset K := by
  have hx : ∀ x : OcS, x.soft w ∧ x.full K m b → x.soft w' ∧ x.full K m.reset b := fun x ⟨ht, g, e, kg, hg, r⟩ => ⟨so_sole ht hs fun b' o e' => by rw [e] at e'; cases e'; exact fun h' => hg (.inl h'), g, e, kg, fun h' => hg (base_reset h'), r⟩
  exact
  { blk := hB
    apart := ⟨h.apart.bl, h.apart.bo, h.apart.lo, fun k e => ⟨(h.apart.s k e).1, (h.apart.s k e).2.1, (h.apart.s k e).2.2.1, (h.apart.s k e).2.2.2.1, nofun⟩, fun k e => ⟨(h.apart.w k e).1, (h.apart.w k e).2.1, (h.apart.w k e).2.2.1, nofun⟩, nofun⟩
    kk := fun k hk => h.kk k (base_reset hk)
    klt := fun k hk => Nat.lt_of_lt_of_le (h.klt k hk) hs.size
    S := h.S.sole hs fun k e h' => (h.apart.s k e).1 h'
    SO := fun x hx' => hx x (h.SO x hx')
    Q := h.Q.sole hs fun k e h' => (h.apart.w k e).1 h'
    QO := fun y hy => ⟨hx _ (h.QO y hy).1, (h.QO y hy).2⟩
    F := RowOwn.nil _ _
    L := map_sole h.L hs fun h' => h.apart.bl h'.symm
    O := map_sole h.O hs fun h' => h.apart.bo h'.symm
    last := h.last
    lenS := h.lenS
    cwf := rfl
    fwf := rfl
    uniq := ⟨h.uniq.s, h.uniq.q, h.uniq.sq⟩ }

end Go.Proofs.Ytcklmemnjchdcaa

/-
  Package disk: fated: what waits, in order, each with its fate.
-/















namespace Go.Proofs.Ytcklmemnjchdcaa
open Go.RowKit Go.Shelf
set_option linter.unusedVariables false
set_option linter.unusedSimpArgs false

attribute [local go_sem] Oper.semAt_some

theorem dgrown_of {w w' : World} (h : Below w.heap.size w w') : w.grownBy w' none := ⟨h.os, h.tape, h.output, h.size, fun k hk _ => h.block k hk⟩
/-- The first k of N. -/
def fk (N k : Nat) : List (Fin N) := (List.finRange N).take k
theorem fk_len (N k : Nat) (h : k ≤ N) : (fk N k).length = k := by simp [fk]; omega
theorem fk_succ (N k : Nat) (h : k < N) : fk N (k + 1) = fk N k ++ [⟨k, h⟩] := by
  unfold fk
  rw [List.take_add_one]
  simp [h]
theorem RowP.sole' {S : Nat → Prop} {w w' : World} {p : Option Addr} {sz n : Nat} {f : Nat → List Value} (h : RowP w p sz n f) (hs : Sole S w w') (hn : ∀ b o, p = some ⟨b, o, none⟩ → ¬ S b) : RowP w' p sz n f :=
  h.imp id fun ⟨b, o, e, r⟩ => ⟨b, o, e, Nat.lt_of_lt_of_le r.lt hs.size, fun i hi j v hv => (hs.cell r.lt (hn b o e)).trans (r.cell i hi j v hv)⟩
def wVal (y : WtS) : Value := .agg #[.int .i64 y.at_, .slice y.x.a y.x.l.length y.x.cap]

set_option maxRecDepth 100000 in
theorem fated_any (q : Option Addr) (a : Option Addr) (len cap : Nat) (w : World) :
    Calls Try.prog 82 #[.pointer q, .slice a len cap] w fun e w' => e = .returned (.func (.func 96) #[] #[.pointer (some ⟨w.heap.size, 0, none⟩), .pointer (some ⟨w.heap.size + 1, 0, none⟩)]) ∧ w' = (w.alloc (.cells #[.pointer q] 26)).alloc (.cells #[.slice a len cap] 35) := by
  go_enter Try.func82, Try.ntmps82
  go_wp2
  go_ret
  exact ⟨by simp, rfl⟩

set_option maxRecDepth 100000 in
set_option maxHeartbeats 4000000 in
theorem fated1_in (fr : Nat) (hn : 1 ≤ fr) (l Bd Bf b : Nat) (wp fp : Option Addr) (wc fc : Nat) (Qs : List WtS) (Fs : List Int) (N : Nat) (hN : N = min Qs.length Fs.length) (hl1 : Qs.length ≤ maxLen) (hl2 : Fs.length ≤ maxLen) (T : Nat → Prop) (J Jx : List (Fin N) → World → Prop) (W : World) (hJ : AbidesFrom W.heap.size J)
    (hY : ∀ pre (x : Fin N) W1, J pre W1 → pre.length < N → YieldAt Fence.wide (fr - 1) Try.prog l #[wVal (atR wtT Qs x.val), .int .i64 (atR fatT Fs x.val)] W1 fun e W' => (e = .returned (.bool true) ∧ J (pre ++ [x]) W' ∧ Sole T W1 W') ∨ (e = .returned (.bool false) ∧ Jx (pre ++ [x]) W'))
    (hd : W.cell? ⟨Bd, 0, none⟩ = some (.pointer (some ⟨b, 0, none⟩))) (hw : W.cell? ⟨b, 3, none⟩ = some (.slice wp Qs.length wc)) (hf : W.cell? ⟨Bf, 0, none⟩ = some (.slice fp Fs.length fc)) (hTf : ¬ T Bf) (hBf : Bf < W.heap.size)
    (RQ : RowP W wp 2 Qs.length (fun i => [.int .i64 (atR wtT Qs i).at_, .slice (atR wtT Qs i).x.a (atR wtT Qs i).x.l.length (atR wtT Qs i).x.cap])) (hTQ : ∀ b o, wp = some ⟨b, o, none⟩ → Qs.length ≠ 0 → ¬ T b)
    (RF : RowP W fp 1 Fs.length (fun i => [.int .i64 (atR fatT Fs i)])) (hTF : ∀ b o, fp = some ⟨b, o, none⟩ → Fs.length ≠ 0 → ¬ T b) (h0 : J [] W) :
    CallsIn Fence.wide fr Try.prog 96 #[.func (.yield l) #[] #[], .pointer (some ⟨Bd, 0, none⟩), .pointer (some ⟨Bf, 0, none⟩)] W fun e W' => (∃ v, e = .returned v) ∧
      ((∃ ys, ys = fk N N ∧ J ys W') ∨ (∃ pre, (∃ k, k ≤ N ∧ pre = fk N k) ∧ Jx pre W')) := by
  have hro : Fence.wide.round = none := rfl
  replace hl1 := hid hl1
  replace hl2 := hid hl2
  replace RQ := hid RQ
  replace RF := hid RF
  refine callsIn_of_wp Try.func96 rfl trivial ?_ hro
  simp only [Try.ntmps96, List.size_toArray, List.length_cons, List.length_nil, Nat.reduceAdd, Nat.reduceSub, Array.replicate_succ, Array.replicate_zero, List.push_toArray, List.append_toArray, List.nil_append, List.cons_append]
  gi_wp2
  gi_loopw [11] (fun i wr => ∃ k : Nat, k ≤ N ∧ i = .int .i64 k ∧ J (fk N k) wr ∧ Sole T W wr)
    (fun i _ => Qs.length - (intOf i).toNat)
  case atStart => exact ⟨0, Nat.zero_le _, rfl, h0, Sole.refl _ _⟩
  case round =>
    obtain ⟨k, hk, rfl, hJs, hs⟩ := hrel
    by_cases hlt : k < Qs.length
    · have hlt' : (k : Int) < (Qs.length : Int) := by omega
      have RQ' : RowP wr wp 2 Qs.length _ := RQ.out.imp id fun ⟨b', o, e, r⟩ => ⟨b', o, e, Nat.lt_of_lt_of_le r.lt hs.size, fun i hi j v hv => (hs.cell r.lt (hTQ b' o e (by omega))).trans (r.cell i hi j v hv)⟩
      obtain ⟨bq, oq, rfl, rq⟩ := RQ'.row (by omega)
      have z0 : wr.cell? ⟨bq, oq + k * 2, none⟩ = some (.int .i64 (atR wtT Qs k).at_) := rq.at0 hlt rfl
      have z1 : wr.cell? ⟨bq, oq + k * 2 + 1, none⟩ = some (.slice (atR wtT Qs k).x.a (atR wtT Qs k).x.l.length (atR wtT Qs k).x.cap) := rq.at1 hlt rfl
      have hBw := hs.size
      have hl63 : (Qs.length : Int) ≤ 9223372036854775807 := by have := hl1.out; unfold maxLen at this; omega
      have HB := Blk.new wr #[.int .i64 (atR wtT Qs k).at_, .slice (atR wtT Qs k).x.a (atR wtT Qs k).x.l.length (atR wtT Qs k).x.cap] 103
      have hb1 : Below wr.heap.size wr (wr.alloc (.cells #[.int .i64 (atR wtT Qs k).at_, .slice (atR wtT Qs k).x.a (atR wtT Qs k).x.l.length (atR wtT Qs k).x.cap] 103)) := (Below.refl _ _).alloc (Nat.le_refl _) _
      have a0 : ∀ u : Later (wr.alloc (.cells #[.int .i64 (atR wtT Qs k).at_, .slice (atR wtT Qs k).x.a (atR wtT Qs k).x.l.length (atR wtT Qs k).x.cap] 103)), u.val.cell? ⟨Bf, 0, none⟩ = some (.slice fp Fs.length fc) := fun u =>
        (u.cell Bf 0 (Nat.lt_of_lt_of_le (Nat.lt_of_lt_of_le hBf hBw) hb1.size)).trans ((hb1.cell (p := ⟨Bf, 0, none⟩) (Nat.lt_of_lt_of_le hBf hBw)).trans ((hs.cell hBf hTf).trans hf))
      by_cases hfl : k < Fs.length
      · have hkN : k < N := by omega
        have RF' : RowP wr fp 1 Fs.length _ := RF.out.imp id fun ⟨b', o, e, r⟩ => ⟨b', o, e, Nat.lt_of_lt_of_le r.lt hs.size, fun i hi j v hv => (hs.cell r.lt (hTF b' o e (by omega))).trans (r.cell i hi j v hv)⟩
        obtain ⟨bf, of, rfl, rf⟩ := RF'.row (by omega)
        have y0 : wr.cell? ⟨bf, of + k * 1, none⟩ = some (.int .i64 (atR fatT Fs k)) := rf.at0 hfl rfl
        rw [Nat.mul_one] at y0
        have a1 : ∀ u : Later (wr.alloc (.cells #[.int .i64 (atR wtT Qs k).at_, .slice (atR wtT Qs k).x.a (atR wtT Qs k).x.l.length (atR wtT Qs k).x.cap] 103)), u.val.cell? ⟨bf, of + k, none⟩ = some (.int .i64 (atR fatT Fs k)) := fun u =>
          (u.cell bf (of + k) (by have := hb1.size; have := rf.lt; omega)).trans ((hb1.cell (p := ⟨bf, of + k, none⟩) rf.lt).trans y0)
        have hne : ((k : Int) == (Fs.length : Int)) = false := by simp; omega
        have hfl' : (k : Int) < (Fs.length : Int) := by omega
        have HJ := hid hJs
        have HH1 := hid hb1
        have HY := hid hY
        have HS := hid hs
        clear hJs hb1 hY hs y0 rf rq RQ RF RQ' RF'
        gi_wp2
        generalize hW1 : wr.alloc (.cells #[.int .i64 (atR wtT Qs k).at_, .slice (atR wtT Qs k).x.a (atR wtT Qs k).x.l.length (atR wtT Qs k).x.cap] 103) = W1 at *
        have q0 := fun u : Later W1 => u.blk HB
        refine wpIn_region_late 11 (by kernel_rfl) (by kernel_rfl) ?_
        simp only [List.take_succ_cons, List.take_zero, List.drop_succ_cons, List.drop_zero]
        iterate 11 (go_big_quiet_step (fail))
        refine wpQuiet_nil ?_
        intro w7 h7'
        have h7 := late_out h7'
        clear h7' q0 a0 a1
        have hbb : Below wr.heap.size wr w7 := HH1.out.trans (h7.mono HH1.out.size)
        have hJ7 : J (fk N k) w7 := hJ _ _ _ none HJ.out (dgrown_of hbb) (by simp)
        obtain ⟨fn, tmps, assign, body, hy, hRd⟩ := HY.out _ ⟨k, hkN⟩ w7 hJ7 (by rw [fk_len N k hk]; exact hkN)
        dsimp only [wVal] at hy
        gi_wp2
        refine hRd.mono ?_
        rintro e W3 (⟨rfl, hJ3, hk3⟩ | ⟨rfl, hJx3⟩)
        · have hs3 : Sole T W W3 := (HS.out.trans (Sole.made hbb)).trans hk3
          gi_wp2
          go_roundw
          case rel => exact ⟨k + 1, by omega, by simp, by rw [fk_succ N k hkN]; exact hJ3, hs3⟩
          case measure => simp [intOf]; omega
        · gi_wp2
          refine bodyPost_ret (results_none rfl _ _ _) rfl ?_
          exact ⟨⟨_, rfl⟩, .inr ⟨_, ⟨k + 1, by omega, (fk_succ N k hkN).symm⟩, hJx3⟩⟩
      · have hkf : k = Fs.length := by omega
        have hkN : k = N := by omega
        have heq : ((k : Int) == (Fs.length : Int)) = true := by simp; omega
        have HJ := hid hJs
        have HH1 := hid hb1
        clear hJs hb1 hY hs rq RQ RF RQ'
        have hkN' := hid hkN
        clear hkf hkN hN hfl
        gi_wp2
        generalize hW1 : wr.alloc (.cells #[.int .i64 (atR wtT Qs k).at_, .slice (atR wtT Qs k).x.a (atR wtT Qs k).x.l.length (atR wtT Qs k).x.cap] 103) = W1 at *
        have q0 := fun u : Later W1 => u.blk HB
        refine wpIn_region_late 11 (by kernel_rfl) (by kernel_rfl) ?_
        simp only [List.take_succ_cons, List.take_zero, List.drop_succ_cons, List.drop_zero]
        iterate 11 (go_big_quiet_step (fail))
        refine wpQuiet_nil ?_
        intro w7 h7'
        have h7 := late_out h7'
        clear h7' q0 a0
        have hbb : Below wr.heap.size wr w7 := HH1.out.trans (h7.mono HH1.out.size)
        have hJ7 : J (fk N k) w7 := hJ _ _ _ none HJ.out (dgrown_of hbb) (by simp)
        gi_wp2
        refine ⟨fun _ h => (by cases h), ?_⟩
        gi_wp2
        refine bodyPost_ret (results_none rfl _ _ _) rfl ?_
        refine ⟨⟨_, rfl⟩, .inl ⟨_, rfl, ?_⟩⟩
        have := hkN'.out
        subst this
        exact hJ7
    · obtain rfl : k = Qs.length := by omega
      have hNk : Qs.length = N := by omega
      rw [hNk] at hJs
      have hJs' := hid hJs
      have hlt' : ¬ ((Qs.length : Int) < (Qs.length : Int)) := by omega
      clear hJs hNk hN hlt
      gi_wp2
      go_end0
      first | exact ⟨⟨_, rfl⟩, .inl hJs'.out⟩ | exact .inl hJs'.out
end Go.Proofs.Ytcklmemnjchdcaa

/-
  Package disk: settle, where nothing has a fate.
-/

namespace Go.Proofs.Ytcklmemnjchdcaa
open Go.RowKit Go.Shelf
set_option linter.unusedVariables false
set_option linter.unusedSimpArgs false

attribute [local go_sem] Oper.semAt_some

/-- All that waits may come, each with its fate. -/
theorem fated_stops (fr : Nat) (hn : 1 ≤ fr) (Bd Bf b : Nat) (wp fp : Option Addr) (wc fc : Nat) (Qs : List WtS) (Fs : List Int) (N : Nat) (hN : N = min Qs.length Fs.length) (hl1 : Qs.length ≤ maxLen) (hl2 : Fs.length ≤ maxLen) (T : Nat → Prop) (w : World)
    (hd : w.cell? ⟨Bd, 0, none⟩ = some (.pointer (some ⟨b, 0, none⟩))) (hw : w.cell? ⟨b, 3, none⟩ = some (.slice wp Qs.length wc)) (hf : w.cell? ⟨Bf, 0, none⟩ = some (.slice fp Fs.length fc)) (hTf : ¬ T Bf) (hBf : Bf < w.heap.size) (hBd : Bd < w.heap.size) (hb : b < w.heap.size)
    (RQ : RowP w wp 2 Qs.length (fun i => [.int .i64 (atR wtT Qs i).at_, .slice (atR wtT Qs i).x.a (atR wtT Qs i).x.l.length (atR wtT Qs i).x.cap])) (hTQ : ∀ b o, wp = some ⟨b, o, none⟩ → Qs.length ≠ 0 → ¬ T b)
    (RF : RowP w fp 1 Fs.length (fun i => [.int .i64 (atR fatT Fs i)])) (hTF : ∀ b o, fp = some ⟨b, o, none⟩ → Fs.length ≠ 0 → ¬ T b) :
    SeqStopsK Fence.wide fr Try.prog 96 #[.pointer (some ⟨Bd, 0, none⟩), .pointer (some ⟨Bf, 0, none⟩)] (fun i : Fin N => #[wVal (atR wtT Qs i.val), .int .i64 (atR fatT Fs i.val)]) (Sole T) (fun ys => ys = fk N N) (fun pre => ∃ k, k ≤ N ∧ pre = fk N k) N w := fun l J Jx W hW hJ _ hY h0 =>
  fated1_in fr hn l Bd Bf b wp fp wc fc Qs Fs N hN hl1 hl2 T J Jx W hJ hY ((hW.cell (p := ⟨Bd, 0, none⟩) hBd).trans hd) ((hW.cell (p := ⟨b, 3, none⟩) hb).trans hw) ((hW.cell (p := ⟨Bf, 0, none⟩) hBf).trans hf) hTf (Nat.lt_of_lt_of_le hBf hW.size) (RQ.more hW) hTQ (RF.more hW) hTF h0

set_option maxRecDepth 100000 in
set_option maxHeartbeats 4000000 in
theorem settle_none_in (m : DM) (b : Nat) (K : Nat → Prop) (w : World) (D : DiskM w b m K) (fp : Option Addr) (fc : Nat) (Fs : List Int) (RF : RowOf fatT w fp Fs) (hl2 : Fs.length ≤ maxLen) (h0 : min m.Qs.length Fs.length = 0) :
    CallsIn Fence.wide 5 Try.prog 68 #[.pointer (some ⟨b, 0, none⟩), .slice fp Fs.length fc] w fun e w' => e = .returned (.tuple #[]) ∧ DiskM w' b m.clean K ∧ Sole K w w' := by
  have hro : Fence.wide.round = none := rfl
  have b1 : Below w.heap.size w (((w.alloc (.cells #[.pointer (some ⟨b, 0, none⟩)] 26)).alloc (.cells #[.pointer (some ⟨b, 0, none⟩)] 26)).alloc (.cells #[.slice fp Fs.length fc] 35)) := (((Below.refl _ _).alloc (Nat.le_refl _) _).alloc (by simp) _).alloc (by simp; omega) _
  have c0 : (((w.alloc (.cells #[.pointer (some ⟨b, 0, none⟩)] 26)).alloc (.cells #[.pointer (some ⟨b, 0, none⟩)] 26)).alloc (.cells #[.slice fp Fs.length fc] 35)).cell? ⟨w.heap.size, 0, none⟩ = some (.pointer (some ⟨b, 0, none⟩)) :=
    (((Blk.new w #[.pointer (some ⟨b, 0, none⟩)] 26).alloc _).alloc _).cell 0
  have c1 : (((w.alloc (.cells #[.pointer (some ⟨b, 0, none⟩)] 26)).alloc (.cells #[.pointer (some ⟨b, 0, none⟩)] 26)).alloc (.cells #[.slice fp Fs.length fc] 35)).cell? ⟨w.heap.size + 1, 0, none⟩ = some (.pointer (some ⟨b, 0, none⟩)) := by
    have := ((Blk.new (w.alloc (.cells #[.pointer (some ⟨b, 0, none⟩)] 26)) #[.pointer (some ⟨b, 0, none⟩)] 26).alloc (.cells #[.slice fp Fs.length fc] 35)).cell 0
    rw [World.size_alloc] at this
    exact this
  have c2 : (((w.alloc (.cells #[.pointer (some ⟨b, 0, none⟩)] 26)).alloc (.cells #[.pointer (some ⟨b, 0, none⟩)] 26)).alloc (.cells #[.slice fp Fs.length fc] 35)).cell? ⟨w.heap.size + 1 + 1, 0, none⟩ = some (.slice fp Fs.length fc) := by
    have := (Blk.new ((w.alloc (.cells #[.pointer (some ⟨b, 0, none⟩)] 26)).alloc (.cells #[.pointer (some ⟨b, 0, none⟩)] 26)) #[.slice fp Fs.length fc] 35).cell 0
    rw [World.size_alloc, World.size_alloc] at this
    exact this
  have s3 : (((w.alloc (.cells #[.pointer (some ⟨b, 0, none⟩)] 26)).alloc (.cells #[.pointer (some ⟨b, 0, none⟩)] 26)).alloc (.cells #[.slice fp Fs.length fc] 35)).heap.size = w.heap.size + 3 := by simp
  have hbl := D.blk.lt
  have klt := hid D.klt
  refine callsIn_of_wp_marks Try.func68 rfl trivial ?_ hro
  simp only [Try.ntmps68, List.size_toArray, List.length_cons, List.length_nil, Nat.reduceAdd, Nat.reduceSub, Array.replicate_succ, Array.replicate_zero, List.push_toArray, List.append_toArray, List.nil_append, List.cons_append]
  gi_wp2_with (refine ⟨trivial, ?_⟩; gi_at_call 82; refine (callsIn_wide.2 (fated_any _ _ _ _ _)).mono ?_; rintro e w' ⟨rfl, rfl⟩)
  generalize ((w.alloc (.cells #[.pointer (some ⟨b, 0, none⟩)] 26)).alloc (.cells #[.pointer (some ⟨b, 0, none⟩)] 26)).alloc (.cells #[.slice fp Fs.length fc] 35) = W3 at *
  have D3 := hid (D.more b1)
  obtain ⟨p8, c8, hv8, _, hq2, R8⟩ := D3.out.Q.open wtOk
  have e8 : m.wp = p8 ∧ m.wc = c8 := by simpa [DM.wv] using hv8
  have hR8 : RowP W3 m.wp 2 m.Qs.length (fun i => [.int .i64 (atR wtT m.Qs i).at_, .slice (atR wtT m.Qs i).x.a (atR wtT m.Qs i).x.l.length (atR wtT m.Qs i).x.cap]) := by rw [e8.1]; exact R8
  have hw3 : W3.cell? ⟨b, 3, none⟩ = some (.slice m.wp m.Qs.length m.wc) := D3.out.blk.cell 3
  have hqR : ∀ b' o, m.wp = some ⟨b', o, none⟩ → m.Qs.length ≠ 0 → b' < W3.heap.size := fun b' o e hne => by
    obtain ⟨b2, o2, e2, r2⟩ := hR8.row hne
    rw [e] at e2; cases e2; exact r2.lt
  have hfR : ∀ b' o, fp = some ⟨b', o, none⟩ → Fs.length ≠ 0 → b' < W3.heap.size := fun b' o e hne => by
    obtain ⟨b2, o2, e2, r2⟩ := (RF.more b1).row hne
    rw [e] at e2; cases e2; exact r2.lt
  refine wpIn_rangeFunc_ownH hro (by omega) (gf := 96) (lb := #[.pointer (some ⟨w.heap.size + 1, 0, none⟩), .pointer (some ⟨w.heap.size + 1 + 1, 0, none⟩)]) rfl trivial (enters_of Try.func96 (by kernel_rfl) rfl)
    (fated_stops (5 - 1) (by omega) (w.heap.size + 1) (w.heap.size + 1 + 1) b m.wp fp m.wc fc m.Qs Fs 0 h0.symm (Nat.le_trans (by have := D3.out.Q.open wtOk; obtain ⟨_, _, _, h1, h2, _⟩ := this; omega) (Nat.le_refl maxLen)) hl2 (fun k => W3.heap.size ≤ k) W3 c1 hw3 c2 (by omega) (by omega) (by omega) (by omega) hR8 (fun b' o e hne => by have := hqR b' o e hne; omega) (RF.more b1) (fun b' o e hne => by have := hfR b' o e hne; omega))
    (fun h k => Sole.trans h k) (fun W l o o' hl h hc hw => Sole.grown (grownBy_putObj' W l o') (fun k e => by cases e; exact hl)) (Below.refl _ _) (fun _ => rfl)
    (fun pre W => Below W3.heap.size W3 W)
    (fun _ _ _ => False)
    (ownFrom_below (Nat.le_refl _) (Nat.le_refl _))
    (fun cd => fun _ _ _ _ h _ _ => h)
    (Below.refl _ _)
    (fun i a' W => True)
    ?hAx ?assign ?body ?done ?stop
  case hAx => exact fun _ _ _ _ _ _ _ _ _ => trivial
  case assign => exact fun l pre x => x.elim0
  case body => exact fun l pre x => x.elim0
  case done =>
    rintro Db zs W hD rfl hI hK
    have hcl := (hI.cell (p := ⟨w.heap.size, 0, none⟩) (show w.heap.size < W3.heap.size by omega)).trans c0
    have KF := hid (forget_any m b K W (D3.out.more hI))
    have HI := hid hI
    have HK := hid hK
    clear hI hK
    gi_wp2_with (refine ⟨trivial, ?_⟩; gi_at_call 33; refine (callsIn_wide.2 KF.out).mono ?_; rintro e w' ⟨rfl, D', S'⟩)
    rename World => w9
    have S' : Sole K W w9 := S'.mono fun k _ e => e.elim (fun e => e ▸ D3.out.kk _ (.inl rfl)) (fun e => e ▸ D3.out.kk _ (.inr (.inl rfl)))
    have hDn : ¬ K Db := fun hk => by have := klt.out Db hk; omega
    have hlt : Db < W.heap.size := (Array.getElem?_eq_some_iff.1 HK.out).1
    have hK' : w9.heap[Db]? = some (.deferred (some [])) := (S'.block Db hlt hDn).trans HK.out
    refine ⟨by simp, .inl ⟨_, _, rfl, run_takeDeferred hK', ?_⟩⟩
    have Sd : Sole (fun k => k = Db) w9 (w9.putObj Db (.deferred none)) := Sole.grown (grownBy_putObj' w9 Db _) (fun k e => by cases e; rfl)
    have S1 : Sole K w w9 := ((Sole.made b1).trans (Sole.made HI.out)).trans S'
    exact ⟨.tuple #[], results_none rfl _ _ _, rfl, D'.kept Sd (fun k hk e => hDn (e ▸ hk)), S1.trans' Sd fun k hk e => by omega⟩
  case stop =>
    rintro Db cd pre W hD hpre hf hK
    exact hf.elim
end Go.Proofs.Ytcklmemnjchdcaa

/-
  Package disk: what becoming sure leaves.
-/

namespace Go.Proofs.Ytcklmemnjchdcaa
open Go.RowKit Go.Maps
set_option linter.unusedVariables false
set_option linter.unusedSimpArgs false

def DM.became (m : DM) (i : Nat) (x : OcS) (DO : DataW Unit) (n' : Nat) : DM := { m with Ls := m.Ls.set i x, DO := DO, n' := n' }
theorem became_sv (m : DM) (i : Nat) (x : OcS) (DO : DataW Unit) (n' : Nat) : (m.became i x DO n').sv = m.sv := by simp [DM.sv, DM.became]
theorem became_cells (m : DM) (i : Nat) (x : OcS) (DO : DataW Unit) (n' : Nat) : (m.became i x DO n').cells = m.cells := by
  simp [DM.cells, DM.became, DM.sv]
theorem became_base {m : DM} {i : Nat} {x : OcS} {DO : DataW Unit} {n' b k : Nat} : (m.became i x DO n').base b k ↔ m.base b k := by
  unfold DM.base
  rw [became_sv]
  exact Iff.rfl
theorem nodup_set {α : Type} {l : List α} (h : l.Nodup) (i : Nat) (x : α) (hx : ∀ j (hj : j < l.length), j ≠ i → l[j] ≠ x) : (l.set i x).Nodup := by
  unfold List.Nodup at h ⊢
  rw [List.pairwise_iff_getElem] at h ⊢
  intro a c ha hc hac
  rw [List.length_set] at ha hc
  rw [List.getElem_set, List.getElem_set]
  split
  · split
    · omega
    · rename_i h1 h2
      exact fun e => hx c hc (fun e' => h2 e'.symm) e.symm
  · split
    · rename_i h1 h2
      exact hx a ha (fun e' => h1 e'.symm)
    · exact h a c ha hc hac
theorem DiskM.became {w w1 w3 : World} {b : Nat} {m : DM} {K : Nat → Prop} (h : DiskM w b m K) {i : Nat} (hi : i < m.Ls.length) {x : OcS} {DO : DataW Unit} {n' : Nat} (b01 : Below w.heap.size w w1) (hx : x.soft w1) (hxl : x.l.length = 256)
    (hnow : (∃ j, j < m.Qs.length ∧ x = (atR wtT m.Qs j).x ∧ (atR wtT m.Qs j).at_ = (i : Int)) ∨ (∃ g, x.a = some ⟨g, 0, none⟩ ∧ w.heap.size ≤ g ∧ g < w1.heap.size))
    (S13 : Sole (fun k => m.sv.ownBlock = some k ∨ k = m.om) w1 w3) (hS : RowOwn ocT w3 0 m.sv (m.Ls.set i x)) (hO : w3.ownsMap Try.prog 3 unitElem m.om n' DO) :
    DiskM w3 b (m.became i x DO n') (fun k => K k ∨ (w.heap.size ≤ k ∧ k < w1.heap.size)) := by
  have s01 := b01.size
  have s13 := S13.size
  have hbl : ∀ k, m.base b k → k < w.heap.size := fun k e => h.klt k (h.kk k e)
  have hT : ∀ k, (m.sv.ownBlock = some k ∨ k = m.om) → m.base b k := fun k e => e.elim (fun e => .inr (.inr (.inr (.inl e)))) (fun e => .inr (.inr (.inl e)))
  have D1 := h.more b01
  have ht3 : ∀ y : OcS, y.soft w1 → y.full K m b → y.soft w3 ∧ y.full (fun k => K k ∨ (w.heap.size ≤ k ∧ k < w1.heap.size)) (m.became i x DO n') b := fun y hy ⟨g, e, kg, hg, r⟩ =>
    ⟨so_sole hy S13 fun b' o e' => by rw [e] at e'; cases e'; exact fun h' => hg (hT _ h'), g, e, .inl kg, fun hb => hg (became_base.1 hb), r⟩
  have hfr : ∀ y : OcS, y.full K m b → ∀ g, x.a = some ⟨g, 0, none⟩ → w.heap.size ≤ g → y.a ≠ x.a := fun y ⟨g', e, kg, _⟩ g hg hge e' => by
    rw [e, hg] at e'; cases e'
    have := h.klt _ kg; omega
  have hx3 : x.soft w3 ∧ x.full (fun k => K k ∨ (w.heap.size ≤ k ∧ k < w1.heap.size)) (m.became i x DO n') b := by
    rcases hnow with ⟨j, hj, rfl, hat⟩ | ⟨g, e, h1, h2⟩
    · exact ht3 _ hx (h.QO _ (atR_mem m.Qs j hj)).1.2
    · refine ⟨so_sole hx S13 fun b' o e' => by rw [e] at e'; cases e'; exact fun h' => by have := hbl _ (hT _ h'); omega, g, e, .inr ⟨h1, h2⟩, fun hb => ?_, hxl⟩
      have := hbl g (became_base.1 hb); omega
  exact
  { blk := by rw [became_cells]; exact D1.blk.sole S13 (by rintro (e | e); exact (h.apart.s b e).1 rfl; exact h.apart.bo e)
    apart := ⟨h.apart.bl, h.apart.bo, h.apart.lo, by rw [became_sv]; exact h.apart.s, h.apart.w, h.apart.f⟩
    kk := fun k hk => .inl (h.kk k (became_base.1 hk))
    klt := fun k hk => by
      rcases hk with r | r
      · have := h.klt k r; omega
      · omega
    S := by rw [became_sv]; exact hS
    SO := fun y hy => by
      rcases List.mem_or_eq_of_mem_set hy with r | rfl
      · exact ht3 y (D1.SO y r).1 (h.SO y r).2
      · exact hx3
    Q := D1.Q.sole S13 fun k e => by
      rintro (r | r)
      · exact (h.apart.s k r).2.2.2.1 e
      · exact (h.apart.w k e).2.2.1 r
    QO := fun y hy => ⟨ht3 _ (D1.QO y hy).1.1 (h.QO y hy).1.2, (h.QO y hy).2.1, by
      show y.at_ < ((m.Ls.set i x).length : Int)
      rw [List.length_set]
      exact (h.QO y hy).2.2⟩
    F := D1.F.sole S13 fun k e => by
      rintro (r | r)
      · exact (h.apart.s k r).2.2.2.2 e
      · exact (h.apart.f k e).2.2 r
    L := map_sole D1.L S13 (by
      rintro (r | r)
      · exact (h.apart.s _ r).2.1 rfl
      · exact h.apart.lo r)
    O := hO
    last := h.last
    lenS := by show (m.Ls.set i x).length ≤ 4096; rw [List.length_set]; exact h.lenS
    cwf := h.cwf
    fwf := h.fwf
    uniq := by
      refine ⟨?_, h.uniq.q, fun s j hs hj e => ?_⟩
      · show ((m.Ls.set i x).map OcS.a).Nodup
        rw [List.map_set]
        refine nodup_set h.uniq.s i _ fun j hj hne => ?_
        rw [List.length_map] at hj
        rw [List.getElem_map]
        rcases hnow with ⟨j', hj', rfl, hat⟩ | ⟨g, e, h1, h2⟩
        · intro e'
          have := h.uniq.sq j j' hj hj' (by rw [ocA_eq m.Ls j hj]; exact e')
          omega
        · exact hfr _ (h.SO _ (List.getElem_mem hj)).2 g e h1
      · have hs' : s < m.Ls.length := by have : s < (m.Ls.set i x).length := hs; rwa [List.length_set] at this
        have e2 : (ocA (m.Ls.set i x) s).a = (atR wtT m.Qs j).x.a := e
        rw [ocA_eq _ s (by rw [List.length_set]; exact hs'), List.getElem_set] at e2
        split at e2
        · rename_i his
          subst his
          rcases hnow with ⟨j', hj', rfl, hat⟩ | ⟨g, ex, h1, h2⟩
          · have hjj : j' = j := by
              have hq := h.uniq.q
              unfold List.Nodup at hq
              rw [List.pairwise_iff_getElem] at hq
              rw [atR_eq m.Qs j' hj', atR_eq m.Qs j hj] at e2
              rcases Nat.lt_trichotomy j' j with h1 | h1 | h1
              · exact absurd (by rw [List.getElem_map, List.getElem_map]; exact e2) (hq j' j (by rw [List.length_map]; exact hj') (by rw [List.length_map]; exact hj) h1)
              · exact h1
              · exact absurd (by rw [List.getElem_map, List.getElem_map]; exact e2.symm) (hq j j' (by rw [List.length_map]; exact hj) (by rw [List.length_map]; exact hj') h1)
            subst hjj
            exact hat.symm
          · exact absurd e2.symm (hfr _ (h.QO _ (atR_mem m.Qs j hj)).1.2 g ex h1)
        · rw [← ocA_eq m.Ls s hs'] at e2
          exact h.uniq.sq s j hs' hj e2 }
end Go.Proofs.Ytcklmemnjchdcaa

/-
  Package disk: become, from where it is known what a sector becomes. (Written by wip/tools/genbecome.py.)
-/




namespace Go.Proofs.Ytcklmemnjchdcaa
open Go.RowKit Go.Maps
set_option linter.unusedVariables false
set_option linter.unusedSimpArgs false

/-- The code from a region on. -/
def codeFrom' (n : Nat) : Code → Option Code
  | .seq (.region m o d) b => if m = n then some (.seq (.region m o d) b) else codeFrom' n b
  | .seq _ b => codeFrom' n b
  | _ => none
noncomputable def becC : Code := ((Try.f83.body.bind (codeFrom' 6)).getD .skip)

/-- The memory of a store into the sure sectors. -/
theorem sure_set {w w1 : World} {b : Nat} {m : DM} {K : Nat → Prop} (h : DiskM w b m K) (b01 : Below w.heap.size w w1) {i : Nat} (hi : i < m.Ls.length) (x : OcS) (hl : x.l.length = 256) :
    ∃ sg v0, m.sp = some ⟨sg, 0, none⟩ ∧ m.sv.ownBlock = some sg ∧ sg < w1.heap.size ∧ w1.cell? ⟨sg, i, none⟩ = some v0 ∧ w1.frozen? ⟨sg, i, none⟩ = false ∧
      RowOwn ocT (w1.setCell ⟨sg, i, none⟩ (.slice x.a 256 x.cap)) 0 m.sv (m.Ls.set i x) ∧ Sole (fun k => k = sg) w1 (w1.setCell ⟨sg, i, none⟩ (.slice x.a 256 x.cap)) := by
  have S1 := h.S.more b01
  obtain ⟨g, cap, cur, hv, _, hnc, hcm, B, hcs, _⟩ := own_blk S1 (by omega)
  have e1 : m.sp = some ⟨g, 0, none⟩ := by have := hv; simp only [DM.sv, Value.slice.injEq] at this; exact this.1
  have e2 : m.sv.ownBlock = some g := by rw [hv]; rfl
  have hset := rowO_set (j := i) (x := x) (hv ▸ S1) rfl
  refine ⟨g, cur[i]'(by omega), e1, e2, B.lt, by rw [B.cell]; exact Array.getElem?_eq_getElem (by omega), B.frz i, ?_, Sole.setCell _ _ rfl⟩
  rw [hl] at hset
  rw [hv]
  exact hset
/-- Which sectors are odd then. -/
def oddL (l old now : List UInt8) (was : Bool) : Bool := if now = l then false else if now = old then was else true

set_option maxRecDepth 100000 in
set_option maxHeartbeats 8000000 in
theorem becTail {R : Ending → World → Prop} {b Bw : Nat} {m : DM} {K : Nat → Prop} {w w1 : World} (h : DiskM w b m K) (b01 : Below w.heap.size w w1) {i : Nat} (hi : i < m.Ls.length) (y x oldO : OcS) (hy : y.there w1) (hyl : y.l.length = 256) (hx : x.soft w1) (hxl : x.l.length = 256) (ho : oldO.there w1) (hol : oldO.l.length = 256)
    (hyS : ∀ b' o, y.a = some ⟨b', o, none⟩ → ¬ (m.sv.ownBlock = some b' ∨ b' = m.om)) (hxS : ∀ b' o, x.a = some ⟨b', o, none⟩ → ¬ (m.sv.ownBlock = some b' ∨ b' = m.om)) (hoS : ∀ b' o, oldO.a = some ⟨b', o, none⟩ → ¬ (m.sv.ownBlock = some b' ∨ b' = m.om))
    (hnow : (∃ j, j < m.Qs.length ∧ x = (atR wtT m.Qs j).x ∧ (atR wtT m.Qs j).at_ = (i : Int)) ∨ (∃ g, x.a = some ⟨g, 0, none⟩ ∧ w.heap.size ≤ g ∧ g < w1.heap.size))
    (BW : Blk w1 Bw #[.int .i64 (i : Int), .slice y.a 256 y.cap]) (hBw : w.heap.size ≤ Bw) (hn : m.n' < 1000000)
    (hR : ∀ w' DO n' K1, DiskM w' b (m.became i x DO n') K1 → n' ≤ m.n' + 1 → (∀ z : Int, (Lit.int .i64 z).wf = true → Maps.has DO (.int .i64 z) = if z = (i : Int) then oddL y.l oldO.l x.l (Maps.has m.DO (.int .i64 z)) else Maps.has m.DO (.int .i64 z)) → Sole (fun k => m.sv.ownBlock = some k ∨ k = m.om) w w' → (∀ k, K1 k → K k ∨ w.heap.size ≤ k) → R (.returned (.tuple #[])) w')
    {u1 u2 u3 u5 u8 u9 u10 u11 u12 u13 u14 u15 u16 u17 u18 u19 u20 u21 u22 u23 u24 u25 u26 u27 u28 u29 u30 u31 u32 : Value} :
    Code.wp Try.prog becC (bodyPost Try.prog Try.f83 R) ⟨#[.pointer (some ⟨b, 0, none⟩), u1, u2, u3, .pointer (some ⟨Bw, 0, none⟩), u5, .slice oldO.a 256 oldO.cap, .slice x.a 256 x.cap, u8, u9, u10, u11, u12, u13, u14, u15, u16, u17, u18, u19, u20, u21, u22, u23, u24, u25, u26, u27, u28, u29, u30, u31, u32, undef, undef, undef, undef, undef, undef, undef, undef, undef, undef, undef, undef, undef, undef, undef, undef, undef, undef, undef, undef, undef, undef, undef, undef, undef, undef, undef, undef, undef, undef, undef], []⟩ w1 := by
  conv => arg 2; whnf
  have B1 := (h.more b01).blk
  simp only [DM.cells, DM.sv, DM.wv, DM.fv] at B1
  have hi' : (i : Int) < (m.Ls.length : Int) := by omega
  have hi0 : (0 : Int) ≤ (i : Int) := by omega
  replace hR := hid hR
  replace h := hid h
  replace hnow := hid hnow
  replace hx := hid hx
  replace hy := hid hy
  replace ho := hid ho
  replace hxS := hid hxS
  replace hyS := hid hyS
  replace hoS := hid hoS
  replace b01 := hid b01
  have hilen := hid hi
  have hxlh := hid hxl
  have hylh := hid hyl
  have holh := hid hol
  clear hi hxl hyl hol
  obtain ⟨sg, _, e1, _⟩ := sure_set h.out b01.out hilen.out x hxlh.out
  rw [e1] at B1
  have hkey := keyOf_int_mk (P := Try.prog) Try.underlying3 (show (Lit.int .i64 (i : Int)).wf = true by
    have := h.out.lenS
    have := hilen.out
    rw [show (i : Int) = wrap64 (i : Int) by unfold wrap64; omega]
    exact wrap64_wf _)
  have q0 := fun u : Later w1 => u.blk B1
  have q1 := fun u : Later w1 => u.blk BW
  refine wp_seq_k (fun K6 hK6 => ?_)
  refine wp_region_late 8 (by kernel_rfl) (by kernel_rfl) ?_
  simp only [List.take_succ_cons, List.take_zero, List.drop_succ_cons, List.drop_zero]
  repeat (go_big_quiet_step (fail))
  refine wpQuiet_nil ?_
  intro w2 h2'
  have h2 := late_out h2'
  clear h2' q0 q1
  have b02 := hid (below2 b01.out h2 b01.out.size)
  obtain ⟨sg', v0, e1', e2, hlt, hc, hf, hrow, hsole⟩ := sure_set h.out b02.out hilen.out x hxlh.out
  obtain rfl : sg' = sg := by rw [e1] at e1'; cases e1'; rfl
  have hks := h.out.klt sg' (h.out.kk _ (.inr (.inr (.inr (.inl e2)))))
  have hko := h.out.klt m.om (h.out.kk _ (.inr (.inr (.inl rfl))))
  have X3 := oc_sole (hx.out.more h2).1 hsole (fun b' o e e' => hxS.out b' o e (.inl (e' ▸ e2)))
  have Y3 := oc_sole (hy.out.more h2) hsole (fun b' o e e' => hyS.out b' o e (.inl (e' ▸ e2)))
  have O3 := oc_sole (ho.out.more h2) hsole (fun b' o e e' => hoS.out b' o e (.inl (e' ▸ e2)))
  have KE := bequal_any x.l y.l x.a y.a x.cap y.cap _ X3.1 Y3.1
  have KE2 := bequal_any x.l oldO.l x.a oldO.a x.cap oldO.cap _ X3.1 O3.1
  rw [hxlh.out, hylh.out] at KE
  rw [hxlh.out, holh.out] at KE2
  replace KE := hid KE
  replace KE2 := hid KE2
  have B3 := (B1.more h2).sole hsole (fun e => (h.out.apart.s b (e ▸ e2)).1 rfl)
  have W3 := (BW.more h2).sole hsole (by omega)
  have M3 := hid (map_sole (h.out.more b02.out).O hsole (fun e => (h.out.apart.s _ (e ▸ e2)).2.2.1 rfl))
  have H2 := hid (show w2.heap.size = w2.heap.size from rfl)
  have hxw2 := hid (hx.out.more h2)
  have hnow2 : Hid ((∃ j, j < m.Qs.length ∧ x = (atR wtT m.Qs j).x ∧ (atR wtT m.Qs j).at_ = (i : Int)) ∨ (∃ g, x.a = some ⟨g, 0, none⟩ ∧ w.heap.size ≤ g ∧ g < w2.heap.size)) := hid (hnow.out.imp id fun ⟨g, e, h1, h3⟩ => ⟨g, e, h1, Nat.lt_of_lt_of_le h3 h2.size⟩)
  have FIN : Hid (∀ (w5 : World) (DO : DataW Unit) (n' : Nat), Sole (fun k => k = m.om) (w2.setCell ⟨sg', i, none⟩ (.slice x.a 256 x.cap)) w5 → w5.ownsMap Try.prog 3 unitElem m.om n' DO → n' ≤ m.n' + 1 →
      (∀ z : Int, (Lit.int .i64 z).wf = true → Maps.has DO (.int .i64 z) = if z = (i : Int) then oddL y.l oldO.l x.l (Maps.has m.DO (.int .i64 z)) else Maps.has m.DO (.int .i64 z)) → R (.returned (.tuple #[])) w5) := hid (fun w5 DO n' S5 O5 hn5 hz => by
    have S25 : Sole (fun k => m.sv.ownBlock = some k ∨ k = m.om) w2 w5 := (hsole.mono fun k _ e => .inl (e ▸ e2)).trans (S5.mono fun k _ e => .inr e)
    refine hR.out w5 DO n' _ (h.out.became hilen.out b02.out hxw2.out hxlh.out hnow2.out S25 (hrow.sole S5 fun k e e' => (h.out.apart.s k e).2.2.1 e') O5) hn5 hz ((Sole.made b02.out).trans S25) ?_
    exact fun k hk => hk.imp id (·.1))
  have W3h := hid W3
  replace B3 := hid B3
  obtain ⟨lw, kw, fw⟩ := W3
  clear hrow X3 Y3 O3 B1 BW h2 hnow hnow2 hxw2 b01 hR hxS hyS hoS hx hy ho H2
  go_wp2_with fail
  generalize w2.setCell ⟨sg', i, none⟩ (.slice x.a 256 x.cap) = w3 at *
  clear hc hf hlt hsole
  refine KE.out.mono ?_
  rintro e w' ⟨rfl, hw⟩
  rw [hw]
  clear hw w' KE
  cases hd : decide (x.l = y.l) with
  | true =>
    have hxy : x.l = y.l := of_decide_eq_true hd
    replace hxy := hid hxy
    clear hd KE2
    go_wp2_with fail
    have q0 := fun u : Later w3 => u.blk B3.out
    have q1 := fun u : Later w3 => u.blk W3h.out
    refine wp_region_late 6 (by kernel_rfl) (by kernel_rfl) ?_
    simp only [List.take_succ_cons, List.take_zero, List.drop_succ_cons, List.drop_zero]
    repeat (go_big_quiet_step (fail))
    refine wpQuiet_nil ?_
    intro w4 h4'
    have h4 := late_out h4'
    clear h4' q0 q1
    have M4 := hid (map_sole M3.out (Sole.made (S := fun _ => False) h4) id)
    have S4 := hid (Sole.made (S := fun k => k = m.om) h4)
    clear h4 B3 W3h M3 lw kw fw
    go_wp2_with (at_delete; refine wpList_delete_own _ rfl _ _ 60 3 rfl 183 dlawK Try.underlying60 _ m.om m.n' m.DO rfl M4.out _ _ rfl hkey ?_; intro w5 hown5 hturn5)
    refine bodyPost_end (results_none rfl _ _ _) rfl ?_
    refine FIN.out w5 _ m.n' (S4.out.trans (Sole.grown hturn5.grown fun k e => by cases e; rfl)) hown5 (by omega) fun z hz => ?_
    unfold oddL
    rw [if_pos hxy.out]
    by_cases hzi : z = (i : Int)
    · subst hzi
      rw [if_pos rfl, has_del_same]
    · rw [if_neg hzi, has_del_other (fun e => hzi (by cases e; rfl))]
  | false =>
    have hxy : ¬ x.l = y.l := of_decide_eq_false hd
    replace hxy := hid hxy
    clear hd
    go_wp2_with fail
    refine KE2.out.mono ?_
    rintro e w' ⟨rfl, hw⟩
    rw [hw]
    clear hw w' KE2
    cases hd : decide (x.l = oldO.l) with
    | true =>
      have hxo : x.l = oldO.l := of_decide_eq_true hd
      replace hxo := hid hxo
      clear hd
      go_wp2_with fail
      refine bodyPost_end (results_none rfl _ _ _) rfl ?_
      refine FIN.out w3 m.DO m.n' (Sole.refl _ _) M3.out (by omega) fun z hz => ?_
      unfold oddL
      rw [if_neg hxy.out, if_pos hxo.out]
      split <;> rfl
    | false =>
      have hxo : ¬ x.l = oldO.l := of_decide_eq_false hd
      replace hxo := hid hxo
      clear hd
      go_wp2_with fail
      have q0 := fun u : Later w3 => u.blk B3.out
      have q1 := fun u : Later w3 => u.blk W3h.out
      refine wp_region_late 7 (by kernel_rfl) (by kernel_rfl) ?_
      simp only [List.take_succ_cons, List.take_zero, List.drop_succ_cons, List.drop_zero]
      repeat (go_big_quiet_step (fail))
      refine wpQuiet_nil ?_
      intro w4 h4'
      have h4 := late_out h4'
      clear h4' q0 q1
      have M4 := hid (map_sole M3.out (Sole.made (S := fun _ => False) h4) id)
      have S4 := hid (Sole.made (S := fun k => k = m.om) h4)
      clear h4 B3 W3h lw kw fw
      go_wp2_with (at_mapUpdate; refine wpList_mapUpdate_own _ rfl _ _ _ 60 rfl 3 183 dlawK Try.underlying60 _ m.om m.n' m.DO rfl M4.out (by unfold maxLen; omega) _ _ _ rfl rfl hkey _ [] unitElem_mk ?_; intro w5 hown5 hgrow5)
      refine bodyPost_end (results_none rfl _ _ _) rfl ?_
      refine FIN.out w5 _ (m.n' + 1) (S4.out.trans (Sole.grown hgrow5 fun k e => by cases e; rfl)) hown5 (Nat.le_refl _) fun z hz => ?_
      unfold oddL
      rw [if_neg hxy.out, if_neg hxo.out]
      by_cases hzi : z = (i : Int)
      · subst hzi
        rw [if_pos rfl, has_put_same M3.out.isMap (dlawK.key hkey)]
      · rw [if_neg hzi, has_put_other (fun e => hzi (by cases e; rfl))]
end Go.Proofs.Ytcklmemnjchdcaa

/-
  slices.Concat of two rows of octets.
-/






namespace Go.Proofs.Ytcklmemnjchdcaa
open Go.RowKit
set_option linter.unusedVariables false
set_option linter.unusedSimpArgs false

set_option maxRecDepth 100000 in
theorem bgrow_any (n : Nat) (h1 : 1 ≤ n) (hn : n ≤ 1000000) (w : World) :
    Calls Try.prog 103 #[.slice none 0 0, .int .i64 (n : Int)] w fun e w' => ∃ q cap, e = .returned (.slice q 0 cap) ∧ w'.ownsRow w.heap.size 5 1 (.slice q 0 cap) 0 [] ∧ Below w.heap.size w w' := by
  obtain ⟨v', w', hr, O', gr, mv⟩ := append_zeros_own w.heap.size 51 w (.slice none 0 0) 0 [] (World.ownsRow_nil _ _ _ _) n (by omega) (Nat.le_refl _)
  rw [Nat.zero_add, List.nil_append] at O'
  obtain ⟨g, cap, cur, rfl, hbg, hlc, hcm, B, hcs, _⟩ := own_blk O' (by omega)
  have OE : w'.ownsRow w.heap.size 5 1 (.slice (some ⟨g, 0, none⟩) 0 cap) 0 [] := by
    rcases O'.2 with ⟨hv, _⟩ | ⟨g', cap', cur', hv, h1', h2', h3', h4', h5', h6'⟩
    · cases hv
    · simp only [Value.slice.injEq, Option.some.injEq, Addr.mk.injEq, and_true, true_and] at hv
      obtain ⟨rfl, rfl⟩ := hv
      exact ⟨rfl, .inr ⟨g, cap, cur', rfl, h1', h2', Nat.zero_le _, h4', h5', by simp⟩⟩
  have E := hid (show w'.ownsRow w.heap.size 5 1 (.slice (some ⟨g, 0, none⟩) 0 cap) 0 [] ∧ Below w.heap.size w w' from ⟨OE, (Below.refl _ _).grown gr (Nat.le_refl _) (fun k e => by cases e)⟩)
  have hn0 : ¬ ((n : Int) < 0) := by omega
  have hn1 : (0 : Int) < (n : Int) := by omega
  have hw : IntKind.i64.wrap ((n : Int) - 0) = (n : Int) := by rw [Int.sub_zero]; exact IntWalk.i64_in _ ⟨by omega, by omega⟩
  have hnn : wrap64 (n : Int) = (n : Int) := IntWalk.wrap64_in _ ⟨by omega, by omega⟩
  clear O' gr mv OE B hcs
  go_enter Try.func103, Try.ntmps103
  go_wp2_with (at_builtin; refine Lib.wpList_append_run _ rfl _ _ _ _ rfl _ _ rfl rfl _ _ hr ?_)
  go_ret
  exact ⟨_, _, rfl, E.out⟩

set_option maxRecDepth 100000 in
set_option maxHeartbeats 2000000 in
/-- Two rows of octets, together: new ones. -/
theorem bconcat_any (x y : OcS) (n : Nat) (hn : x.l.length + y.l.length = n) (h1 : 1 ≤ n) (hn2 : n ≤ 1000000) (g : Nat) (w : World) (hx : x.there w) (hy : y.there w) (B : Blk w g #[.slice x.a x.l.length x.cap, .slice y.a y.l.length y.cap]) :
    Calls Try.prog 97 #[.slice (some ⟨g, 0, none⟩) 2 2] w fun e w' => ∃ q cap, e = .returned (.slice q n cap) ∧ w'.ownsRow w.heap.size 5 1 (.slice q n cap) n (Lib.byteCells (x.l ++ y.l)) ∧ Below w.heap.size w w' := by
  have KG := hid (bgrow_any n h1 hn2)
  have hw1 : wrap64 (x.l.length : Int) = (x.l.length : Int) := IntWalk.wrap64_in _ ⟨by omega, by omega⟩
  have hw2 : wrap64 ((x.l.length : Int) + (y.l.length : Int)) = (n : Int) := by rw [IntWalk.wrap64_in _ ⟨by omega, by omega⟩]; omega
  have hneg1 : ¬ ((x.l.length : Int) < 0) := by omega
  have hneg2 : ¬ ((n : Int) < 0) := by omega
  have hxh := hid hx
  have hyh := hid hy
  have Bh := hid B
  have hnh := hid hn
  obtain ⟨l0, k0, f0⟩ := B
  clear hx hy hn
  generalize hlx : x.l.length = lx at *
  generalize hly : y.l.length = ly at *
  replace hlx := hid hlx
  replace hly := hid hly
  go_enter Try.func97, Try.ntmps97
  go_wp2_with fail
  refine wp_loop_rounds 3 ?_
  rw [rounds_succ]
  go_wp2_with fail
  rw [rounds_succ]
  go_wp2_with fail
  rw [rounds_succ]
  go_wp2_with fail
  refine (KG.out _).mono ?_
  rintro e w1 ⟨q, cap, rfl, O1, hb1⟩
  have hown1 := O1.lt
  obtain ⟨v2, w2, hr2, O2, gr2, mv2⟩ := append_octs w.heap.size 51 w1 (.slice q 0 cap) 0 [] O1 x.a x.cap x.l (hxh.out.more hb1).1 (by have := hlx.out; have := hnh.out; omega) hb1.size
  have S2 : Sole (fun k => (Value.slice q 0 cap).ownBlock = some k) w1 w2 := Sole.grown gr2 fun k e => e
  have B1 := Bh.out.more hb1
  have B2 := B1.sole S2 (fun e => by have := (hown1 g e).1; omega)
  have hy2 : Octs w2 y.a y.l := (hyh.out.more hb1).1.sole S2 fun b o e hne hS => by
    obtain ⟨b', o', e', hlt, _⟩ := hyh.out.1.row hne
    rw [e] at e'; cases e'
    have := (hown1 b hS).1; omega
  have hb2 : Below w.heap.size w w2 := hb1.trans (S2.below (B := w.heap.size) hb1.size fun k e => (hown1 k e).1)
  rw [Nat.zero_add, List.nil_append, hlx.out] at O2
  rw [hlx.out] at hr2
  obtain ⟨q2, c2, rfl⟩ : ∃ q2 c2, v2 = .slice q2 lx c2 := by
    rcases O2.2 with ⟨rfl, h0⟩ | ⟨g', cap', cur, rfl, _⟩
    · exact ⟨none, 0, by rw [h0]⟩
    · exact ⟨_, _, rfl⟩
  have hown2 := O2.lt
  obtain ⟨v3, w3, hr3, O3, gr3, mv3⟩ := append_octs w.heap.size 51 w2 (.slice q2 lx c2) lx _ O2 y.a y.cap y.l hy2 (by have := hly.out; have := hnh.out; omega) hb2.size
  have S3 : Sole (fun k => (Value.slice q2 lx c2).ownBlock = some k) w2 w3 := Sole.grown gr3 fun k e => e
  have hb3 : Below w.heap.size w w3 := hb2.trans (S3.below (B := w.heap.size) hb2.size fun k e => (hown2 k e).1)
  rw [hly.out, hnh.out] at O3
  rw [hly.out] at hr3
  obtain ⟨q3, c3, rfl⟩ : ∃ q3 c3, v3 = .slice q3 n c3 := by
    rcases O3.2 with ⟨rfl, h0⟩ | ⟨g', cap', cur, rfl, _⟩
    · exact ⟨none, 0, by rw [h0]⟩
    · exact ⟨_, _, rfl⟩
  have E := hid (show w3.ownsRow w.heap.size 5 1 (.slice q3 n c3) n (Lib.byteCells (x.l ++ y.l)) ∧ Below w.heap.size w w3 from ⟨by
    have : Lib.byteCells (x.l ++ y.l) = Lib.byteCells x.l ++ Lib.byteCells y.l := by simp [Lib.byteCells]
    rw [this]; exact O3, hb3⟩)
  obtain ⟨l1, k1, f1⟩ := B1
  obtain ⟨l2, k2, f2⟩ := B2
  clear O1 O2 O3 gr2 gr3 mv2 mv3 S2 S3 hb1 hb2 hb3 hy2 hown1 hown2 l0 k0 f0 KG
  replace hr2 := hid hr2
  replace hr3 := hid hr3
  go_wp2_with fail
  refine wp_loop_rounds 3 ?_
  rw [rounds_succ]
  go_wp2_with (at_builtin; refine Lib.wpList_append_run _ rfl _ _ _ _ rfl _ _ rfl rfl _ _ hr2.out ?_)
  rw [rounds_succ]
  go_wp2_with (at_builtin; refine Lib.wpList_append_run _ rfl _ _ _ _ rfl _ _ rfl rfl _ _ hr3.out ?_)
  rw [rounds_succ]
  go_wp2_with fail
  go_ret
  exact ⟨_, _, rfl, E.out⟩
end Go.Proofs.Ytcklmemnjchdcaa

/-
  Package disk: become.
-/


namespace Go.Proofs.Ytcklmemnjchdcaa
open Go.RowKit Go.Maps
set_option linter.unusedVariables false
set_option linter.unusedSimpArgs false

theorem slice_to (a : Addr) (n c k : Nat) (hk : k ≤ c) (w : World) : (Instr.sliceAt 51 (.slice (some a) n c) none (some (.int .i64 (k : Int))) none).run Try.prog w = .ok (.slice (some a) k c) w := by
  have hu := Try.underlying51
  simp [go_sem, hu, hk]
theorem slice_from (b o n c k : Nat) (hk : k ≤ n) (hn : n ≤ c) (hc : ¬ c = k) (w : World) : (Instr.sliceAt 51 (.slice (some ⟨b, o, none⟩) n c) (some (.int .i64 (k : Int))) none none).run Try.prog w = .ok (.slice (some ⟨b, o + k, none⟩) (n - k) (c - k)) w := by
  have hu := Try.underlying51
  simp [go_sem, hu, hk, hn, hc]
theorem quiet_slice {P : Program} {ops : Array Oper} {C : World → Prop} {Q : Act → Prop} {o : Oper} {rest : List Oper} {a : Act} {t : TypeId} {x : Operand} {lo hi mx : Option Operand} (ho : o.op = .slice t x lo hi mx) (hg : o.guard = none) (v : Value)
    (hr : ∀ w, (Instr.sliceAt t (a.eval x) (lo.map a.eval) (hi.map a.eval) (mx.map a.eval)).run P w = .ok v w) (h : wpQuiet P ops C Q rest (a.put o.dst v)) : wpQuiet P ops C Q (o :: rest) a := by
  unfold wpQuiet
  rw [if_pos (by simp [Region.wanted, hg])]
  refine ⟨v, fun w _ => ?_, h⟩
  unfold Oper.quietAt
  have : (execOp a.eval o).run P w = .ok (.value v) w := by simp [execOp, ho, hr, Result.andThen]
  rw [this]
  exact ⟨rfl, rfl⟩
/-- What a sector becomes, of what was written and of what stood there. -/
def nowL (f : Int) (l old : List UInt8) : List UInt8 := if 2 ≤ f then l.take ((f - 2) % 256).toNat ++ old.drop ((f - 2) % 256).toNat else l
def BecPost (m : DM) (b i : Nat) (K : Nat → Prop) (f : Int) (ly : List UInt8) (w : World) (e : Ending) (w' : World) : Prop :=
  e = .returned (.tuple #[]) ∧ ∃ x DO n' K1, x.l = nowL f ly (ocA m.Ls i).l ∧ DiskM w' b (m.became i x DO n') K1 ∧ n' ≤ m.n' + 1 ∧
    (∀ z : Int, (Lit.int .i64 z).wf = true → Maps.has DO (.int .i64 z) = if z = (i : Int) then oddL ly (ocA m.Ls i).l x.l (Maps.has m.DO (.int .i64 z)) else Maps.has m.DO (.int .i64 z)) ∧ Sole (fun k => m.sv.ownBlock = some k ∨ k = m.om) w w' ∧ (∀ k, K1 k → K k ∨ w.heap.size ≤ k)

set_option maxRecDepth 100000 in
set_option maxHeartbeats 4000000 in
theorem become_any (m : DM) (b : Nat) (K : Nat → Prop) (w : World) (D : DiskM w b m K) (j : Nat) (hj : j < m.Qs.length) (i : Nat) (hat : (atR wtT m.Qs j).at_ = (i : Int)) (f : Int) (hf : 1 ≤ f) (hf2 : f ≤ 9223372036854775807) (hn : m.n' < 1000000) :
    Calls Try.prog 83 #[.pointer (some ⟨b, 0, none⟩), .agg #[.int .i64 (atR wtT m.Qs j).at_, .slice (atR wtT m.Qs j).x.a (atR wtT m.Qs j).x.l.length (atR wtT m.Qs j).x.cap], .int .i64 f] w (BecPost m b i K f (atR wtT m.Qs j).x.l w) := by
  have hmem := atR_mem (T := wtT) m.Qs j hj
  obtain ⟨⟨hys, gy, hya, kgy, hgy, hyl⟩, hat0, hat1⟩ := D.QO _ hmem
  have hyt := hys.1
  have hysh := hid hys
  clear hys
  have hi : i < m.Ls.length := by omega
  obtain ⟨⟨hot, _⟩, go, hoa, kgo, hgo, hol⟩ := D.SO _ (ocA_mem m.Ls i hi)
  have hnowy : (∃ j', j' < m.Qs.length ∧ (atR wtT m.Qs j).x = (atR wtT m.Qs j').x ∧ (atR wtT m.Qs j').at_ = (i : Int)) := ⟨j, hj, rfl, hat⟩
  rw [hat, hyl]
  have hb1 : Below w.heap.size w (w.alloc (.cells #[.int .i64 (i : Int), .slice (atR wtT m.Qs j).x.a 256 (atR wtT m.Qs j).x.cap] 103)) := (Below.refl _ _).alloc (Nat.le_refl _) _
  have BW := Blk.new w #[.int .i64 (i : Int), .slice (atR wtT m.Qs j).x.a 256 (atR wtT m.Qs j).x.cap] 103
  generalize hw1 : w.alloc (.cells #[.int .i64 (i : Int), .slice (atR wtT m.Qs j).x.a 256 (atR wtT m.Qs j).x.cap] 103) = w1 at *
  have B1 := D.blk.more hb1
  simp only [DM.cells, DM.sv, DM.wv, DM.fv] at B1
  obtain ⟨sg, _, e1, e2, hsg, _⟩ := sure_set D hb1 hi (atR wtT m.Qs j).x hyl
  obtain ⟨p7, c7, hv7, _, _, R7⟩ := (D.S.more hb1).open ocOk
  have e7 : m.sp = p7 ∧ m.sc = c7 := by simpa [DM.sv] using hv7
  have hR7 : RowP w1 m.sp 1 m.Ls.length (fun i => [.slice (ocA m.Ls i).a (ocA m.Ls i).l.length (ocA m.Ls i).cap]) := by rw [e7.1]; exact R7
  obtain ⟨b7, o7, hq7, r7⟩ := hR7.row (by omega)
  rw [e1] at hq7
  have c7 := r7.at0 (i := i) hi (v := .slice (ocA m.Ls i).a (ocA m.Ls i).l.length (ocA m.Ls i).cap) rfl
  simp only [Option.some.injEq, Addr.mk.injEq, and_true] at hq7
  obtain ⟨rfl, rfl⟩ := hq7
  rw [Nat.mul_one, Nat.zero_add, hol] at c7
  rw [e1] at B1
  generalize hY : (atR wtT m.Qs j).x = y at *
  generalize hO : ocA m.Ls i = o at *
  have hi' : (i : Int) < (m.Ls.length : Int) := by omega
  have hi0 : (0 : Int) ≤ (i : Int) := by omega
  obtain ⟨ya, yc, yl⟩ := y
  obtain ⟨oa, oc, ol⟩ := o
  dsimp only at hya hoa hyl hol BW hw1 c7
  subst hya hoa
  replace D := hid D
  have hilen := hid hi
  have hnowh := hid hnowy
  have hyth := hid hyt
  have hoth := hid hot
  have hgyh := hid hgy
  have hgoh := hid hgo
  have hylh := hid hyl
  have holh := hid hol
  have hOh := hid hO
  clear hR7 R7 hv7 e7 r7 hi hnowy hyt hot hgy hgo hyl hol hY hO hat hat0 hat1 hmem hj kgy kgo
  go_enter Try.func83, Try.ntmps83
  go_wp2_with fail

  have BW1 := hid BW
  have hb1h := hid hb1
  have D1 := hid (D.out.more hb1)
  have cold : ∀ u : Later w1, u.val.cell? ⟨sg, i, none⟩ = some (.slice (some ⟨go, 0, none⟩) 256 oc) := fun u => (u.cell sg i hsg).trans c7
  have q0 := fun u : Later w1 => u.blk B1
  have q1 := fun u : Later w1 => u.blk BW
  clear hw1 hb1 BW B1 c7
  rename_i K1 hK1
  replace hK1 := hid hK1
  refine wp_region_late 8 (by kernel_rfl) (by kernel_rfl) ?_
  simp only [List.take_succ_cons, List.take_zero, List.drop_succ_cons, List.drop_zero]
  repeat (go_big_quiet_step (fail))
  refine wpQuiet_nil ?_
  intro w2 h2'
  have h2 := late_out h2'
  clear h2' q0 q1 cold
  have hb2 := hid (below2 hb1h.out h2 hb1h.out.size)
  have BW2 := BW1.out.more h2
  have BW2h := hid BW2
  obtain ⟨lw, kw, fw⟩ := BW2
  clear h2
  go_wp2_with fail
  refine hK1.out _ _ ?_
  refine wp_seq_k (fun K2 hK2 => ?_)
  replace hK2 := hid hK2
  go_wp2_with fail
  refine hK2.out _ _ ?_
  refine wp_seq_k (fun K3 hK3 => ?_)
  replace hK3 := hid hK3
  by_cases hf3 : 2 ≤ f
  · obtain ⟨k, hk, hk2⟩ : ∃ k : Nat, (f - 2) % 256 = (k : Int) ∧ k < 256 := ⟨((f - 2) % 256).toNat, by omega, by omega⟩
    have hyc : 256 ≤ yc := by have h1 : yl.length ≤ yc := hyth.out.2.1; have := hylh.out; omega
    have hoc : 256 ≤ oc := by have h1 : ol.length ≤ oc := hoth.out.2.1; have := holh.out; omega
    have hkc : ((k : Nat) : Int) ≤ (yc : Int) := by omega
    have hk0 : (0 : Int) ≤ (k : Int) := by omega
    have hk1 : (k : Int) ≤ 256 := by omega
    have hkn := hid (show k ≤ yc by omega)
    have hkn1 := hid (show k ≤ 256 by omega)
    have hkn2 := hid (show ¬ oc = k by omega)
    have hkn3 := hid (show 256 ≤ oc by omega)
    have hoc' : (256 : Int) ≤ (oc : Int) := by omega
    have hne : ¬ oc - k = 0 := by omega
    obtain ⟨F, hF⟩ : ∃ F : Int, f - 2 = F := ⟨_, rfl⟩
    have hwf : wrap64 (f - 2) = F := by rw [← hF]; exact IntWalk.wrap64_in _ ⟨by omega, by omega⟩
    have htm : Int.tmod F 256 = (k : Int) := by rw [← hF, Int.tmod_eq_emod_of_nonneg (by omega)]; exact hk
    have hfd : decide (f ≥ 2) = true := decide_eq_true hf3
    have hfd2 : decide (2 ≤ f) = true := decide_eq_true hf3
    replace hf3 := hid hf3
    replace hf := hid hf
    replace hf2 := hid hf2
    replace hF := hid hF
    have hwk : wrap64 (k : Int) = (k : Int) := IntWalk.wrap64_in _ ⟨by omega, by omega⟩
    have hkh := hid hk
    clear hk
    replace hyc := hid hyc
    replace hoc := hid hoc
    replace hk2 := hid hk2
    go_wp2_with fail
    clear hwf htm
    have q1 := fun u : Later w2 => u.blk BW2h.out
    refine wp_region_late 7 (by kernel_rfl) (by kernel_rfl) ?_
    simp only [List.take_succ_cons, List.take_zero, List.drop_succ_cons, List.drop_zero]
    clear hkc hk0 hk1 hoc' hne
    iterate 3 (go_big_quiet_step (fail))
    refine quiet_slice rfl rfl _ (slice_to ⟨gy, 0, none⟩ 256 yc k hkn.out) ?_
    simp only [Act.put, List.setIfInBounds_toArray, List.set_cons_succ, List.set_cons_zero]
    iterate 2 (go_big_quiet_step (fail))
    refine quiet_slice rfl rfl _ (slice_from go 0 256 oc k hkn1.out hkn3.out hkn2.out) ?_
    simp only [Act.put, List.setIfInBounds_toArray, List.set_cons_succ, List.set_cons_zero, Nat.zero_add]
    refine wpQuiet_nil ?_
    intro w3 h3'
    have h3 := late_out h3'
    clear h3' q1
    have hb3 := below2 hb2.out h3 hb2.out.size
    have BW3 := BW2h.out.more h3
    have hlX : (yl.take k).length = k := by rw [List.length_take, hylh.out]; have := hk2.out; omega
    have hlY : (ol.drop k).length = 256 - k := by rw [List.length_drop, holh.out]
    have hbA : Below w3.heap.size w3 (w3.alloc (.cells #[.slice (some ⟨gy, 0, none⟩) k yc, .slice (some ⟨go, k, none⟩) (256 - k) (oc - k)] 51)) := (Below.refl _ _).alloc (Nat.le_refl _) _
    have BA := Blk.new w3 #[.slice (some ⟨gy, 0, none⟩) k yc, .slice (some ⟨go, k, none⟩) (256 - k) (oc - k)] 51
    have hsA : (w3.alloc (.cells #[.slice (some ⟨gy, 0, none⟩) k yc, .slice (some ⟨go, k, none⟩) (256 - k) (oc - k)] 51)).heap.size = w3.heap.size + 1 := by simp
    have hb4 := below2 hb3 hbA hb3.size
    have BW4 := hid (BW3.more hbA)
    have hX : (⟨some ⟨gy, 0, none⟩, yc, yl.take k⟩ : OcS).there (w3.alloc (.cells #[.slice (some ⟨gy, 0, none⟩) k yc, .slice (some ⟨go, k, none⟩) (256 - k) (oc - k)] 51)) := ⟨(hyth.out.more hb4).1.take k, by rw [hlX]; exact hkn.out, (hyth.out.more hb4).2.2⟩
    have hoD := Octs.drop (hoth.out.more hb4).1 k
    rw [Nat.zero_add] at hoD
    have hY : (⟨some ⟨go, k, none⟩, oc - k, ol.drop k⟩ : OcS).there (w3.alloc (.cells #[.slice (some ⟨gy, 0, none⟩) k yc, .slice (some ⟨go, k, none⟩) (256 - k) (oc - k)] 51)) := ⟨hoD, by rw [hlY]; have := hkn3.out; show 256 - k ≤ oc - k; omega, by have h1 : oc ≤ maxLen := (hoth.out.more hb4).2.2; show oc - k ≤ maxLen; omega⟩
    have KC := hid (bconcat_any (⟨some ⟨gy, 0, none⟩, yc, yl.take k⟩ : OcS) (⟨some ⟨go, k, none⟩, oc - k, ol.drop k⟩ : OcS) 256 (by rw [hlX, hlY]; have := hk2.out; omega) (by omega) (by omega) w3.heap.size _ hX hY (by rw [hlX, hlY]; exact BA))
    replace hb4 := hid hb4
    have hlXY : (yl.take k ++ ol.drop k).length = 256 := by rw [List.length_append, hlX, hlY]; have := hk2.out; omega
    replace hlXY := hid hlXY
    clear hX hY hoD BA hlX hlY BW3 hb3 h3 lw kw fw hbA
    go_wp2_with fail
    generalize w3.alloc (.cells #[.slice (some ⟨gy, 0, none⟩) k yc, .slice (some ⟨go, k, none⟩) (256 - k) (oc - k)] 51) = w4 at *
    refine KC.out.mono ?_
    rintro e w5 ⟨q, cap, rfl, O5, hb5⟩
    have O5' := O5
    rw [← hlXY.out] at O5'
    obtain ⟨g9, cap9, cur9, he9, hg9, hl9, hc9, B9, _, _⟩ := own_blk O5' (by rw [hlXY.out]; omega)
    have hq9 : q = some ⟨g9, 0, none⟩ ∧ cap = cap9 := by simpa using he9
    obtain ⟨rfl, rfl⟩ := hq9
    rw [hlXY.out] at hl9
    have hb05 := below2 hb4.out hb5 hb4.out.size
    have hgw : w.heap.size ≤ g9 := Nat.le_trans hb4.out.size hg9
    have hbb : ∀ g, m.base b g → g < w.heap.size := fun g hg => D.out.klt g (D.out.kk g hg)
    have hO5 := hid O5'
    have hB9 := hid B9
    have hb5h := hid hb5
    replace hb05 := hid hb05
    replace hgw := hid hgw
    replace hbb := hid hbb
    replace hl9 := hid hl9
    replace hc9 := hid hc9
    clear O5 O5' B9 he9 hb5 KC hg9
    go_wp2_with fail
    refine hK3.out _ _ ?_
    exact becTail (R := BecPost m b i K f yl w) D.out hb05.out hilen.out ⟨some ⟨gy, 0, none⟩, yc, yl⟩ ⟨some ⟨g9, 0, none⟩, cap, yl.take k ++ ol.drop k⟩ ⟨some ⟨go, 0, none⟩, oc, ol⟩ (hyth.out.more hb05.out) hylh.out ⟨⟨Octs.of_own hO5.out, by rw [hlXY.out]; exact hl9.out, hc9.out⟩, fun b' o e => by cases e; exact ⟨hB9.out.lt, hB9.out.frz⟩⟩ hlXY.out (hoth.out.more hb05.out) holh.out
      (by intro b' o e; cases e; rintro (r | r); exact hgyh.out (.inr (.inr (.inr (.inl r)))); exact hgyh.out (.inr (.inr (.inl r))))
      (by intro b' o e; cases e; rintro (r | r); (have := hbb.out g9 (.inr (.inr (.inr (.inl r)))); have := hgw.out; omega); (have := hbb.out g9 (.inr (.inr (.inl r))); have := hgw.out; omega))
      (by intro b' o e; cases e; rintro (r | r); exact hgoh.out (.inr (.inr (.inr (.inl r)))); exact hgoh.out (.inr (.inr (.inl r))))
      (.inr ⟨g9, rfl, hgw.out, hB9.out.lt⟩) (BW4.out.more hb5h.out) (Nat.le_refl _) hn
      (by
        intro w' DO n' K' D' hn' hodd hs hK'
        refine ⟨rfl, _, DO, n', K', ?_, D', hn', ?_, hs, hK'⟩
        · unfold nowL; rw [if_pos hf3.out, hOh.out, show ((f - 2) % 256).toNat = k by have := hkh.out; omega]
        · rw [hOh.out]; exact hodd)
  · obtain rfl : f = 1 := by omega
    go_wp2_with fail
    refine hK3.out _ _ ?_
    refine becTail D.out hb2.out hilen.out ⟨some ⟨gy, 0, none⟩, yc, yl⟩ ⟨some ⟨gy, 0, none⟩, yc, yl⟩ ⟨some ⟨go, 0, none⟩, oc, ol⟩ (hyth.out.more hb2.out) hylh.out (hysh.out.more hb2.out) hylh.out (hoth.out.more hb2.out) holh.out ?_ ?_ ?_ (.inl hnowh.out) BW2h.out (Nat.le_refl _) hn ?_
    · intro b' o e; cases e; rintro (r | r); exact hgyh.out (.inr (.inr (.inr (.inl r)))); exact hgyh.out (.inr (.inr (.inl r)))
    · intro b' o e; cases e; rintro (r | r); exact hgyh.out (.inr (.inr (.inr (.inl r)))); exact hgyh.out (.inr (.inr (.inl r)))
    · intro b' o e; cases e; rintro (r | r); exact hgoh.out (.inr (.inr (.inr (.inl r)))); exact hgoh.out (.inr (.inr (.inl r)))
    · intro w' DO n' K' D' hn' hodd hs hK'
      refine ⟨rfl, _, DO, n', K', ?_, D', hn', ?_, hs, hK'⟩
      · unfold nowL; rw [if_neg (by omega)]
      · rw [hOh.out]; exact hodd
end Go.Proofs.Ytcklmemnjchdcaa

/-
  Package disk: settle: all that waits has its fate.
-/


namespace Go.Proofs.Ytcklmemnjchdcaa
open Go.RowKit Go.Shelf Go.Maps
set_option linter.unusedVariables false
set_option linter.unusedSimpArgs false

attribute [local go_sem] Oper.semAt_some

theorem cells_at {W : World} {b o : Nat} {v : Value} (h : W.cell? ⟨b, o, none⟩ = some v) : ∃ ob : Obj, W.heap[b]? = some ob ∧ ob.isCells = true := by
  unfold World.cell? at h
  cases hb : W.heap[b]? with
  | none => simp [hb] at h
  | some ob =>
    refine ⟨ob, rfl, ?_⟩
    cases ob <;> simp [hb] at h <;> rfl
theorem not_row {W W' : World} {row : Option Nat} {b o : Nat} {v : Value} (h : W.cell? ⟨b, o, none⟩ = some v) (hr : ∀ r, row = some r → ∃ o : Obj, W.heap[r]? = some o ∧ o.isCells = false) : row ≠ some b := fun e => by
  obtain ⟨ob, h1, h2⟩ := cells_at h
  obtain ⟨o', h3, h4⟩ := hr b e
  rw [h1] at h3; cases h3
  rw [h2] at h4; cases h4
theorem row_kept {α : Type} {T : RowT α} {W W' : World} {row : Option Nat} {base : Nat} {v : Value} {L : List α} (h : RowOwn T W base v L) (hg : W.grownBy W' row) (hr : ∀ r, row = some r → ∃ o : Obj, W.heap[r]? = some o ∧ o.isCells = false) : RowOwn T W' base v L := by
  refine ⟨h.1, h.2.imp id ?_⟩
  rintro ⟨g, cap, cur, rfl, hb, hg0, h1, h2, h3, h4⟩
  exact ⟨g, cap, cur, rfl, hb, (grownBy_keeps_cells hg hr hg0 rfl).trans hg0, h1, h2, h3, h4⟩
theorem octs_kept {W W' : World} {row : Option Nat} {x : OcS} (h : x.there W) (hg : W.grownBy W' row) (hr : ∀ r, row = some r → ∃ o : Obj, W.heap[r]? = some o ∧ o.isCells = false) : x.there W' := by
  refine ⟨?_, h.2⟩
  rcases h.1 with h0 | ⟨b, o, e, hlt, hc⟩
  · exact .inl h0
  · exact .inr ⟨b, o, e, Nat.lt_of_lt_of_le hlt hg.size, fun i hi => cell_kept (hc i hi) hg hr⟩
theorem soft_kept {W W' : World} {row : Option Nat} {x : OcS} (h : x.soft W) (hne : x.l.length ≠ 0) (hg : W.grownBy W' row) (hr : ∀ r, row = some r → ∃ o : Obj, W.heap[r]? = some o ∧ o.isCells = false) : x.soft W' := by
  refine ⟨octs_kept h.1 hg hr, fun b o e => ⟨Nat.lt_of_lt_of_le (h.2 b o e).1 hg.size, fun i => ?_⟩⟩
  rcases h.1.1 with h0 | ⟨b', o', e', hlt, hc⟩
  · exact absurd (by rw [h0]; rfl) hne
  · rw [e] at e'; cases e'
    have hnb : row ≠ some b := not_row (W' := W') (hc 0 (by omega)) hr
    exact (World.frozen?_of_block (a := ⟨b, i, none⟩) (hg.block b hlt (fun e => hnb e.symm))).trans ((h.2 b o e).2 i)
/-- A loop's own blocks are turned: the disk is as it was. -/
theorem DiskM.turned {W W' : World} {b B : Nat} {m : DM} {K : Nat → Prop} {row : Option Nat} (h : DiskM W b m K) (hg : W.grownBy W' row) (hr : ∀ r, row = some r → B ≤ r ∧ ∃ o : Obj, W.heap[r]? = some o ∧ o.isCells = false) (hl : m.lm < B) (ho : m.om < B) : DiskM W' b m K := by
  have hr' := fun r e => (hr r e).2
  have hnb : row ≠ some b := not_row (W' := W') (h.blk.cell 0 |>.trans (by rfl)) hr'
  have hbk : ∀ k, row ≠ some k → k < W.heap.size → W'.heap[k]? = W.heap[k]? := fun k hk hlt => hg.block k hlt (fun e => hk e.symm)
  exact
  { blk := ⟨Nat.lt_of_lt_of_le h.blk.lt hg.size, fun o => (World.cell?_of_block (a := ⟨b, o, none⟩) (hbk b hnb h.blk.lt)).trans (h.blk.cell o), fun o => (World.frozen?_of_block (a := ⟨b, o, none⟩) (hbk b hnb h.blk.lt)).trans (h.blk.frz o)⟩
    apart := h.apart
    kk := h.kk
    klt := fun k hk => Nat.lt_of_lt_of_le (h.klt k hk) hg.size
    S := row_kept h.S hg hr'
    SO := fun x hx => ⟨soft_kept (h.SO x hx).1 (by obtain ⟨_, _, _, _, e⟩ := (h.SO x hx).2; omega) hg hr', (h.SO x hx).2⟩
    Q := row_kept h.Q hg hr'
    QO := fun y hy => ⟨⟨soft_kept (h.QO y hy).1.1 (by obtain ⟨_, _, _, _, e⟩ := (h.QO y hy).1.2; omega) hg hr', (h.QO y hy).1.2⟩, (h.QO y hy).2⟩
    F := row_kept h.F hg hr'
    L := by
      have hlt := h.L.lt
      obtain ⟨es, clock, hb, r⟩ := h.L
      exact ⟨es, clock, (hbk _ (fun e => by have := (hr _ e).1; omega) hlt).trans hb, r⟩
    O := by
      have hlt := h.O.lt
      obtain ⟨es, clock, hb, r⟩ := h.O
      exact ⟨es, clock, (hbk _ (fun e => by have := (hr _ e).1; omega) hlt).trans hb, r⟩
    last := h.last
    lenS := h.lenS
    cwf := h.cwf
    fwf := h.fwf
    uniq := h.uniq }

/-- Sectors, and which are odd. -/
abbrev SD := List (List UInt8) × (Int → Bool)
def stepD (s : SD) (z : Int) (l : List UInt8) (f : Int) : SD :=
  if 1 ≤ f then (s.1.set z.toNat (nowL f l (s.1.getD z.toNat [])), fun y => if y = z then oddL l (s.1.getD z.toNat []) (nowL f l (s.1.getD z.toNat [])) (s.2 y) else s.2 y) else s
def settleD (Qs : List WtS) (Fs : List Int) {N : Nat} (s : SD) (pre : List (Fin N)) : SD := pre.foldl (fun s i => stepD s (atR wtT Qs i.val).at_ (atR wtT Qs i.val).x.l (atR fatT Fs i.val)) s
theorem settleD_snoc (Qs : List WtS) (Fs : List Int) {N : Nat} (s : SD) (pre : List (Fin N)) (i : Fin N) : settleD Qs Fs s (pre ++ [i]) = stepD (settleD Qs Fs s pre) (atR wtT Qs i.val).at_ (atR wtT Qs i.val).x.l (atR fatT Fs i.val) := by
  simp [settleD]
def DM.moved (m : DM) (L : List OcS) (DO : DataW Unit) (n' : Nat) : DM := { m with Ls := L, DO := DO, n' := n' }
/-- A disk whose sectors have become others. -/
structure Moved' (W : World) (b : Nat) (m : DM) (K : Nat → Prop) (B : Nat) (s : SD) (j : Nat) (L : List OcS) (DO : DataW Unit) (n' : Nat) (K' : Nat → Prop) : Prop where
  D : DiskM W b (m.moved L DO n') K'
  len : L.length = m.Ls.length
  S : L.map OcS.l = s.1
  O : ∀ z : Int, (Lit.int .i64 z).wf = true → Maps.has DO (.int .i64 z) = s.2 z
  n : n' ≤ m.n' + j
  K : ∀ k, K' k → K k ∨ B ≤ k

set_option maxRecDepth 100000 in
set_option maxHeartbeats 8000000 in
theorem settle_in (m : DM) (b : Nat) (K : Nat → Prop) (w : World) (D : DiskM w b m K) (fp : Option Addr) (fc : Nat) (Fs : List Int) (RF : RowOf fatT w fp Fs) (hl2 : Fs.length ≤ maxLen) (hFT : ∀ b' o, fp = some ⟨b', o, none⟩ → Fs.length ≠ 0 → ¬ (m.sv.ownBlock = some b' ∨ b' = m.om))
    (hFw : ∀ f ∈ Fs, f ≤ 9223372036854775807) (hn : m.n' + m.Qs.length < 1000000) (N : Nat) (hN : N = min m.Qs.length Fs.length) (s0 : SD) (hS0 : m.Ls.map OcS.l = s0.1) (hO0 : ∀ z : Int, (Lit.int .i64 z).wf = true → Maps.has m.DO (.int .i64 z) = s0.2 z) :
    CallsIn Fence.wide 5 Try.prog 68 #[.pointer (some ⟨b, 0, none⟩), .slice fp Fs.length fc] w fun e w' => e = .returned (.tuple #[]) ∧ ∃ L DO n' K', DiskM w' b (m.moved L DO n').clean K' ∧ L.length = m.Ls.length ∧ L.map OcS.l = (settleD m.Qs Fs s0 (fk N N)).1 ∧
      (∀ z : Int, (Lit.int .i64 z).wf = true → Maps.has DO (.int .i64 z) = (settleD m.Qs Fs s0 (fk N N)).2 z) ∧ n' ≤ m.n' + m.Qs.length ∧ (∀ k, K' k → K k ∨ w.heap.size ≤ k) ∧ Sole K w w' := by
  have hro : Fence.wide.round = none := rfl
  have b1 : Below w.heap.size w (((w.alloc (.cells #[.pointer (some ⟨b, 0, none⟩)] 26)).alloc (.cells #[.pointer (some ⟨b, 0, none⟩)] 26)).alloc (.cells #[.slice fp Fs.length fc] 35)) := (((Below.refl _ _).alloc (Nat.le_refl _) _).alloc (by simp) _).alloc (by simp; omega) _
  have c0 : (((w.alloc (.cells #[.pointer (some ⟨b, 0, none⟩)] 26)).alloc (.cells #[.pointer (some ⟨b, 0, none⟩)] 26)).alloc (.cells #[.slice fp Fs.length fc] 35)).cell? ⟨w.heap.size, 0, none⟩ = some (.pointer (some ⟨b, 0, none⟩)) :=
    (((Blk.new w #[.pointer (some ⟨b, 0, none⟩)] 26).alloc _).alloc _).cell 0
  have c1 : (((w.alloc (.cells #[.pointer (some ⟨b, 0, none⟩)] 26)).alloc (.cells #[.pointer (some ⟨b, 0, none⟩)] 26)).alloc (.cells #[.slice fp Fs.length fc] 35)).cell? ⟨w.heap.size + 1, 0, none⟩ = some (.pointer (some ⟨b, 0, none⟩)) := by
    have := ((Blk.new (w.alloc (.cells #[.pointer (some ⟨b, 0, none⟩)] 26)) #[.pointer (some ⟨b, 0, none⟩)] 26).alloc (.cells #[.slice fp Fs.length fc] 35)).cell 0
    rw [World.size_alloc] at this
    exact this
  have c2 : (((w.alloc (.cells #[.pointer (some ⟨b, 0, none⟩)] 26)).alloc (.cells #[.pointer (some ⟨b, 0, none⟩)] 26)).alloc (.cells #[.slice fp Fs.length fc] 35)).cell? ⟨w.heap.size + 1 + 1, 0, none⟩ = some (.slice fp Fs.length fc) := by
    have := (Blk.new ((w.alloc (.cells #[.pointer (some ⟨b, 0, none⟩)] 26)).alloc (.cells #[.pointer (some ⟨b, 0, none⟩)] 26)) #[.slice fp Fs.length fc] 35).cell 0
    rw [World.size_alloc, World.size_alloc] at this
    exact this
  have s3 : (((w.alloc (.cells #[.pointer (some ⟨b, 0, none⟩)] 26)).alloc (.cells #[.pointer (some ⟨b, 0, none⟩)] 26)).alloc (.cells #[.slice fp Fs.length fc] 35)).heap.size = w.heap.size + 3 := by simp
  have hbl := D.blk.lt
  have klt := hid D.klt
  refine callsIn_of_wp_marks Try.func68 rfl trivial ?_ hro
  simp only [Try.ntmps68, List.size_toArray, List.length_cons, List.length_nil, Nat.reduceAdd, Nat.reduceSub, Array.replicate_succ, Array.replicate_zero, List.push_toArray, List.append_toArray, List.nil_append, List.cons_append]
  gi_wp2_with (refine ⟨trivial, ?_⟩; gi_at_call 82; refine (callsIn_wide.2 (fated_any _ _ _ _ _)).mono ?_; rintro e w' ⟨rfl, rfl⟩)
  generalize ((w.alloc (.cells #[.pointer (some ⟨b, 0, none⟩)] 26)).alloc (.cells #[.pointer (some ⟨b, 0, none⟩)] 26)).alloc (.cells #[.slice fp Fs.length fc] 35) = W3 at *
  have D3 := hid (D.more b1)
  obtain ⟨p8, c8, hv8, _, hq2, R8⟩ := D3.out.Q.open wtOk
  have e8 : m.wp = p8 ∧ m.wc = c8 := by simpa [DM.wv] using hv8
  have hR8 : RowP W3 m.wp 2 m.Qs.length (fun i => [.int .i64 (atR wtT m.Qs i).at_, .slice (atR wtT m.Qs i).x.a (atR wtT m.Qs i).x.l.length (atR wtT m.Qs i).x.cap]) := by rw [e8.1]; exact R8
  have hw3 : W3.cell? ⟨b, 3, none⟩ = some (.slice m.wp m.Qs.length m.wc) := D3.out.blk.cell 3
  have hqR : ∀ b' o, m.wp = some ⟨b', o, none⟩ → m.Qs.length ≠ 0 → b' < W3.heap.size := fun b' o e hne => by
    obtain ⟨b2, o2, e2, r2⟩ := hR8.row hne
    rw [e] at e2; cases e2; exact r2.lt
  have hfR : ∀ b' o, fp = some ⟨b', o, none⟩ → Fs.length ≠ 0 → b' < W3.heap.size := fun b' o e hne => by
    obtain ⟨b2, o2, e2, r2⟩ := (RF.more b1).row hne
    rw [e] at e2; cases e2; exact r2.lt
  have hks : ∀ k, (m.sv.ownBlock = some k ∨ k = m.om) → k < w.heap.size := fun k e => e.elim (fun e => klt.out k (D.kk k (.inr (.inr (.inr (.inl e)))))) (fun e => klt.out k (D.kk k (.inr (.inr (.inl e)))))
  have hlmB := klt.out m.lm (D.kk _ (.inr (.inl rfl)))
  have hTK : ∀ k, (m.sv.ownBlock = some k ∨ k = m.om) → K k := fun k e => e.elim (fun e => D.kk k (.inr (.inr (.inr (.inl e))))) (fun e => D.kk k (.inr (.inr (.inl e))))
  have hwQ : ∀ b' o, m.wp = some ⟨b', o, none⟩ → m.Qs.length ≠ 0 → ¬ (m.sv.ownBlock = some b' ∨ b' = m.om) := fun b' o e hne => by
    obtain ⟨g, cap, cur, hv, _, _, _⟩ := (D.Q.2.resolve_left (fun h => hne h.2))
    have e2 : m.wv.ownBlock = some b' := by
      have : m.wp = some ⟨g, 0, none⟩ := by have := hv; simp only [DM.wv, Value.slice.injEq] at this; exact this.1
      rw [this] at e; cases e
      rw [hv]; rfl
    rintro (r | r)
    · exact (D.apart.s _ r).2.2.2.1 e2
    · exact (D.apart.w _ e2).2.2.1 r
  refine wpIn_rangeFunc_ownH hro (by omega) (gf := 96) (lb := #[.pointer (some ⟨w.heap.size + 1, 0, none⟩), .pointer (some ⟨w.heap.size + 1 + 1, 0, none⟩)]) rfl trivial (enters_of Try.func96 (by kernel_rfl) rfl)
    (fated_stops (5 - 1) (by omega) (w.heap.size + 1) (w.heap.size + 1 + 1) b m.wp fp m.wc fc m.Qs Fs N hN (by have := D3.out.Q.open wtOk; obtain ⟨_, _, _, h1, h2, _⟩ := this; omega) hl2 (fun k => (m.sv.ownBlock = some k ∨ k = m.om) ∨ W3.heap.size ≤ k) W3 c1 hw3 c2 (by rintro (r | r); (have := hks _ r; omega); omega) (by omega) (by omega) (by omega) hR8
      (fun b' o e hne => by rintro (r | r); exact hwQ b' o e hne r; (have := hqR b' o e hne; omega)) (RF.more b1) (fun b' o e hne => by rintro (r | r); exact hFT b' o e hne r; (have := hfR b' o e hne; omega)))
    (fun h k => Sole.trans h k) (fun W l o o' hl h hc hw => Sole.grown (grownBy_putObj' W l o') (fun k e => by cases e; exact .inr hl)) (Below.refl _ _) (fun _ => rfl)
    (fun pre W => ∃ L DO n' K', Moved' W b m K W3.heap.size (settleD m.Qs Fs s0 pre) pre.length L DO n' K' ∧ Sole (fun k => m.sv.ownBlock = some k ∨ k = m.om) W3 W)
    (fun _ _ _ => False)
    (fun pre A B row ⟨L, DO, n', K', MV, SW⟩ hg hr => ⟨L, DO, n', K', ⟨MV.D.turned hg hr (by show m.lm < _; omega) (by have := hks m.om (.inr rfl); show m.om < _; omega), MV.len, MV.S, MV.O, MV.n, MV.K⟩, SW.trans' (Sole.grown (S := fun k => row = some k) hg fun k e => e) fun k hk e => by have := (hr k e).1; omega⟩)
    (fun cd => fun _ _ _ _ h _ _ => h)
    ⟨m.Ls, m.DO, m.n', K, ⟨D3.out, rfl, hS0, hO0, Nat.le_refl _, fun k hk => .inl hk⟩, Sole.refl _ _⟩
    (fun i a' W => ∃ Bi, W3.heap.size ≤ Bi ∧ W.heap[Bi]? = some (.cells #[.int .i64 (atR wtT m.Qs i.val).at_, .slice (atR wtT m.Qs i.val).x.a (atR wtT m.Qs i.val).x.l.length (atR wtT m.Qs i.val).x.cap] 103) ∧ a' = { tmps := #[.pointer (some ⟨b, 0, none⟩), .slice fp Fs.length fc, .pointer (some ⟨w.heap.size, 0, none⟩), undef, .pointer (some ⟨Bi, 0, none⟩), .int .i64 (atR fatT Fs i.val), .pointer (some ⟨b, 0, none⟩), .slice fp Fs.length fc, .func (.func 96) #[] #[.pointer (some ⟨w.heap.size + 1, 0, none⟩), .pointer (some ⟨w.heap.size + 1 + 1, 0, none⟩)], wVal (atR wtT m.Qs i.val), .int .i64 (atR fatT Fs i.val), undef, undef, undef, undef, undef, undef, undef, undef], defers := [] })
    ?hAx ?assign ?body ?done ?stop
  case hAx =>
    rintro i a' _ X Y row ⟨Bi, h3, h5, h7⟩ hg hr
    exact ⟨Bi, h3, (grownBy_keeps_cells hg (fun r e => (hr r e).2) h5 rfl).trans h5, h7⟩
  case assign =>
    rintro l pre i W Kc ⟨L, DO, n', K', MV, SW⟩ hK
    simp only [wVal] at hK ⊢
    gi_wp2
    have hb2 : Below W.heap.size W (W.alloc (.cells #[.int .i64 (atR wtT m.Qs i.val).at_, .slice (atR wtT m.Qs i.val).x.a (atR wtT m.Qs i.val).x.l.length (atR wtT m.Qs i.val).x.cap] 103)) := (Below.refl _ W).alloc (Nat.le_refl _) _
    refine hK _ _ ((KeepsOthers.alloc _ _).from _) (Sole.made hb2) ⟨L, DO, n', K', ⟨MV.D.more hb2, MV.len, MV.S, MV.O, MV.n, MV.K⟩, SW.trans (Sole.made hb2)⟩ ⟨W.heap.size, SW.size, World.alloc_heap_new W _, rfl⟩
  case body =>
    rintro l pre i a' W hl ⟨r, hr⟩ ⟨L, DO, n', K', MV, SW⟩ ⟨Bi, h3, h5, rfl⟩ hlt
    have hi := i.isLt
    have hiQ : i.val < m.Qs.length := by omega
    have hiF : i.val < Fs.length := by omega
    have hQO := MV.D.QO (atR wtT m.Qs i.val) (atR_mem (T := wtT) m.Qs i.val hiQ)
    have hat0 : 0 ≤ (atR wtT m.Qs i.val).at_ := hQO.2.1
    have hat1 : (atR wtT m.Qs i.val).at_ < (L.length : Int) := hQO.2.2
    clear hQO
    have hBi : Bi < W.heap.size := (Array.getElem?_eq_some_iff.1 h5).1
    have a0 : W.cell? ⟨Bi, 0, none⟩ = some (.int .i64 (atR wtT m.Qs i.val).at_) := by simp [World.cell?, show W.heap[Bi]? = _ from h5]
    have a1 : W.cell? ⟨Bi, 1, none⟩ = some (.slice (atR wtT m.Qs i.val).x.a (atR wtT m.Qs i.val).x.l.length (atR wtT m.Qs i.val).x.cap) := by simp [World.cell?, show W.heap[Bi]? = _ from h5]
    have hcl := (SW.cell (o := 0) (show w.heap.size < W3.heap.size by omega) (fun e => by have := hks _ e; omega)).trans c0
    have hfw := hFw _ (atR_mem (T := fatT) Fs i.val hiF)
    have hatn : (atR wtT m.Qs i.val).at_ = (((atR wtT m.Qs i.val).at_.toNat : Nat) : Int) := by omega
    have hsv : (m.moved L DO n').sv = m.sv := by simp [DM.sv, DM.moved, MV.len]
    have hsnoc := settleD_snoc m.Qs Fs s0 pre i
    have HMV := hid MV
    have HSW := hid SW
    have hKF : ∀ w9 : World, Sole (fun k => m.sv.ownBlock = some k ∨ k = m.om) W w9 → KeepsFrom W3.heap.size W w9 := fun w9 S => ⟨S.size, fun k o hB hk ho => (S.block k (Array.getElem?_eq_some_iff.1 hk).1 (fun e => by have := hks k e; omega)).trans hk⟩
    replace hKF := hid hKF
    by_cases hf : 1 ≤ atR fatT Fs i.val
    · have KB := hid (become_any (m.moved L DO n') b K' W MV.D i.val hiQ (atR wtT m.Qs i.val).at_.toNat hatn (atR fatT Fs i.val) hf hfw (by have := MV.n; show n' < _; omega))
      have hstep : settleD m.Qs Fs s0 (pre ++ [i]) = stepD (settleD m.Qs Fs s0 pre) (atR wtT m.Qs i.val).at_ (atR wtT m.Qs i.val).x.l (atR fatT Fs i.val) := hsnoc
      unfold stepD at hstep
      rw [if_pos hf] at hstep
      have hfd : decide (atR fatT Fs i.val ≥ 1) = true := decide_eq_true hf
      have hget : (settleD m.Qs Fs s0 pre).1.getD (atR wtT m.Qs i.val).at_.toNat [] = (ocA L (atR wtT m.Qs i.val).at_.toNat).l := by
        have hlt2 : (atR wtT m.Qs i.val).at_.toNat < L.length := by have := MV.len; have h9 : (atR wtT m.Qs i.val).at_ < (L.length : Int) := hat1; omega
        rw [← MV.S, ocA_eq L _ hlt2]
        simp [List.getD, hlt2]
      rw [hget] at hstep
      have hfinal : Hid (∀ w9, BecPost (m.moved L DO n') b (atR wtT m.Qs i.val).at_.toNat K' (atR fatT Fs i.val) (atR wtT m.Qs i.val).x.l W (.returned (.tuple #[])) w9 → KeepsFrom W3.heap.size W w9 ∧ Sole (fun k => (m.sv.ownBlock = some k ∨ k = m.om) ∨ W3.heap.size ≤ k) W w9 ∧
          ∃ L DO n' K', Moved' w9 b m K W3.heap.size (settleD m.Qs Fs s0 (pre ++ [i])) (pre ++ [i]).length L DO n' K' ∧ Sole (fun k => m.sv.ownBlock = some k ∨ k = m.om) W3 w9) := hid (by
        rintro w9 ⟨_, x, DO2, n2, K2, hxl, D2, hn2, hodd, S2, hK2⟩
        rw [hsv] at S2
        replace S2 : Sole (fun k => m.sv.ownBlock = some k ∨ k = m.om) W w9 := S2
        have hxl2 : x.l = nowL (atR fatT Fs i.val) (atR wtT m.Qs i.val).x.l (ocA L (atR wtT m.Qs i.val).at_.toNat).l := hxl
        refine ⟨hKF.out w9 S2, S2.mono fun k _ e => .inl e, L.set (atR wtT m.Qs i.val).at_.toNat x, DO2, n2, K2, ⟨D2, by rw [List.length_set]; exact MV.len, ?_, ?_, ?_, ?_⟩, SW.trans S2⟩
        · rw [List.map_set, MV.S, hstep, hxl2]
        · intro z hz
          rw [hodd z hz, hstep]
          show (if z = (((atR wtT m.Qs i.val).at_.toNat : Nat) : Int) then oddL (atR wtT m.Qs i.val).x.l (ocA L (atR wtT m.Qs i.val).at_.toNat).l x.l (Maps.has DO (.int .i64 z)) else Maps.has DO (.int .i64 z)) = _
          rw [← hatn, hxl2, MV.O z hz]
        · have h1 := MV.n
          have h2 : n2 ≤ n' + 1 := hn2
          rw [List.length_append, List.length_singleton]
          omega
        · intro k hk
          rcases hK2 k hk with r' | r'
          · exact MV.K k r'
          · exact .inr (Nat.le_trans SW.size r'))
      clear MV SW hsnoc hstep hget hat0 hat1 h5 hatn hsv
      dsimp only [wVal]
      generalize hF' : atR fatT Fs i.val = fv at *
      gi_wp2_with (refine ⟨trivial, ?_⟩; gi_at_call 83; refine (CallsIn.inRound l (callsIn_wide.2 KB.out)).mono ?_; rintro e w9 hBP; obtain rfl := hBP.1; have HBP := hid hBP; clear hBP)
      exact hfinal.out _ HBP.out
    · have hfd : decide (atR fatT Fs i.val ≥ 1) = false := decide_eq_false hf
      have hstep : settleD m.Qs Fs s0 (pre ++ [i]) = settleD m.Qs Fs s0 pre := by rw [hsnoc]; unfold stepD; rw [if_neg hf]
      have hfinal : Hid (KeepsFrom W3.heap.size W W ∧ Sole (fun k => (m.sv.ownBlock = some k ∨ k = m.om) ∨ W3.heap.size ≤ k) W W ∧
          ∃ L DO n' K', Moved' W b m K W3.heap.size (settleD m.Qs Fs s0 (pre ++ [i])) (pre ++ [i]).length L DO n' K' ∧ Sole (fun k => m.sv.ownBlock = some k ∨ k = m.om) W3 W) := hid
        ⟨KeepsFrom.refl _ _, Sole.refl _ _, L, DO, n', K', ⟨MV.D, MV.len, by rw [hstep]; exact MV.S, by rw [hstep]; exact MV.O, by have := MV.n; rw [List.length_append]; omega, MV.K⟩, SW⟩
      clear MV SW hsnoc hstep hat0 hat1 h5 hatn hsv
      dsimp only [wVal]
      generalize hF' : atR fatT Fs i.val = fv at *
      clear s3
      gi_wp2
      obtain ⟨f1, f2, L9, D9, n9, K9, f3, f4⟩ := hfinal.out
      first | exact ⟨f1, f2, L9, D9, n9, K9, f3, f4⟩ | exact ⟨f1, f2, ⟨L9, D9, n9, K9, f3⟩, f4⟩
  case done =>
    rintro Db zs W hD rfl ⟨L, DO, n', K', MV, SW⟩ hK
    have hcl := (SW.cell (o := 0) (show w.heap.size < W3.heap.size by omega) (fun e => by have := hks _ e; omega)).trans c0
    have KF := hid (forget_any (m.moved L DO n') b K' W MV.D)
    have HMV := hid MV
    have HSW := hid SW
    have HK := hid hK
    clear hK MV SW
    gi_wp2_with (refine ⟨trivial, ?_⟩; gi_at_call 33; refine (callsIn_wide.2 KF.out).mono ?_; rintro e w' ⟨rfl, D', S'⟩)
    rename World => w9
    have hDn : ¬ (Db = b ∨ Db = m.lm) := by omega
    have hlt : Db < W.heap.size := (Array.getElem?_eq_some_iff.1 HK.out).1
    have hK' : w9.heap[Db]? = some (.deferred (some [])) := (S'.block Db hlt hDn).trans HK.out
    refine ⟨by simp, .inl ⟨_, _, rfl, run_takeDeferred hK', ?_⟩⟩
    have hg := grownBy_putObj' w9 Db (.deferred none)
    have D9 : DiskM (w9.putObj Db (.deferred none)) b (m.moved L DO n').clean K' := D'.turned (B := W3.heap.size) hg (fun r e => by cases e; exact ⟨hD, _, hK', rfl⟩) (by show m.lm < _; omega) (by have := hks m.om (.inr rfl); show m.om < _; omega)
    have Sd : Sole (fun k => k = Db) w9 (w9.putObj Db (.deferred none)) := Sole.grown hg (fun k e => by cases e; rfl)
    have S1 : Sole K w w9 := ((Sole.made b1).trans (HSW.out.mono fun k _ e => hTK k e)).trans (S'.mono fun k _ e => e.elim (fun e => e ▸ D.kk _ (.inl rfl)) (fun e => e ▸ D.kk _ (.inr (.inl rfl))))
    have hpn : (fk N N).length = N := fk_len N N (Nat.le_refl _)
    have hMn := HMV.out.n
    rw [hpn] at hMn
    exact ⟨.tuple #[], results_none rfl _ _ _, rfl, L, DO, n', K', D9, HMV.out.len, HMV.out.S, HMV.out.O, by omega, fun k hk => (HMV.out.K k hk).imp id fun h => by omega, S1.trans' Sd fun k hk e => by omega⟩
  case stop =>
    rintro Db cd pre W hD hpre hf hK
    exact hf.elim
end Go.Proofs.Ytcklmemnjchdcaa

/-
  The document's own disk: what it holds; Broken.
-/



namespace Go.Proofs.Ytcklmemnjchdcaa
open Go.RowKit Go.Maps
set_option linter.unusedVariables false
set_option linter.unusedSimpArgs false

/-- The cells of such a disk. -/
abbrev rdv (p0 : Option Addr) (n0 c0 : Nat) (p1 : Option Addr) (n1 c1 : Nat) (p2 : Option Addr) (n2 c2 : Nat) (off : Bool) (cut : Int) (p5 : Option Addr) (n5 c5 : Nat) (fail : Int) : List Value :=
  [.slice p0 n0 c0, .slice p1 n1 c1, .slice p2 n2 c2, .bool off, .int .i64 cut, .slice p5 n5 c5, .int .i64 fail]
theorem rbelow_one (w : World) (o : Obj) : Below w.heap.size w (w.alloc o) := (Below.refl _ _).alloc (Nat.le_refl _) _

/-- Is a call broken, and what is left to fail. -/
def bkB (off : Bool) (fail : Int) : Bool := off || decide (fail = 0)
def bkF (off : Bool) (fail : Int) : Int := if off then fail else if 0 < fail then fail - 1 else if fail = 0 then -1 else fail
end Go.Proofs.Ytcklmemnjchdcaa

/-
  The document's own disk as data, and where it lies; copies of rows.
-/

namespace Go.Proofs.Ytcklmemnjchdcaa
open Go.RowKit Go.Maps
set_option linter.unusedVariables false
set_option linter.unusedSimpArgs false

theorem r_rowp_sole {S : Nat → Prop} {w w' : World} {p : Option Addr} {sz n : Nat} {f : Nat → List Value} (h : RowP w p sz n f) (hs : Sole S w w') (hn : ∀ b o, p = some ⟨b, o, none⟩ → ¬ S b) : RowP w' p sz n f := by
  rcases h with h | ⟨b, o, e, R⟩
  · exact .inl h
  · exact .inr ⟨b, o, e, Nat.lt_of_lt_of_le R.lt hs.size, fun i hi j v hv => (hs.cell R.lt (hn b o e)).trans (R.cell i hi j v hv)⟩
/-- The document's disk. -/
structure RM where
  p0 : Option Addr
  c0 : Nat
  L : List OcS
  p1 : Option Addr
  c1 : Nat
  Q : List WtS
  p2 : Option Addr
  c2 : Nat
  O : List Bool
  off : Bool
  cut : Int
  p5 : Option Addr
  c5 : Nat
  F : List Int
  fail : Int
abbrev RM.cells (m : RM) : List Value := rdv m.p0 m.L.length m.c0 m.p1 m.Q.length m.c1 m.p2 m.O.length m.c2 m.off m.cut m.p5 m.F.length m.c5 m.fail
abbrev RM.v (m : RM) : Value := .agg m.cells.toArray
/-- Blocks of J, and those made since. -/
def JN (J : Nat → Prop) (w w' : World) : Nat → Prop := fun k => J k ∨ (w.heap.size ≤ k ∧ k < w'.heap.size)
theorem jn_trans {J : Nat → Prop} {a b c : World} (h1 : a.heap.size ≤ b.heap.size) (h2 : b.heap.size ≤ c.heap.size) : ∀ k, JN (JN J a b) b c k → JN J a c k := by
  intro k hk
  rcases hk with (h | h) | h
  · exact .inl h
  · exact .inr ⟨h.1, by omega⟩
  · exact .inr ⟨by omega, h.2⟩
theorem jn_lt {J : Nat → Prop} {a b : World} (h1 : a.heap.size ≤ b.heap.size) (hJ : ∀ k, J k → k < a.heap.size) : ∀ k, JN J a b k → k < b.heap.size := by
  intro k hk
  rcases hk with h | h
  · have := hJ k h; omega
  · exact h.2

theorem sole_setAll {S : Nat → Prop} {b : Nat} (hb : S b) : ∀ (vs : List Value) (o : Nat) (w : World), Sole S w (setAll w b o vs)
  | [], _, w => Sole.refl S w
  | v :: vs, o, w => (Sole.setCell (S := S) w (b := b) (o := o) v hb).trans (sole_setAll hb vs (o + 1) _)
/-- append([]T{}, L...): a row of the call's own. -/
theorem copy_row {α : Type} {T : RowT α} (K : T.Ok) (W : World) (s : Nat) (hs : W.heap.size = s) (q : Option Addr) (c : Nat) (L : List α) (R : RowOf T W q L) (h1 : L.length * T.bytes ≤ 140737488355328) (h2 : L.length ≤ maxLen) :
    ∃ g c' w', (∀ ty, (Builtin.append_ #[T.sl, T.sl] ty #[.slice (some ⟨s, 0, none⟩) 0 0, .slice q L.length c]).run Try.prog (W.alloc (.cells #[] T.ty)) = .ok (.slice (some ⟨g, 0, none⟩) L.length c') w') ∧
      RowOwn T w' W.heap.size (.slice (some ⟨g, 0, none⟩) L.length c') L ∧ Below W.heap.size W w' ∧ W.heap.size ≤ g ∧ g < w'.heap.size := by
  subst hs
  have OM : RowOwn T (W.alloc (.cells #[] T.ty)) W.heap.size (.slice (some ⟨W.heap.size, 0, none⟩) 0 0) [] := World.ownsRow_made (size := T.sz) W #[] 0 (Nat.le_refl _) (Nat.zero_le _) (by simp)
  have hb0 : Below W.heap.size W (W.alloc (.cells #[] T.ty)) := Below.alloc (Below.refl _ _) (Nat.le_refl _) _
  obtain ⟨v', w', hr, O', gr, mv⟩ := append_row K W.heap.size T.sl (W.alloc (.cells #[] T.ty)) _ [] OM q c L (RowOf.more R hb0) (by simpa using h1) (by simpa using h2) (by simp)
  rw [List.nil_append] at O'
  have hg : ∃ g, v'.ownBlock = some g := by
    rcases mv with e | e
    · exact ⟨_, e⟩
    · exact ⟨_, e⟩
  obtain ⟨g, hg⟩ := hg
  rcases O'.form with ⟨rfl, _⟩ | ⟨g', cap, rfl, hb1, hb2, _, _⟩
  · cases hg
  · exact ⟨g', cap, w', fun ty => hr, O', Below.grown hb0 gr (by simp) fun k hk => (OM.within k hk).1, hb1, hb2⟩
theorem copy_octs (W : World) (s : Nat) (hs : W.heap.size = s) (a : Option Addr) (c : Nat) (l : List UInt8) (hl : Octs W a l) (h1 : l.length ≤ 140737488355328) :
    ∃ g c' w', (∀ ty, (Builtin.append_ #[51, 51] ty #[.slice (some ⟨s, 0, none⟩) 0 0, .slice a l.length c]).run Try.prog (W.alloc (.cells #[] 5)) = .ok (.slice (some ⟨g, 0, none⟩) l.length c') w') ∧
      (⟨some ⟨g, 0, none⟩, c', l⟩ : OcS).there w' ∧ w'.ownsRow W.heap.size 5 1 (.slice (some ⟨g, 0, none⟩) l.length c') l.length (Lib.byteCells l) ∧ Below W.heap.size W w' ∧ W.heap.size ≤ g ∧ g < w'.heap.size := by
  subst hs
  have OM := World.ownsRow_made (size := 1) (e := 5) (base := W.heap.size) W #[] 0 (Nat.le_refl _) (Nat.zero_le _) rfl
  have hb0 : Below W.heap.size W (W.alloc (.cells #[] 5)) := Below.alloc (Below.refl _ _) (Nat.le_refl _) _
  obtain ⟨v', w', hr, O', gr, mv⟩ := append_octs W.heap.size 51 (W.alloc (.cells #[] 5)) _ 0 [] OM a c l (hl.more hb0) (by omega) (by simp)
  rw [Nat.zero_add, List.nil_append] at O'
  have hg : ∃ g, v'.ownBlock = some g := by
    rcases mv with e | ⟨g, e, _⟩
    · exact ⟨_, e⟩
    · exact ⟨_, e⟩
  obtain ⟨g, hg⟩ := hg
  have hlt := O'.lt g hg
  rcases O'.2 with ⟨rfl, _⟩ | ⟨g', cap, cur, rfl, hb1, hg1, hc1, hc2, _, _⟩
  · cases hg
  · cases hg
    exact ⟨g', cap, w', fun ty => hr, ⟨Octs.of_own O', hc1, hc2⟩, O', Below.grown hb0 gr (by simp) fun k hk => (OM.lt k hk).1, hlt.1, hlt.2⟩
end Go.Proofs.Ytcklmemnjchdcaa

/-
  Package disk: goAtZero where the power goes, Cut.
-/


namespace Go.Proofs.Ytcklmemnjchdcaa
open Go.RowKit Go.Maps
set_option linter.unusedVariables false
set_option linter.unusedSimpArgs false

def DM.sd (m : DM) : SD := (m.Ls.map OcS.l, fun z => Maps.has m.DO (.int .i64 z))
/-- What settling leaves. -/
structure Settled (w w' : World) (b : Nat) (m : DM) (K : Nat → Prop) (Fs : List Int) (N : Nat) (L : List OcS) (DO : DataW Unit) (n' : Nat) (K' : Nat → Prop) : Prop where
  len : L.length = m.Ls.length
  S : L.map OcS.l = (settleD m.Qs Fs m.sd (fk N N)).1
  O : ∀ z : Int, (Lit.int .i64 z).wf = true → Maps.has DO (.int .i64 z) = (settleD m.Qs Fs m.sd (fk N N)).2 z
  n : n' ≤ m.n' + m.Qs.length
  K : ∀ k, K' k → K k ∨ w.heap.size ≤ k
theorem settle_any (m : DM) (b : Nat) (K : Nat → Prop) (w : World) (D : DiskM w b m K) (fp : Option Addr) (fc : Nat) (Fs : List Int) (RF : RowOf fatT w fp Fs) (hl2 : Fs.length ≤ maxLen) (hFT : ∀ b' o, fp = some ⟨b', o, none⟩ → Fs.length ≠ 0 → ¬ (m.sv.ownBlock = some b' ∨ b' = m.om))
    (hFw : ∀ f ∈ Fs, f ≤ 9223372036854775807) (hn : m.n' + m.Qs.length < 1000000) :
    Calls Try.prog 68 #[.pointer (some ⟨b, 0, none⟩), .slice fp Fs.length fc] w fun e w' => e = .returned (.tuple #[]) ∧ ∃ L DO n' K', DiskM w' b (m.moved L DO n').clean K' ∧ Settled w w' b m K Fs (min m.Qs.length Fs.length) L DO n' K' ∧ Sole K w w' :=
  (callsIn_wide.1 (settle_in m b K w D fp fc Fs RF hl2 hFT hFw hn _ rfl m.sd rfl (fun z hz => rfl))).mono fun e w' ⟨he, L, DO, n', K', hD, h1, h2, h3, h4, h5, h6⟩ => ⟨he, L, DO, n', K', hD, ⟨h1, h2, h3, h4, h5⟩, h6⟩

/-- The power has gone. -/
def DM.gone (m : DM) : DM := { m with off := true, tl := false, cl := 0, fp := none, fc := 0, Fs := [] }
theorem base_gone {m : DM} {b g : Nat} (h : m.gone.base b g) : m.base b g := by
  rcases h with h | h | h | h | h | h
  · exact .inl h
  · exact .inr (.inl h)
  · exact .inr (.inr (.inl h))
  · exact .inr (.inr (.inr (.inl h)))
  · exact .inr (.inr (.inr (.inr (.inl h))))
  · cases h
theorem DiskM.gone {w w' : World} {b : Nat} {m : DM} {K : Nat → Prop} (h : DiskM w b m K) (hs : Sole (fun k => k = b) w w') (hB : Blk w' b m.gone.cells) : DiskM w' b m.gone K := by
  have hx : ∀ x : OcS, x.soft w ∧ x.full K m b → x.soft w' ∧ x.full K m.gone b := fun x ⟨ht, g, e, kg, hg, r⟩ => ⟨so_sole ht hs fun b' o e' => by rw [e] at e'; cases e'; exact fun h' => hg (.inl h'), g, e, kg, fun h' => hg (base_gone h'), r⟩
  exact
  { blk := hB
    apart := ⟨h.apart.bl, h.apart.bo, h.apart.lo, fun k e => ⟨(h.apart.s k e).1, (h.apart.s k e).2.1, (h.apart.s k e).2.2.1, (h.apart.s k e).2.2.2.1, nofun⟩, fun k e => ⟨(h.apart.w k e).1, (h.apart.w k e).2.1, (h.apart.w k e).2.2.1, nofun⟩, nofun⟩
    kk := fun k hk => h.kk k (base_gone hk)
    klt := fun k hk => Nat.lt_of_lt_of_le (h.klt k hk) hs.size
    S := h.S.sole hs fun k e h' => (h.apart.s k e).1 h'
    SO := fun x hx' => hx x (h.SO x hx')
    Q := h.Q.sole hs fun k e h' => (h.apart.w k e).1 h'
    QO := fun y hy => ⟨hx _ (h.QO y hy).1, (h.QO y hy).2⟩
    F := RowOwn.nil _ _
    L := map_sole h.L hs fun h' => h.apart.bl h'.symm
    O := map_sole h.O hs fun h' => h.apart.bo h'.symm
    last := h.last
    lenS := h.lenS
    cwf := rfl
    fwf := h.fwf
    uniq := ⟨h.uniq.s, h.uniq.q, h.uniq.sq⟩ }

set_option maxRecDepth 100000 in
set_option maxHeartbeats 4000000 in
theorem goz_fire (m : DM) (b : Nat) (K : Nat → Prop) (w : World) (D : DiskM w b m K) (ht : m.tl = true) (hc : m.cl ≤ 0) (hFw : ∀ f ∈ m.Fs, f ≤ 9223372036854775807) (hn : m.n' + m.Qs.length < 1000000) :
    Calls Try.prog 48 #[.pointer (some ⟨b, 0, none⟩)] w fun e w' => e = .returned (.tuple #[]) ∧ ∃ L DO n' K', DiskM w' b (m.moved L DO n').clean.gone K' ∧ Settled w w' b m K m.Fs (min m.Qs.length m.Fs.length) L DO n' K' ∧ Sole K w w' := by
  obtain ⟨pf, cf, hvf, _, hlf, RF⟩ := D.F.open fatOk
  have ef : m.fp = pf ∧ m.fc = cf := by simpa [DM.fv] using hvf
  have KS := hid (settle_any m b K w D m.fp m.fc m.Fs (by rw [ef.1]; exact RF) (by omega) (fun b' o e hne => by
    have e2 : m.fv.ownBlock = some b' := by
      obtain ⟨g, cap, cur, hv, _⟩ := D.F.2.resolve_left (fun h => hne h.2)
      have : m.fp = some ⟨g, 0, none⟩ := by have := hv; simp only [DM.fv, Value.slice.injEq] at this; exact this.1
      rw [this] at e; cases e
      rw [hv]; rfl
    rintro (r | r)
    · exact (D.apart.s _ r).2.2.2.2 e2
    · exact (D.apart.f _ e2).2.2 r) hFw hn)
  have B0 := D.blk
  simp only [DM.cells, DM.sv, DM.wv, DM.fv, ht] at B0
  have hkb := D.kk b (.inl rfl)
  have hcd : decide (m.cl ≤ 0) = true := decide_eq_true hc
  have hkb' := hid hkb
  clear D RF hvf ef hlf hFw hn hkb
  obtain ⟨l0, k0, f0⟩ := B0
  go_enter Try.func48, Try.ntmps48
  go_wp2_with fail
  refine KS.out.mono ?_
  rintro e w2 ⟨rfl, L, DO, n', K', D2, ST, S2⟩
  have B2 := D2.blk
  have B7 := (((B2.set 1 (.bool true) (by simp [DM.cells])).set 6 (.bool false) (by simp [DM.cells])).set 7 (.int .i64 0) (by simp [DM.cells])).set 8 (.slice none 0 0) (by simp [DM.cells])
  have S7 := (((Sole.setCell (S := fun k => k = b) w2 (b := b) (o := 1) (.bool true) rfl).trans (Sole.setCell _ (b := b) (o := 6) (.bool false) rfl)).trans (Sole.setCell _ (b := b) (o := 7) (.int .i64 0) rfl)).trans (Sole.setCell _ (b := b) (o := 8) (.slice none 0 0) rfl)
  have D7 := D2.gone S7 B7
  have E7 := hid (And.intro D7 (And.intro ST (S2.trans (S7.mono (T := K) fun k _ e => e ▸ hkb'.out))))
  clear D2 ST S2 B7 S7 D7 KS l0 k0 f0
  simp only [DM.cells, DM.sv, DM.wv, DM.fv] at B2
  obtain ⟨l2, k2, f2⟩ := B2
  go_wp2_with fail
  refine bodyPost_end (results_none rfl _ _ _) rfl ?_
  exact ⟨rfl, L, DO, n', K', E7.out.1, ⟨E7.out.2.1.len, E7.out.2.1.S, E7.out.2.1.O, E7.out.2.1.n, E7.out.2.1.K⟩, E7.out.2.2⟩

set_option maxRecDepth 100000 in
theorem fclone_any (p : Option Addr) (cap : Nat) (L : List Int) (hl : L.length ≤ 17592186044416) (w : World) (R : RowOf fatT w p L) (hp : p = none → L = []) :
    Calls Try.prog 43 #[.slice p L.length cap] w fun e w' => ∃ v, e = .returned v ∧ RowOwn fatT w' w.heap.size v L ∧ Below w.heap.size w w' := by
  rcases p with _ | x
  · obtain rfl := hp rfl
    have ke := fun w => Lib.run_eql_slice_nil_nil (P := Try.prog) w (t := 35) (e := 3) 0 cap Try.underlying35
    go_enter Try.func43, Try.ntmps43
    go_wp2_with fail
    go_ret
    exact ⟨_, rfl, RowOwn.nil _ _, Below.refl _ _⟩
  · have ke := fun w => Lib.run_eql_slice_some_nil (P := Try.prog) w (t := 35) (e := 3) x L.length cap Try.underlying35
    have OM : RowOwn fatT (w.alloc (.cells #[] 3)) w.heap.size (.slice (some ⟨w.heap.size, 0, none⟩) 0 0) [] := World.ownsRow_made (size := 1) w #[] 0 (Nat.le_refl _) (Nat.zero_le _) rfl
    have hb0 : Below w.heap.size w (w.alloc (.cells #[] 3)) := Below.alloc (Below.refl _ _) (Nat.le_refl _) _
    obtain ⟨v', w', hr, O', gr, mv⟩ := append_row fatOk w.heap.size 35 (w.alloc (.cells #[] 3)) _ [] OM (some x) cap L (RowOf.more R hb0) (by show (0 + L.length) * 8 ≤ _; omega) (by unfold maxLen; simp; omega) (by simp)
    have E : Hid (RowOwn fatT w' w.heap.size v' L ∧ Below w.heap.size w w') := hid ⟨O', Below.grown hb0 gr (by simp) fun k hk => (OM.within k hk).1⟩
    clear R OM hb0 O' gr mv hp
    replace hl := hid hl
    go_enter Try.func43, Try.ntmps43
    go_wp2_with (at_builtin; refine Lib.wpList_append_run _ rfl _ _ _ _ rfl _ _ rfl rfl _ _ hr ?_)
    go_ret
    exact ⟨_, rfl, E.out.1, E.out.2⟩

/-- When the power goes is told. -/
def DM.toldCut (m : DM) (z : Int) (q : Option Addr) (c : Nat) (Fs : List Int) : DM := { m with tl := true, cl := z, fp := q, fc := c, Fs := Fs }
theorem DiskM.toldCut {w w1 w2 : World} {b : Nat} {m : DM} {K : Nat → Prop} (h : DiskM w b m K) {z : Int} (hz : (Lit.int .i64 z).wf = true) {q : Option Addr} {c : Nat} {Fs : List Int} (b01 : Below w.heap.size w w1) (hF : RowOwn fatT w1 w.heap.size (.slice q Fs.length c) Fs) (hs : Sole (fun k => k = b) w1 w2)
    (hB : Blk w2 b (m.toldCut z q c Fs).cells) : DiskM w2 b (m.toldCut z q c Fs) (fun k => K k ∨ (w.heap.size ≤ k ∧ k < w1.heap.size)) := by
  have hin := hF.within
  have s01 := b01.size
  have s12 := hs.size
  have hbl : ∀ k, m.base b k → k < w.heap.size := fun k e => h.klt k (h.kk k e)
  have hbase : ∀ k, (m.toldCut z q c Fs).base b k → m.base b k ∨ w.heap.size ≤ k := by
    rintro k (e | e | e | e | e | e)
    · exact .inl (.inl e)
    · exact .inl (.inr (.inl e))
    · exact .inl (.inr (.inr (.inl e)))
    · exact .inl (.inr (.inr (.inr (.inl e))))
    · exact .inl (.inr (.inr (.inr (.inr (.inl e)))))
    · exact .inr (hin k e).1
  have D1 := h.more b01
  have kb := h.klt b (h.kk b (.inl rfl))
  have kl := hbl m.lm (.inr (.inl rfl))
  have ko := hbl m.om (.inr (.inr (.inl rfl)))
  have hx : ∀ x : OcS, x.soft w1 ∧ x.full K m b → x.soft w2 ∧ x.full (fun k => K k ∨ (w.heap.size ≤ k ∧ k < w1.heap.size)) (m.toldCut z q c Fs) b := fun x ⟨ht, g, e, kg, hg, r⟩ =>
    ⟨so_sole ht hs fun b' o e' => by rw [e] at e'; cases e'; exact fun h' => hg (.inl h'), g, e, .inl kg, fun h' => by rcases hbase g h' with r | r; exact hg r; (have := h.klt g kg; omega), r⟩
  exact
  { blk := hB
    apart := ⟨h.apart.bl, h.apart.bo, h.apart.lo, fun k e => ⟨(h.apart.s k e).1, (h.apart.s k e).2.1, (h.apart.s k e).2.2.1, (h.apart.s k e).2.2.2.1, fun e' => by have := (hin k e').1; have := hbl k (.inr (.inr (.inr (.inl e)))); omega⟩,
      fun k e => ⟨(h.apart.w k e).1, (h.apart.w k e).2.1, (h.apart.w k e).2.2.1, fun e' => by have := (hin k e').1; have := hbl k (.inr (.inr (.inr (.inr (.inl e))))); omega⟩,
      fun k e => ⟨by have := (hin k e).1; omega, by have := (hin k e).1; show k ≠ m.lm; omega, by have := (hin k e).1; show k ≠ m.om; omega⟩⟩
    kk := fun k hk => by
      rcases hk with e | e | e | e | e | e
      · exact .inl (h.kk k (.inl e))
      · exact .inl (h.kk k (.inr (.inl e)))
      · exact .inl (h.kk k (.inr (.inr (.inl e))))
      · exact .inl (h.kk k (.inr (.inr (.inr (.inl e)))))
      · exact .inl (h.kk k (.inr (.inr (.inr (.inr (.inl e))))))
      · exact .inr (hin k e)
    klt := fun k hk => by
      rcases hk with r | r
      · have := h.klt k r; omega
      · omega
    S := D1.S.sole hs fun k e h' => (h.apart.s k e).1 h'
    SO := fun x hx' => hx x ⟨(D1.SO x hx').1, (h.SO x hx').2⟩
    Q := D1.Q.sole hs fun k e h' => (h.apart.w k e).1 h'
    QO := fun y hy => ⟨hx _ ⟨(D1.QO y hy).1.1, (h.QO y hy).1.2⟩, (h.QO y hy).2⟩
    F := (hF.mono (Nat.zero_le _)).sole hs fun k e h' => by have := (hin k e).1; omega
    L := map_sole D1.L hs fun h' => h.apart.bl h'.symm
    O := map_sole D1.O hs fun h' => h.apart.bo h'.symm
    last := h.last
    lenS := h.lenS
    cwf := hz
    fwf := h.fwf
    uniq := ⟨h.uniq.s, h.uniq.q, h.uniq.sq⟩ }

end Go.Proofs.Ytcklmemnjchdcaa

/-
  Package disk: Flush.
-/

namespace Go.Proofs.Ytcklmemnjchdcaa
open Go.RowKit Go.Maps
set_option linter.unusedVariables false
set_option linter.unusedSimpArgs false

/-- The first j of what waits become sure, wholly. -/
def flushD (Qs : List WtS) (s : SD) (j : Nat) : SD := (Qs.take j).foldl (fun s y => stepD s y.at_ y.x.l 1) s
theorem flushD_succ (Qs : List WtS) (s : SD) (j : Nat) (h : j < Qs.length) : flushD Qs s (j + 1) = stepD (flushD Qs s j) (atR wtT Qs j).at_ (atR wtT Qs j).x.l 1 := by
  unfold flushD
  rw [List.take_add_one, List.getElem?_eq_getElem h, Option.toList_some, List.foldl_append, List.foldl_cons, List.foldl_nil, atR_eq Qs j h]
/-- One of those that wait becomes sure: what is known then. -/
theorem moved_step {W w9 : World} {b : Nat} {m : DM} {K : Nat → Prop} {B : Nat} {s s' : SD} {c : Nat} {L : List OcS} {DO : DataW Unit} {n' : Nat} {K' : Nat → Prop} (MV : Moved' W b m K B s c L DO n' K') {j : Nat} (hj : j < m.Qs.length) {f : Int} (hf : 1 ≤ f) (hs : s' = stepD s (atR wtT m.Qs j).at_ (atR wtT m.Qs j).x.l f) {W0 : World} (hB0 : B ≤ W0.heap.size)
    (hb : BecPost (m.moved L DO n') b (atR wtT m.Qs j).at_.toNat K' f (atR wtT m.Qs j).x.l W0 (.returned (.tuple #[])) w9) :
    (∃ L DO n' K', Moved' w9 b m K B s' (c + 1) L DO n' K') ∧ Sole (fun k => m.sv.ownBlock = some k ∨ k = m.om) W0 w9 := by
  have hQO := MV.D.QO (atR wtT m.Qs j) (atR_mem (T := wtT) m.Qs j hj)
  have hat0 : 0 ≤ (atR wtT m.Qs j).at_ := hQO.2.1
  have hat1 : (atR wtT m.Qs j).at_ < (L.length : Int) := hQO.2.2
  have hatn : (atR wtT m.Qs j).at_ = (((atR wtT m.Qs j).at_.toNat : Nat) : Int) := by omega
  have hsv : (m.moved L DO n').sv = m.sv := by simp [DM.sv, DM.moved, MV.len]
  have hget : s.1.getD (atR wtT m.Qs j).at_.toNat [] = (ocA L (atR wtT m.Qs j).at_.toNat).l := by
    have hlt2 : (atR wtT m.Qs j).at_.toNat < L.length := by omega
    rw [← MV.S, ocA_eq L _ hlt2]
    simp [List.getD, hlt2]
  unfold stepD at hs
  rw [if_pos hf, hget] at hs
  obtain ⟨_, x, DO2, n2, K2, hxl, D2, hn2, hodd, S2, hK2⟩ := hb
  rw [hsv] at S2
  replace S2 : Sole (fun k => m.sv.ownBlock = some k ∨ k = m.om) W0 w9 := S2
  have hxl2 : x.l = nowL f (atR wtT m.Qs j).x.l (ocA L (atR wtT m.Qs j).at_.toNat).l := hxl
  refine ⟨⟨L.set (atR wtT m.Qs j).at_.toNat x, DO2, n2, K2, ⟨D2, by rw [List.length_set]; exact MV.len, ?_, ?_, ?_, ?_⟩⟩, S2⟩
  · rw [List.map_set, MV.S, hs, hxl2]
  · intro z hz
    rw [hodd z hz, hs]
    show (if z = (((atR wtT m.Qs j).at_.toNat : Nat) : Int) then oddL (atR wtT m.Qs j).x.l (ocA L (atR wtT m.Qs j).at_.toNat).l x.l (Maps.has DO (.int .i64 z)) else Maps.has DO (.int .i64 z)) = _
    rw [← hatn, hxl2, MV.O z hz]
  · have h1 := MV.n
    have h2 : n2 ≤ n' + 1 := hn2
    omega
  · intro k hk
    rcases hK2 k hk with r' | r'
    · exact MV.K k r'
    · exact .inr (Nat.le_trans hB0 r')

end Go.Proofs.Ytcklmemnjchdcaa

/-
  The law's own small check of a disk: alive.
-/



namespace Go.Proofs.Ytcklmemnjchdcaa
open Go.RowKit Go.Maps
set_option linter.unusedVariables false
set_option linter.unusedSimpArgs false

theorem settle_none (m : DM) (b : Nat) (K : Nat → Prop) (w : World) (D : DiskM w b m K) (fp : Option Addr) (fc : Nat) (Fs : List Int) (RF : RowOf fatT w fp Fs) (hl2 : Fs.length ≤ maxLen) (h0 : min m.Qs.length Fs.length = 0) :
    Calls Try.prog 68 #[.pointer (some ⟨b, 0, none⟩), .slice fp Fs.length fc] w fun e w' => e = .returned (.tuple #[]) ∧ DiskM w' b m.clean K ∧ Sole K w w' := callsIn_wide.1 (settle_none_in m b K w D fp fc Fs RF hl2 h0)
theorem kbelow {K : Nat → Prop} {B : Nat} {w w' : World} (h : Sole K w w') (hB : B ≤ w.heap.size) (hK : ∀ k, K k → B ≤ k) : Below B w w' := h.below hB hK

theorem seven_octs (t : TypeId) (n : Nat) (w : World) : Octs (w.alloc (.cells ((madeCells #[.int .u8 0] n).setIfInBounds 0 (.int .u8 7)) t)) (some ⟨w.heap.size, 0, none⟩) ((zerosN n).set 0 7) := by
  refine .inr ⟨_, _, rfl, by simp, fun i hi => ?_⟩
  have h := (Blk.new w ((madeCells #[.int .u8 0] n).setIfInBounds 0 (.int .u8 7)) t).cell (0 + i)
  rw [h, Nat.zero_add]
  have hi' : i < n := by rw [List.length_set, zerosN_len] at hi; exact hi
  rcases i with _ | i
  · rw [Array.getElem?_setIfInBounds_self_of_lt (by rw [size_madeCells]; exact hi')]
    simp
  · rw [Array.getElem?_setIfInBounds_ne (by omega)]
    simp [madeCells, zerosN, hi', Nat.mod_one]
end Go.Proofs.Ytcklmemnjchdcaa

/-
  Layer 14: the law's own full sectors.
-/

namespace Go.Proofs.Ytcklmemnjchdcaa
open Go.RowKit Go.Maps
set_option linter.unusedVariables false
set_option linter.unusedSimpArgs false

def fullV (n : Int) (j : Nat) : Int := (n + ((j / 100 : Nat) : Int)) % 256
def fullL (n : Int) : List UInt8 := (List.range 256).map fun j => UInt8.ofNat (fullV n j).toNat
theorem fullL_len (n : Int) : (fullL n).length = 256 := by unfold fullL; rw [List.length_map, List.length_range]
theorem full_cell (n : Int) (j : Nat) (h : j < (fullL n).length) : ((fullL n)[j].toNat : Int) = fullV n j := by
  have h0 : 0 ≤ fullV n j := Int.emod_nonneg _ (by omega)
  have h1 : fullV n j < 256 := Int.emod_lt_of_pos _ (by omega)
  have : (fullL n)[j] = UInt8.ofNat (fullV n j).toNat := by simp [fullL]
  rw [this]
  have h2 : (UInt8.ofNat (fullV n j).toNat).toNat = (fullV n j).toNat := by
    rw [UInt8.toNat_ofNat']
    omega
  rw [h2]
  omega
end Go.Proofs.Ytcklmemnjchdcaa

/-
  Package disk: Waits and Count of a disk; Power where it is off; what settling leaves alone.
-/



namespace Go.Proofs.Ytcklmemnjchdcaa
open Go.RowKit Go.Maps
set_option linter.unusedVariables false
set_option linter.unusedSimpArgs false

/-- A sector that none of these writes is for stays. -/
theorem stepD_other (s : SD) (z : Int) (l : List UInt8) (f : Int) (i : Nat) (h : z.toNat ≠ i) : (stepD s z l f).1[i]? = s.1[i]? := by
  unfold stepD
  split
  · exact List.getElem?_set_ne h
  · rfl
theorem settleD_other (Qs : List WtS) (Fs : List Int) {N : Nat} (i : Nat) (hN : N ≤ Qs.length) (h : ∀ y ∈ Qs, y.at_.toNat ≠ i) : ∀ (pre : List (Fin N)) (s : SD), (settleD Qs Fs s pre).1[i]? = s.1[i]?
  | [], s => rfl
  | j :: pre, s => by
    have ih := settleD_other Qs Fs i hN h pre (stepD s (atR wtT Qs j.val).at_ (atR wtT Qs j.val).x.l (atR fatT Fs j.val))
    have hj := j.isLt
    show (settleD Qs Fs (stepD s (atR wtT Qs j.val).at_ (atR wtT Qs j.val).x.l (atR fatT Fs j.val)) pre).1[i]? = _
    rw [ih]
    exact stepD_other s _ _ _ i (h _ (atR_mem (T := wtT) Qs j.val (by omega)))
end Go.Proofs.Ytcklmemnjchdcaa

/-
  The document's own disk: put: a sector is as it is told.
-/


namespace Go.Proofs.Ytcklmemnjchdcaa
open Go.RowKit Go.Maps
set_option linter.unusedVariables false
set_option linter.unusedSimpArgs false

theorem flatR_set1 {α : Type} {T : RowT α} (hsz : T.sz = 1) (K : T.Ok) (c : α → Value) (hc : ∀ x, T.cells x = [c x]) (L : List α) (k : Nat) (x : α) : (flatR T L).set k (c x) = flatR T (L.set k x) := by
  have hf : ∀ M : List α, flatR T M = M.map c := fun M => by
    induction M with
    | nil => rfl
    | cons a M ih => simp only [flatR, List.flatMap_cons, List.map_cons, hc] at ih ⊢; rw [ih]; rfl
  rw [hf, hf, List.map_set]
/-- A store into an owned row whose elements are one cell each. -/
theorem row_set1 {α : Type} {T : RowT α} (hsz : T.sz = 1) (K : T.Ok) (c : α → Value) (hc : ∀ x, T.cells x = [c x]) {w : World} {base g cap : Nat} {L : List α} (h : RowOwn T w base (.slice (some ⟨g, 0, none⟩) L.length cap) L) (k : Nat) (x : α) :
    RowOwn T (w.setCell ⟨g, k, none⟩ (c x)) base (.slice (some ⟨g, 0, none⟩) (L.set k x).length cap) (L.set k x) := by
  unfold RowOwn at h ⊢
  rw [hsz] at h ⊢
  rw [List.length_set, ← flatR_set1 hsz K c hc]
  exact own_set h k (c x)
/-- A row of the call's own as a block that may be written. -/
theorem row_blk1 {α : Type} {T : RowT α} (hsz : T.sz = 1) {w : World} {base g cap : Nat} {L : List α} (h : RowOwn T w base (.slice (some ⟨g, 0, none⟩) L.length cap) L) (hn : L.length ≠ 0) : ∃ cur, Blk w g cur ∧ L.length ≤ cur.size := by
  unfold RowOwn at h
  rw [hsz] at h
  obtain ⟨g', cap', cur, e, _, h1, _, B, hs, _⟩ := own_blk h hn
  cases e
  exact ⟨cur, B, by omega⟩
theorem row_of {α : Type} {T : RowT α} (K : T.Ok) {w : World} {base : Nat} {p : Option Addr} {n cap : Nat} {L : List α} (h : RowOwn T w base (.slice p n cap) L) : RowOf T w p L := by
  obtain ⟨p', c', e, _, _, R⟩ := RowOwn.open K h
  simp only [Value.slice.injEq] at e
  rw [e.1]; exact R

theorem own_g {g n c j : Nat} (e : (Value.slice (some ⟨g, 0, none⟩) n c).ownBlock = some j) : j = g := by cases e; rfl
/-- The disk with this sector. -/
abbrev RM.put (m : RM) (p0 : Option Addr) (c0 : Nat) (p2 : Option Addr) (c2 : Nat) (k : Nat) (y : OcS) (odd : Bool) : RM := { m with p0 := p0, c0 := c0, L := m.L.set k y, p2 := p2, c2 := c2, O := m.O.set k odd }
end Go.Proofs.Ytcklmemnjchdcaa

/-
  Package disk: Write whatever comes, Fail.
-/

namespace Go.Proofs.Ytcklmemnjchdcaa
open Go.RowKit Go.Maps
set_option linter.unusedVariables false
set_option linter.unusedSimpArgs false

theorem wr_bad (m : DM) (b : Nat) (z : Int) (K : Nat → Prop) (w : World) (D : DiskM w b m K) (h : m.trb = true) (a : Option Addr) (n cap : Nat) :
    Calls Try.prog 14 #[.pointer (some ⟨b, 0, none⟩), .int .i64 z, .slice a n cap] w fun e w' => e = .returned (.int .i64 20) ∧ DiskM w' b m.after K ∧ Sole K w w' := by
  have KT := hid (trouble_any m b w D.blk)
  have Dh := hid D
  have ht := h
  clear D h
  simp only [ht, if_true, ↓reduceIte] at KT
  go_enter Try.func14, Try.ntmps14
  go_wp2_with fail
  refine KT.out.mono ?_
  rintro e w1 ⟨rfl, hB, hS⟩
  have E := hid (show DiskM w1 b m.after K ∧ Sole K w w1 from ⟨Dh.out.after hB hS, hS.mono fun k _ e => e ▸ Dh.out.kk _ (.inl rfl)⟩)
  clear hB hS KT Dh
  go_wp2_with fail
  go_ret
  exact ⟨rfl, E.out⟩
theorem wr_far (m : DM) (b : Nat) (z : Int) (K : Nat → Prop) (w : World) (D : DiskM w b m K) (h : m.trb = false) (hr : ¬ (0 ≤ z ∧ z < (m.Ls.length : Int))) (a : Option Addr) (n cap : Nat) :
    Calls Try.prog 14 #[.pointer (some ⟨b, 0, none⟩), .int .i64 z, .slice a n cap] w fun e w' => e = .returned (.int .i64 4) ∧ DiskM w' b m.after K ∧ Sole K w w' := by
  have KT := hid (trouble_any m b w D.blk)
  have Dh := hid D
  have ht := h
  clear D h
  simp only [ht, Bool.false_eq_true, if_false, ↓reduceIte] at KT
  go_enter Try.func14, Try.ntmps14
  go_wp2_with fail
  refine KT.out.mono ?_
  rintro e w1 ⟨rfl, hB, hS⟩
  have KH := has_any m.after b z w1 hB
  rw [show decide (0 ≤ z ∧ z < (m.after.Ls.length : Int)) = false from decide_eq_false hr] at KH
  replace KH := hid KH
  have E := hid (show DiskM w1 b m.after K ∧ Sole K w w1 from ⟨Dh.out.after hB hS, hS.mono fun k _ e => e ▸ Dh.out.kk _ (.inl rfl)⟩)
  clear hB hS KT Dh hr
  go_wp2_with fail
  refine KH.out.mono ?_
  rintro e w2 ⟨rfl, hw⟩
  rw [hw]
  clear hw w2 KH
  go_wp2_with fail
  go_ret
  exact ⟨rfl, E.out⟩
theorem wr_long (m : DM) (b : Nat) (z : Int) (K : Nat → Prop) (w : World) (D : DiskM w b m K) (h : m.trb = false) (hr : 0 ≤ z ∧ z < (m.Ls.length : Int)) (a : Option Addr) (n cap : Nat) (hn : n ≠ 256) :
    Calls Try.prog 14 #[.pointer (some ⟨b, 0, none⟩), .int .i64 z, .slice a n cap] w fun e w' => e = .returned (.int .i64 5) ∧ DiskM w' b m.after K ∧ Sole K w w' := by
  have KT := hid (trouble_any m b w D.blk)
  have Dh := hid D
  have ht := h
  clear D h
  simp only [ht, Bool.false_eq_true, if_false, ↓reduceIte] at KT
  go_enter Try.func14, Try.ntmps14
  go_wp2_with fail
  refine KT.out.mono ?_
  rintro e w1 ⟨rfl, hB, hS⟩
  have KH := has_any m.after b z w1 hB
  rw [show decide (0 ≤ z ∧ z < (m.after.Ls.length : Int)) = true from decide_eq_true hr] at KH
  replace KH := hid KH
  have E := hid (show DiskM w1 b m.after K ∧ Sole K w w1 from ⟨Dh.out.after hB hS, hS.mono fun k _ e => e ▸ Dh.out.kk _ (.inl rfl)⟩)
  have hn' : ((n : Int) == 256) = false := by rw [beq_eq_false_iff_ne]; omega
  clear hB hS KT Dh hr hn
  go_wp2_with fail
  refine KH.out.mono ?_
  rintro e w2 ⟨rfl, hw⟩
  rw [hw]
  clear hw w2 KH
  go_wp2_with fail
  go_ret
  exact ⟨rfl, E.out⟩

/-- What a write answers where there is no trouble. -/
def wrC (N : Nat) (z : Int) (n : Nat) : Int := if 0 ≤ z ∧ z < (N : Int) then (if n = 256 then 0 else 5) else 4
/-- What of a disk no write changes, where no power goes. -/
structure Same (m m' : DM) : Prop where
  off : m'.off = m.off
  tl : m'.tl = m.tl
  tf : m'.tf = m.after.tf
  fl : m'.fl = m.after.fl
  L : m'.Ls = m.Ls
  O : m'.DO = m.DO
  o : m'.n' = m.n'
  q : m'.Qs.length ≤ m.Qs.length + 1
  n : m'.n ≤ m.n + 1
theorem wr_off (m : DM) (b : Nat) (z : Int) (K : Nat → Prop) (w : World) (D : DiskM w b m K) (htr : m.trb = false) (htl : m.tl = false) (hz : (Lit.int .i64 z).wf = true) (hn : m.n < 1000000) (hq : m.Qs.length ≤ 1000000)
    (x : OcS) (hx : x.there w) (hxK : ∀ b' o, x.a = some ⟨b', o, none⟩ → ¬ K b') :
    Calls Try.prog 14 #[.pointer (some ⟨b, 0, none⟩), .int .i64 z, .slice x.a x.l.length x.cap] w fun e w' => e = .returned (.int .i64 (wrC m.Ls.length z x.l.length)) ∧
      ∃ m' K', DiskM w' b m' K' ∧ Sole K w w' ∧ (∀ k, K' k → K k ∨ w.heap.size ≤ k) ∧ Same m m' := by
  unfold wrC
  by_cases hr : 0 ≤ z ∧ z < (m.Ls.length : Int)
  · rw [if_pos hr]
    by_cases hl : x.l.length = 256
    · rw [if_pos hl]
      have h := write_any (G := fun _ _ w1 w' => w' = w1) m b z K w D x hx hxK hl hz hr.1 hr.2 htr hn hq (fun y q c w1 K1 Dx => goz_off _ _ _ Dx.blk htl)
      rw [hl]
      refine h.mono ?_
      rintro e w' ⟨rfl, y, q, c, w1, K1, hy, D1, S1, hK, rfl⟩
      refine ⟨rfl, _, K1, D1, S1, hK, ⟨rfl, rfl, rfl, rfl, rfl, rfl, rfl, ?_, Nat.le_refl _⟩⟩
      show (m.Qs ++ [(⟨z, y⟩ : WtS)]).length ≤ _
      simp
    · rw [if_neg hl]
      refine (wr_long m b z K w D htr hr x.a x.l.length x.cap hl).mono ?_
      rintro e w' ⟨rfl, D1, S1⟩
      exact ⟨rfl, _, K, D1, S1, fun k h => .inl h, ⟨rfl, rfl, rfl, rfl, rfl, rfl, rfl, Nat.le_succ _, Nat.le_succ _⟩⟩
  · rw [if_neg hr]
    refine (wr_far m b z K w D htr hr x.a x.l.length x.cap).mono ?_
    rintro e w' ⟨rfl, D1, S1⟩
    exact ⟨rfl, _, K, D1, S1, fun k h => .inl h, ⟨rfl, rfl, rfl, rfl, rfl, rfl, rfl, Nat.le_succ _, Nat.le_succ _⟩⟩

end Go.Proofs.Ytcklmemnjchdcaa

namespace Go.Proofs.Ytcklmemnjchdcaa
open Go.RowKit Go.Maps
set_option linter.unusedVariables false
set_option linter.unusedSimpArgs false

theorem u8OneD : (Try.prog.info? 5).map (·.size) = some 1 := by kernel_rfl
theorem wpList_copy_ran {P : Program} (w : World) {ops : Array Oper} {rest : List Oper} {o : Oper} {a : Act} {Q : Exit → Act → World → Prop} (hgd : o.guard = none) (d s : Operand) (t t' : TypeId)
    (ho : o.op = .call { callee := .builtin .copy, args := #[d, s], argTypes := #[t, t'] }) (vd vs : Value) (hd : a.eval d = vd) (hs : a.eval s = vs)
    (v' : Value) (w' : World) (hr : (Builtin.copy_ #[t, t'] o.type #[vd, vs]).run P w = .ok v' w') (h : wpList P ops Q rest (a.put o.dst v') w') : wpList P ops Q (o :: rest) a w := by
  refine wpList_plain hgd fun K hK => ?_
  unfold Oper.wp
  simp [execOp, ho, resolve, invoke, builtin, hd, hs, hr, Result.andThen]
  exact hK _ _ h
theorem oc_sole' {S : Nat → Prop} {w w' : World} {x : OcS} (h : x.there w) (hs : Sole S w w') (hn : ∀ b o, x.a = some ⟨b, o, none⟩ → x.l ≠ [] → ¬ S b) : x.there w' := ⟨h.1.sole hs hn, h.2⟩
theorem sole_setCells {S : Nat → Prop} {b : Nat} (hb : S b) : ∀ (vs : List Value) (o : Nat) (w : World), Sole S w (w.setCells b o vs)
  | [], _, w => Sole.refl S w
  | v :: r, o, w => (Sole.setCell (S := S) w (b := b) (o := o) v hb).trans (sole_setCells hb r (o + 1) _)
/-- What a sector becomes that is loaded. -/
def fillL (l : List UInt8) : List UInt8 := l.take 256 ++ zerosN (256 - l.length)
theorem fillL_len (l : List UInt8) : (fillL l).length = 256 := by
  unfold fillL
  rw [List.length_append, List.length_take, zerosN_len]
  omega
/-- A sector's own octets are others. -/
theorem DiskM.inner {w w' : World} {b : Nat} {m : DM} {K : Nat → Prop} (h : DiskM w b m K) (hQ : m.Qs = []) {i : Nat} (hi : i < m.Ls.length) {g : Nat} (hg : (ocA m.Ls i).a = some ⟨g, 0, none⟩) (hs : Sole (fun k => k = g) w w') (l : List UInt8) (hl : l.length = 256)
    (ho : Octs w' (some ⟨g, 0, none⟩) l) (hf : ∀ j, w'.frozen? ⟨g, j, none⟩ = false) : DiskM w' b { m with Ls := m.Ls.set i ⟨(ocA m.Ls i).a, (ocA m.Ls i).cap, l⟩ } K := by
  have hx := h.SO _ (ocA_mem m.Ls i hi)
  obtain ⟨hsoft, g', e', kg, hbg, hl0⟩ := hx
  rw [hg] at e'; cases e'
  have hglt := h.klt g kg
  have hb : ∀ k, m.base b k → k ≠ g := fun k hk e => hbg (e ▸ hk)
  have hsv : ({ m with Ls := m.Ls.set i ⟨(ocA m.Ls i).a, (ocA m.Ls i).cap, l⟩ } : DM).sv = m.sv := by simp [DM.sv]
  have hba : ∀ k, ({ m with Ls := m.Ls.set i ⟨(ocA m.Ls i).a, (ocA m.Ls i).cap, l⟩ } : DM).base b k → m.base b k := fun k hk => by
    unfold DM.base at hk ⊢
    rw [hsv] at hk
    exact hk
  have hset : flatR ocT (m.Ls.set i ⟨(ocA m.Ls i).a, (ocA m.Ls i).cap, l⟩) = flatR ocT m.Ls := by
    rw [flatO_map, flatO_map, List.map_set, hl, ← hl0]
    apply List.ext_getElem
    · simp
    · intro j h1 h2
      rw [List.getElem_set]
      split
      · rename_i e
        subst e
        rw [List.getElem_map, ← ocA_eq m.Ls i hi]
      · rfl
  exact
  { blk := by
      have : ({ m with Ls := m.Ls.set i ⟨(ocA m.Ls i).a, (ocA m.Ls i).cap, l⟩ } : DM).cells = m.cells := by simp [DM.cells, DM.sv]
      rw [this]
      exact h.blk.sole hs (hb b (.inl rfl))
    apart := ⟨h.apart.bl, h.apart.bo, h.apart.lo, by rw [hsv]; exact h.apart.s, h.apart.w, h.apart.f⟩
    kk := fun k hk => h.kk k (hba k hk)
    klt := fun k hk => Nat.lt_of_lt_of_le (h.klt k hk) hs.size
    S := by
      rw [hsv]
      have := h.S.sole hs fun k e => hb k (.inr (.inr (.inr (.inl e))))
      unfold RowOwn at this ⊢
      rw [List.length_set, hset]
      exact this
    SO := fun x hx => by
      obtain ⟨j, hj, rfl⟩ := List.getElem_of_mem hx
      rw [List.length_set] at hj
      rw [List.getElem_set]
      split
      · refine ⟨⟨⟨by rw [hg]; exact ho, by have := hsoft.1.2.1; rw [hl0] at this; show l.length ≤ (ocA m.Ls i).cap; omega, hsoft.1.2.2⟩, fun b' o e => ?_⟩, g, hg, kg, fun hk => hbg (hba g hk), hl⟩
        rw [show (ocA m.Ls i).a = some ⟨b', o, none⟩ from e] at hg; cases hg
        exact ⟨Nat.lt_of_lt_of_le hglt hs.size, hf⟩
      · rename_i hne
        obtain ⟨hy, g2, e2, k2, hb2, hl2⟩ := h.SO _ (List.getElem_mem hj)
        refine ⟨so_sole hy hs fun b' o e => ?_, g2, e2, k2, fun hk => hb2 (hba g2 hk), hl2⟩
        rw [e2] at e; cases e
        rintro rfl
        have hu := h.uniq.s
        unfold List.Nodup at hu
        rw [List.pairwise_iff_getElem] at hu
        have e3 : m.Ls[i].a = m.Ls[j].a := by rw [← ocA_eq m.Ls i hi, hg, e2]
        rcases Nat.lt_or_gt_of_ne hne with h1 | h1
        · exact hu i j (by rw [List.length_map]; exact hi) (by rw [List.length_map]; exact hj) h1 (by rw [List.getElem_map, List.getElem_map]; exact e3)
        · exact hu j i (by rw [List.length_map]; exact hj) (by rw [List.length_map]; exact hi) h1 (by rw [List.getElem_map, List.getElem_map]; exact e3.symm)
    Q := h.Q.sole hs fun k e => hb k (.inr (.inr (.inr (.inr (.inl e)))))
    QO := fun y hy => by rw [show ({ m with Ls := m.Ls.set i ⟨(ocA m.Ls i).a, (ocA m.Ls i).cap, l⟩ } : DM).Qs = [] from hQ] at hy; cases hy
    F := h.F.sole hs fun k e => hb k (.inr (.inr (.inr (.inr (.inr e)))))
    L := map_sole h.L hs (hb _ (.inr (.inl rfl)))
    O := map_sole h.O hs (hb _ (.inr (.inr (.inl rfl))))
    last := h.last
    lenS := by show (m.Ls.set i _).length ≤ 4096; rw [List.length_set]; exact h.lenS
    cwf := h.cwf
    fwf := h.fwf
    uniq := by
      refine ⟨?_, h.uniq.q, fun s j hs hj e => by rw [show ({ m with Ls := m.Ls.set i ⟨(ocA m.Ls i).a, (ocA m.Ls i).cap, l⟩ } : DM).Qs = [] from hQ] at hj; cases hj⟩
      have : (m.Ls.set i ⟨(ocA m.Ls i).a, (ocA m.Ls i).cap, l⟩).map OcS.a = m.Ls.map OcS.a := by
        rw [List.map_set]
        apply List.ext_getElem
        · simp
        · intro j h1 h2
          rw [List.getElem_set]
          split
          · rename_i e
            subst e
            rw [List.getElem_map, ← ocA_eq m.Ls i hi]
          · rfl
      show ((m.Ls.set i ⟨(ocA m.Ls i).a, (ocA m.Ls i).cap, l⟩).map OcS.a).Nodup
      rw [this]
      exact h.uniq.s }
theorem octs_setCells {w : World} {g : Nat} {l : List UInt8} (h : Octs w (some ⟨g, 0, none⟩) l) (l' : List UInt8) (hl : l'.length ≤ l.length) :
    Octs (w.setCells g 0 (l'.map fun x => .int .u8 (x.toNat : Int))) (some ⟨g, 0, none⟩) (l' ++ l.drop l'.length) := by
  rcases h with h0 | ⟨b, o, e, hlt, hc⟩
  · subst h0
    exact .inl (by simp at hl ⊢; exact hl)
  · cases e
    refine .inr ⟨g, 0, rfl, Nat.lt_of_lt_of_le hlt (sole_setCells (S := fun _ => True) trivial _ _ _).size, fun i hi => ?_⟩
    have hi' : i < l.length := by rw [List.length_append, List.length_drop] at hi; omega
    by_cases h1 : i < l'.length
    · have := World.cell?_setCells_in g (l'.map fun x => Value.int .u8 (x.toNat : Int)) 0 w (fun j hj => by
        rw [List.length_map] at hj
        rw [hc j (by omega)]; rfl) i (by rw [List.length_map]; exact h1)
      rw [this, List.getElem_map, List.getElem_append_left h1]
    · rw [World.cell?_setCells_out g _ 0 w ⟨g, 0 + i, none⟩ (fun _ _ => .inr (by rw [List.length_map]; show 0 + l'.length ≤ 0 + i; omega)), hc i hi', List.getElem_append_right (by omega), List.getElem_drop]
      rw [show l[l'.length + (i - l'.length)]'(by omega) = l[i] from getElem_congr rfl (by omega) _]
/-- clear and copy, into a sector of its own. -/
theorem clear_run (w : World) (g cap : Nat) (l : List UInt8) (hl : l.length = 256) (ho : Octs w (some ⟨g, 0, none⟩) l) (hf : ∀ j, w.frozen? ⟨g, j, none⟩ = false) :
    (∀ ty, (Builtin.clear_ #[51] ty #[.slice (some ⟨g, 0, none⟩) 256 cap]).run Try.prog w = .ok (.tuple #[]) (w.setCells g 0 (List.replicate 256 (.int .u8 0)))) ∧ Octs (w.setCells g 0 (List.replicate 256 (.int .u8 0))) (some ⟨g, 0, none⟩) (zerosN 256) ∧ (∀ j, (w.setCells g 0 (List.replicate 256 (.int .u8 0))).frozen? ⟨g, j, none⟩ = false) := by
  have hc : ∀ j, j < 256 → (w.cell? ⟨g, 0 + j, none⟩).isSome = true := fun j hj => by
    rcases ho with h0 | ⟨b, o, e, hlt, hc⟩
    · rw [h0] at hl; cases hl
    · cases e
      rw [hc j (by omega)]; rfl
  refine ⟨fun ty => Lib.run_clear_slice w 51 5 ty (.int .u8 0) Try.underlying51 (fun w => by kernel_rfl) rfl rfl g 0 256 cap (by omega) hc (fun j hj => hf _), ?_, fun j => by rw [World.frozen?_setCells]; exact hf j⟩
  have := octs_setCells ho (zerosN 256) (by rw [zerosN_len, hl]; exact Nat.le_refl _)
  rw [zerosN_len, List.drop_of_length_le (by omega), List.append_nil] at this
  have e : (zerosN 256).map (fun x => Value.int .u8 (x.toNat : Int)) = List.replicate 256 (.int .u8 0) := by unfold zerosN; rw [List.map_replicate]; rfl
  rw [e] at this
  exact this
theorem copy_run (w : World) (g cap : Nat) (ho : Octs w (some ⟨g, 0, none⟩) (zerosN 256)) (hf : ∀ j, w.frozen? ⟨g, j, none⟩ = false) (x : OcS) (hx : x.there w) :
    (∀ ty, (Builtin.copy_ #[51, 51] ty #[.slice (some ⟨g, 0, none⟩) 256 cap, .slice x.a x.l.length x.cap]).run Try.prog w = .ok (.int .i64 ((x.l.take 256).length : Int)) (w.setCells g 0 ((x.l.take 256).map fun x => .int .u8 (x.toNat : Int)))) ∧
      Octs (w.setCells g 0 ((x.l.take 256).map fun x => .int .u8 (x.toNat : Int))) (some ⟨g, 0, none⟩) (fillL x.l) ∧ (∀ j, (w.setCells g 0 ((x.l.take 256).map fun x => .int .u8 (x.toNat : Int))).frozen? ⟨g, j, none⟩ = false) := by
  have hlt : (x.l.take 256).length ≤ 256 := by rw [List.length_take]; omega
  refine ⟨fun ty => ?_, ?_, fun j => by rw [World.frozen?_setCells]; exact hf j⟩
  · rcases hx.1 with h0 | ⟨b, o, e, hlt', hc⟩
    · rw [h0]
      exact run_copy_none (P := Try.prog) w _ _ ty 5 _ _ 256 cap 0 x.cap Try.underlying51 (u8OneD) (by simp)
    · rw [e]
      have := run_copy_cells (P := Try.prog) w 51 51 ty 5 g 0 256 cap ⟨b, o, none⟩ x.l.length x.cap ((x.l.take 256).map fun x => Value.int .u8 (x.toNat : Int)) Try.underlying51 (u8OneD)
        (by rw [List.length_map, List.length_take]; exact Nat.min_comm _ _)
        (fun j u hj => by
          rw [List.getElem?_map] at hj
          obtain ⟨y, hy, rfl⟩ := Option.map_eq_some_iff.1 hj
          obtain ⟨hj', hy'⟩ := List.getElem?_eq_some_iff.1 hy
          rw [List.length_take] at hj'
          rw [List.getElem_take] at hy'
          rw [addr_plus, hc j (by omega), hy'])
        (fun j hj => by
          rw [List.length_map] at hj
          rcases ho with h0 | ⟨b', o', e', _, hc'⟩
          · cases h0
          · cases e'
            rw [hc' j (by rw [zerosN_len]; omega)]; rfl)
        (fun j hj => hf _) (fun u hu => by obtain ⟨y, _, rfl⟩ := List.mem_map.1 hu; rfl)
      rw [List.length_map] at this
      exact this
  · have := octs_setCells ho (x.l.take 256) (by rw [zerosN_len]; exact hlt)
    have e : (zerosN 256).drop (x.l.take 256).length = zerosN (256 - x.l.length) := by
      unfold zerosN
      rw [List.drop_replicate, List.length_take]
      congr 1
      omega
    rw [e] at this
    exact this

/-- A disk behind Load, as far as it has come. -/
structure Loaded (W : World) (b : Nat) (m : DM) (K : Nat → Prop) (Xs : List OcS) (k : Nat) (L : List OcS) (DO : DataW Unit) : Prop where
  D : DiskM W b (m.clean.moved L DO m.n') K
  len : L.length = m.Ls.length
  S : ∀ i, i < m.Ls.length → (ocA L i).l = if i < k then fillL (ocA Xs i).l else (ocA m.Ls i).l
  O : ∀ z : Int, (Lit.int .i64 z).wf = true → Maps.has DO (.int .i64 z) = if 0 ≤ z ∧ z < (k : Int) then false else Maps.has m.DO (.int .i64 z)
theorem Loaded.next {W W2 W3 : World} {b : Nat} {m : DM} {K : Nat → Prop} {Xs : List OcS} {k : Nat} {L : List OcS} {DO : DataW Unit} (h : Loaded W b m K Xs k L DO) (hk : k < m.Ls.length) {g : Nat} (hg : (ocA L k).a = some ⟨g, 0, none⟩)
    (S12 : Sole (fun j => j = g) W W2) (ho : Octs W2 (some ⟨g, 0, none⟩) (fillL (ocA Xs k).l)) (hf : ∀ j, W2.frozen? ⟨g, j, none⟩ = false) (S23 : Sole (fun j => j = m.om) W2 W3) (hO : W3.ownsMap Try.prog 3 unitElem m.om m.n' (DO.del (.int .i64 (k : Int)))) :
    ∃ L', Loaded W3 b m K Xs (k + 1) L' (DO.del (.int .i64 (k : Int))) ∧ Sole K W W3 := by
  have hk' : k < L.length := by rw [h.len]; exact hk
  have D2 := h.D.inner rfl hk' hg S12 _ (fillL_len _) ho hf
  have kg : K g := by
    obtain ⟨_, g', e, kg, _⟩ := h.D.SO _ (ocA_mem L k hk')
    have : some (⟨g, 0, none⟩ : Addr) = some ⟨g', 0, none⟩ := hg.symm.trans e
    cases this; exact kg
  have ko : K m.om := h.D.kk _ (.inr (.inr (.inl rfl)))
  refine ⟨L.set k ⟨(ocA L k).a, (ocA L k).cap, fillL (ocA Xs k).l⟩, ⟨?_, by rw [List.length_set]; exact h.len, fun i hi => ?_, fun z hz => ?_⟩, (S12.mono fun j _ e => e ▸ kg).trans (S23.mono fun j _ e => e ▸ ko)⟩
  · have hbo : ∀ j, j = m.om → (m.clean.moved (L.set k ⟨(ocA L k).a, (ocA L k).cap, fillL (ocA Xs k).l⟩) DO m.n').base b j := fun j e => .inr (.inr (.inl e))
    have ap := D2.apart
    exact
    { blk := D2.blk.sole S23 ap.bo
      apart := ⟨ap.bl, ap.bo, ap.lo, ap.s, ap.w, ap.f⟩
      kk := D2.kk
      klt := fun j hj => Nat.lt_of_lt_of_le (D2.klt j hj) S23.size
      S := D2.S.sole S23 fun j e => (ap.s j e).2.2.1
      SO := fun x hx => by
        obtain ⟨hs, g', e', kg', hb', r⟩ := D2.SO x hx
        exact ⟨so_sole hs S23 fun b' o e => by rw [e'] at e; cases e; exact fun h' => hb' (hbo _ h'), g', e', kg', hb', r⟩
      Q := D2.Q.sole S23 fun j e => (ap.w j e).2.2.1
      QO := fun y hy => by cases hy
      F := D2.F.sole S23 fun j e => (ap.f j e).2.2
      L := map_sole D2.L S23 ap.lo
      O := hO
      last := D2.last
      lenS := D2.lenS
      cwf := D2.cwf
      fwf := D2.fwf
      uniq := ⟨D2.uniq.s, D2.uniq.q, D2.uniq.sq⟩ }
  · have hi' : i < L.length := by rw [h.len]; exact hi
    rw [ocA_eq _ i (by rw [List.length_set]; exact hi'), List.getElem_set]
    split
    · rename_i e
      subst e
      rw [if_pos (by omega)]
    · rename_i e
      rw [← ocA_eq L i hi', h.S i hi]
      by_cases h1 : i < k
      · rw [if_pos h1, if_pos (by omega)]
      · rw [if_neg h1, if_neg (by omega)]
  · by_cases e : z = (k : Int)
    · subst e
      rw [if_pos (by omega)]
      exact has_del_same
    · rw [has_del_other (fun e' => e (by cases e'; rfl)), h.O z hz]
      by_cases h1 : 0 ≤ z ∧ z < (k : Int)
      · rw [if_pos h1, if_pos (by omega)]
      · rw [if_neg h1, if_neg (by omega)]

theorem measure_down (N k : Nat) (h : k < N) (z : Int) (hz : z = ((k + 1 : Nat) : Int)) : N - (intOf (.int .i64 z)).toNat < N - (intOf (.int .i64 (k : Int))).toNat := by
  subst hz
  show N - (((k + 1 : Nat) : Int)).toNat < N - ((k : Int)).toNat
  omega
set_option maxRecDepth 100000 in
set_option maxHeartbeats 4000000 in
theorem load_any (m : DM) (b : Nat) (K : Nat → Prop) (w : World) (D : DiskM w b m K) (xp : Option Addr) (xc : Nat) (Xs : List OcS) (RX : RowOf ocT w xp Xs) (hxp : ∀ b' o, xp = some ⟨b', o, none⟩ → Xs.length ≠ 0 → ¬ K b') (hX : ∀ x ∈ Xs, x.there w ∧ ∀ b' o, x.a = some ⟨b', o, none⟩ → x.l ≠ [] → ¬ K b') :
    Calls Try.prog 15 #[.pointer (some ⟨b, 0, none⟩), .slice xp Xs.length xc] w fun e w' => e = .returned (.tuple #[]) ∧ ∃ L DO, Loaded w' b m K Xs (min Xs.length m.Ls.length) L DO ∧ Sole K w w' := by
  have KF := hid (forget_any m b K w D)
  have B0 := D.blk
  simp only [DM.cells, DM.sv, DM.wv, DM.fv] at B0
  have hbK := hid D.kk
  have hlS := hid D.lenS
  have hDO : ∀ z : Int, (Lit.int .i64 z).wf = true → Maps.has m.DO (.int .i64 z) = if 0 ≤ z ∧ z < ((0 : Nat) : Int) then false else Maps.has m.DO (.int .i64 z) := fun z _ => by rw [if_neg (by omega)]
  replace hDO := hid hDO
  obtain ⟨N, hN⟩ : ∃ N : Nat, min Xs.length m.Ls.length = N := ⟨_, rfl⟩
  have hNm : min (Xs.length : Int) (m.Ls.length : Int) = (N : Int) := by omega
  have hNh := hid hN
  have RXh := hid RX
  have hXh := hid hX
  have hxph := hid hxp
  rw [hN]
  clear D RX hX hxp hN
  obtain ⟨l0, k0, f0⟩ := B0
  go_enter Try.func15, Try.ntmps15
  go_wp2_with fail
  refine KF.out.mono ?_
  rintro e w1 ⟨rfl, D1, S1⟩
  have L1 := hid (show Loaded w1 b m K Xs 0 m.Ls m.DO from ⟨D1, rfl, fun i hi => by rw [if_neg (by omega)], hDO.out⟩)
  have T1 := hid (S1.mono (T := K) fun k _ e => by rcases e with rfl | rfl; exact hbK.out _ (.inl rfl); exact hbK.out _ (.inr (.inl rfl)))
  have B1 : Blk w1 b #[.bool true, .bool m.off, .slice m.sp m.Ls.length m.sc, .slice none 0 0, .map (some m.lm), .map (some m.om), .bool m.tl, .int .i64 m.cl, .slice m.fp m.Fs.length m.fc, .bool m.tf, .int .i64 m.fl] := D1.blk
  clear D1 S1 KF hDO l0 k0 f0
  obtain ⟨l1, k1, f1⟩ := B1
  go_wp2_with fail
  clear l1 k1 f1 hNm
  go_loopw [24] (fun i wr => ∃ k : Nat, k ≤ N ∧ i = .int .i64 (k : Int) ∧ Sole K w wr ∧ ∃ L DO, Loaded wr b m K Xs k L DO) (fun i _ => N - (intOf i).toNat)
  case atStart => exact ⟨0, Nat.zero_le _, rfl, T1.out, _, _, L1.out⟩
  case round =>
    obtain ⟨k, hk, rfl, hs, L, DO, HL⟩ := hrel
    by_cases hlt : k < N
    · have hkX : k < Xs.length := by have := hNh.out; omega
      have hkL : k < m.Ls.length := by have := hNh.out; omega
      have hkX' : (k : Int) < (Xs.length : Int) := by omega
      have hkL' : (k : Int) < (m.Ls.length : Int) := by omega
      have hk0 : (0 : Int) ≤ (k : Int) := by omega
      have hkN : (k : Int) < (N : Int) := by omega
      have Dk := HL.D
      have hkL2 : k < L.length := by rw [HL.len]; exact hkL
      obtain ⟨hso, g, hga, kg, hbg, hgl⟩ := Dk.SO _ (ocA_mem L k hkL2)
      obtain ⟨p7, c7, hv7, _, _, R7⟩ := Dk.S.open ocOk
      have e7 : m.sp = p7 ∧ m.sc = c7 := by simpa [DM.sv, DM.moved, DM.clean] using hv7
      have hR7 : RowP wr m.sp 1 L.length (fun i => [.slice (ocA L i).a (ocA L i).l.length (ocA L i).cap]) := by rw [e7.1]; exact R7
      obtain ⟨b7, o7, hq7, r7⟩ := hR7.row (by omega)
      have hown7 : m.sv.ownBlock = some b7 := by
        obtain ⟨g', cap, cur, hv, _⟩ := Dk.S.2.resolve_left (fun h => by have := h.2; have : L.length = 0 := this; omega)
        have : m.sp = some ⟨g', 0, none⟩ := by have := hv; simp only [DM.sv, DM.moved, DM.clean, Value.slice.injEq] at this; exact this.1
        rw [this] at hq7; cases hq7
        show (Value.slice m.sp m.Ls.length m.sc).ownBlock = _
        rw [this]; rfl
      have hb7g : b7 ≠ g := fun e => hbg (.inr (.inr (.inr (.inl (by
        have : (m.clean.moved L DO m.n').sv = m.sv := by simp [DM.sv, DM.moved, DM.clean, HL.len]
        rw [this, hown7, e])))))
      have c7 := r7.at0 (i := k) hkL2 (v := .slice (ocA L k).a (ocA L k).l.length (ocA L k).cap) rfl
      rw [Nat.mul_one, hga, hgl] at c7
      have hRX : RowP wr xp 1 Xs.length (fun i => [.slice (ocA Xs i).a (ocA Xs i).l.length (ocA Xs i).cap]) := by
        rcases RXh.out with h | ⟨b', o', e', R⟩
        · exact .inl h
        · exact .inr ⟨b', o', e', Nat.lt_of_lt_of_le R.lt hs.size, fun i hi j v hv => (hs.cell R.lt (hxph.out b' o' e' (by omega))).trans (R.cell i hi j v hv)⟩
      obtain ⟨b8, o8, hq8, r8⟩ := hRX.row (by omega)
      have hb8g : b8 ≠ g := fun e => hxph.out b8 o8 hq8 (by omega) (e ▸ kg)
      have c8 := r8.at0 (i := k) hkX (v := .slice (ocA Xs k).a (ocA Xs k).l.length (ocA Xs k).cap) rfl
      rw [Nat.mul_one] at c8
      have hxk := hXh.out _ (ocA_mem Xs k hkX)
      have hxt := oc_sole' hxk.1 hs hxk.2
      have hfz := (hso.2 g 0 hga).2
      have hog : Octs wr (some ⟨g, 0, none⟩) (ocA L k).l := by rw [← hga]; exact hso.1.1
      obtain ⟨hcl, ho1, hf1⟩ := clear_run wr g (ocA L k).cap _ hgl hog hfz
      have Sc : Sole (fun j => j = g) wr (wr.setCells g 0 (List.replicate 256 (.int .u8 0))) := sole_setCells (S := fun j => j = g) rfl _ _ _
      generalize wr.setCells g 0 (List.replicate 256 (.int .u8 0)) = W2 at hcl ho1 hf1 Sc
      have Bk : Blk wr b #[.bool true, .bool m.off, .slice m.sp m.Ls.length m.sc, .slice none 0 0, .map (some m.lm), .map (some m.om), .bool m.tl, .int .i64 m.cl, .slice m.fp m.Fs.length m.fc, .bool m.tf, .int .i64 m.fl] := by
        have := Dk.blk
        simp only [DM.cells, DM.sv, DM.wv, DM.fv, DM.moved, DM.clean, HL.len] at this
        exact this
      have hbb : b ≠ g := fun e => hbg (.inl e.symm)
      have Bk1 := Bk.sole Sc hbb
      have hxt1 := hid (oc_sole' hxt Sc fun b' o e hne e' => hxk.2 b' o e hne (e' ▸ kg))
      have hxl := r8.lt
      have c71 := (Sc.cell (o := o7 + k) r7.lt hb7g).trans c7
      have c81 := (Sc.cell (o := o8 + k) r8.lt hb8g).trans c8
      have hlt7 := Nat.lt_of_lt_of_le r7.lt Sc.size
      have hlt8 := Nat.lt_of_lt_of_le r8.lt Sc.size
      replace ho1 := hid ho1
      replace hf1 := hid hf1
      have Sch := hid Sc
      have HLh := hid HL
      have hsh := hid hs
      have hgah := hid hga
      have hxkh := hid hxk
      have hkgh := hid kg
      have hkLh := hid hkL
      have hltn := hid hlt
      rw [hq7] at Bk Bk1
      rw [hq8]
      have NX := hid (fun (W4 w5 : World) (S24 : Sole (fun j => j = g) wr W4) (ho : Octs W4 (some ⟨g, 0, none⟩) (fillL (ocA Xs k).l)) (hf : ∀ j, W4.frozen? ⟨g, j, none⟩ = false) (S5 : Sole (fun j => j = m.om) W4 w5) (hO : w5.ownsMap Try.prog 3 unitElem m.om m.n' (DO.del (.int .i64 (k : Int)))) => HLh.out.next hkLh.out hgah.out S24 ho hf S5 hO)
      generalize ocA Xs k = x at *
      generalize (ocA L k).cap = gc at *
      have hgW := Nat.lt_of_lt_of_le (show g < wr.heap.size from Dk.klt g kg) Sc.size
      have hom : m.om ≠ g := fun e => hbg (.inr (.inr (.inl e.symm)))
      have hob : b ≠ m.om := Dk.apart.bo
      have M1 := hid (map_sole Dk.O Sc hom)
      clear Dk R7 hR7 hRX r7 r8 hv7 e7 hso hfz hog hgl hga hq7 hxt hs HL Sc kg hbg hown7 hxk hkL2
      obtain ⟨l1, k1, f1⟩ := Bk
      go_wp2_with fail
      clear l1 k1 f1 c7 c8 hcl
      have q0 := fun u : Later W2 => u.blk Bk1
      have q7 := fun u : Later W2 => (u.cell b7 (o7 + k) hlt7).trans c71
      have q8 := fun u : Later W2 => (u.cell b8 (o8 + k) hlt8).trans c81
      refine wp_region_late 11 (by kernel_rfl) (by kernel_rfl) ?_
      simp only [List.take_succ_cons, List.take_zero, List.drop_succ_cons, List.drop_zero]
      repeat (go_big_quiet_step (fail))
      refine wpQuiet_nil ?_
      intro w3 h3'
      have h3 := late_out h3'
      clear h3' q0 q7 q8
      obtain ⟨hcp, ho4, hf4⟩ := copy_run w3 g gc (ho1.out.more h3) (fun j => ((Sole.made (S := fun _ => False) h3).frozen hgW id).trans (hf1.out j)) x (hxt1.out.more h3)
      have S34 : Sole (fun j => j = g) w3 (w3.setCells g 0 ((x.l.take 256).map fun x => .int .u8 (x.toNat : Int))) := sole_setCells (S := fun j => j = g) rfl _ _ _
      generalize w3.setCells g 0 ((x.l.take 256).map fun x => .int .u8 (x.toNat : Int)) = W4 at hcp ho4 hf4 S34
      generalize (x.l.take 256).length = n4 at hcp
      have B4 := (Bk1.more h3).sole S34 hbb
      have M4 := hid (map_sole (map_sole M1.out (Sole.made (S := fun _ => False) h3) id) S34 hom)
      have S24 := hid (Sch.out.trans ((Sole.made h3).trans S34))
      have hkw : (Lit.int .i64 (k : Int)).wf = true := by
        rw [show (k : Int) = wrap64 (k : Int) by have := hlS.out; unfold wrap64; omega]
        exact wrap64_wf _
      have hkey := keyOf_int_mk (P := Try.prog) Try.underlying3 hkw
      replace ho4 := hid ho4
      replace hf4 := hid hf4
      clear h3 Bk1 c71 c81 hlt7 hlt8 M1 S34 hkw
      obtain ⟨l4, k4, f4⟩ := B4
      go_wp2_with (first
        | (with_reducible refine wpList_copy_ran _ rfl (.tmp 40) (.tmp 44) _ _ rfl _ _ rfl rfl _ _ (hcp _) ?_)
        | (at_delete; refine wpList_delete_own _ rfl _ _ 60 3 rfl 183 dlawK Try.underlying60 _ m.om m.n' DO rfl M4.out _ _ rfl hkey ?_; intro w5 hown5 hturn5))
      have S5 : Sole (fun j => j = m.om) W4 w5 := Sole.grown hturn5.grown fun k e => by cases e; rfl
      obtain ⟨L', HL', SK⟩ := NX.out W4 w5 S24.out ho4.out hf4.out S5 hown5
      have E := hid (show Sole K w w5 ∧ ∃ L DO, Loaded w5 b m K Xs (k + 1) L DO from ⟨hsh.out.trans SK, _, _, HL'⟩)
      have hk1 := hkLh.out
      have hk2 := hlS.out
      have hk3 := hltn.out
      clear hcp M4 S24 hkey ho4 hf4 l4 k4 f4 hown5 hturn5 S5 SK HL' NX hxkh hxt1 HLh Sch hf1 ho1 hgah hsh T1 L1 hxph hXh RXh
      have hw : wrap64 ((k : Int) + 1) = ((k + 1 : Nat) : Int) := by
        rw [IntWalk.wrap64_in _ ⟨by omega, by omega⟩]
        rfl
      refine ⟨⟨k + 1, hk3, by rw [hw], E.out.1, E.out.2⟩, ?_⟩
      exact measure_down N k hk3 _ hw
    · obtain rfl : k = N := by omega
      have E := hid (show ∃ L DO, Loaded wr b m K Xs k L DO ∧ Sole K w wr from ⟨L, DO, HL, hs⟩)
      clear hs HL
      go_wp2_with fail
      refine bodyPost_end (results_none rfl _ _ _) rfl ?_
      exact ⟨rfl, E.out⟩
end Go.Proofs.Ytcklmemnjchdcaa
