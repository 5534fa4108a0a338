/-
  Package disk: what a disk's blocks hold, and what stays of it.
-/
import Derived.Test.YtpgibngohbohdaaOcRow
import Derived.Test.YtpgibngohbohdaaOctAppend
import Derived.Test.YtpgibngohbohdaaAidMore
import Derived.Test.YtpgibngohbohdaaBig
import Derived.Maps.OwnSet
import Derived.WalkKit
namespace Go.Proofs.Ytpgibngohbohdaa
open Go.RowKit Go.Maps
set_option linter.unusedVariables false
set_option linter.unusedSimpArgs false

/-- A write that waits. -/
structure WtS where
  at_ : Int
  x : OcS
def wtT : RowT WtS := { ty := 118, sl := 82, sz := 2, bytes := 32, zero := .agg #[.int .i64 0, .slice none 0 0], cells := fun y => [.int .i64 y.at_, .slice y.x.a y.x.l.length y.x.cap], dflt := ⟨0, ⟨none, 0, []⟩⟩ }
theorem wtOk : wtT.Ok := ⟨Try.underlying82, by kernel_rfl, rfl, by decide, fun _ => rfl, fun x u hu => by
  simp [wtT] at hu
  rcases hu with rfl | rfl <;> rfl⟩
/-- Fates. -/
def fatT : RowT Int := { ty := 3, sl := 29, sz := 1, bytes := 8, zero := .int .i64 0, cells := fun x => [.int .i64 x], dflt := 0 }
theorem fatOk : fatT.Ok := ⟨Try.underlying29, by kernel_rfl, rfl, by decide, fun _ => rfl, fun x u hu => by
  simp [fatT] at hu
  rcases hu with rfl; rfl⟩

/-- The last of those that are z. -/
def lastI (l : List Int) (z : Int) : Option Nat := (l.foldl (fun (r : Nat × Option Nat) a => (r.1 + 1, if a = z then some r.1 else r.2)) (0, none)).2
theorem lastI_fst (z : Int) : ∀ (l : List Int) (r : Nat × Option Nat), (l.foldl (fun (r : Nat × Option Nat) a => (r.1 + 1, if a = z then some r.1 else r.2)) r).1 = r.1 + l.length
  | [], r => rfl
  | a :: l, r => by rw [List.foldl_cons, lastI_fst z l, List.length_cons]; simp only; omega
theorem lastI_snoc (l : List Int) (a z : Int) : lastI (l ++ [a]) z = if a = z then some l.length else lastI l z := by
  unfold lastI
  rw [List.foldl_append, List.foldl_cons, List.foldl_nil, lastI_fst]
  simp
theorem lastI_nil (z : Int) : lastI [] z = none := rfl

/-- Octets in a block that lets itself be written. -/
def OcS.soft (w : World) (x : OcS) : Prop := x.there w ∧ ∀ b o, x.a = some ⟨b, o, none⟩ → b < w.heap.size ∧ ∀ i, w.frozen? ⟨b, i, none⟩ = false
theorem so_sole {S : Nat → Prop} {w w' : World} {x : OcS} (h : x.soft w) (hs : Sole S w w') (hn : ∀ b o, x.a = some ⟨b, o, none⟩ → ¬ S b) : x.soft w' :=
  ⟨oc_sole h.1 hs hn, fun b o e => ⟨Nat.lt_of_lt_of_le (h.2 b o e).1 hs.size, fun i => (hs.frozen (h.2 b o e).1 (hn b o e)).trans ((h.2 b o e).2 i)⟩⟩
theorem OcS.soft.more {w w' : World} {x : OcS} (h : x.soft w) (hb : Below w.heap.size w w') : x.soft w' := so_sole h (Sole.made (S := fun _ => False) hb) fun _ _ _ => id

/-- What a disk's blocks hold. -/
structure DM where
  off : Bool
  tl : Bool
  cl : Int
  tf : Bool
  fl : Int
  sp : Option Addr
  sc : Nat
  Ls : List OcS
  wp : Option Addr
  wc : Nat
  Qs : List WtS
  fp : Option Addr
  fc : Nat
  Fs : List Int
  lm : Nat
  om : Nat
  n : Nat
  n' : Nat
  DL : DataW Unit
  DO : DataW Unit
abbrev DM.sv (m : DM) : Value := .slice m.sp m.Ls.length m.sc
abbrev DM.wv (m : DM) : Value := .slice m.wp m.Qs.length m.wc
abbrev DM.fv (m : DM) : Value := .slice m.fp m.Fs.length m.fc
def DM.cells (m : DM) : Array Value := #[.bool true, .bool m.off, m.sv, m.wv, .map (some m.lm), .map (some m.om), .bool m.tl, .int .i64 m.cl, m.fv, .bool m.tf, .int .i64 m.fl]
/-- The blocks of its own parts. -/
def DM.base (m : DM) (b g : Nat) : Prop := g = b ∨ g = m.lm ∨ g = m.om ∨ m.sv.ownBlock = some g ∨ m.wv.ownBlock = some g ∨ m.fv.ownBlock = some g
structure DM.Apart (m : DM) (b : Nat) : Prop where
  bl : b ≠ m.lm
  bo : b ≠ m.om
  lo : m.lm ≠ m.om
  s : ∀ k, m.sv.ownBlock = some k → k ≠ b ∧ k ≠ m.lm ∧ k ≠ m.om ∧ m.wv.ownBlock ≠ some k ∧ m.fv.ownBlock ≠ some k
  w : ∀ k, m.wv.ownBlock = some k → k ≠ b ∧ k ≠ m.lm ∧ k ≠ m.om ∧ m.fv.ownBlock ≠ some k
  f : ∀ k, m.fv.ownBlock = some k → k ≠ b ∧ k ≠ m.lm ∧ k ≠ m.om
/-- A sector's octets: in a block of its own. -/
def OcS.full (x : OcS) (K : Nat → Prop) (m : DM) (b : Nat) : Prop := ∃ g, x.a = some ⟨g, 0, none⟩ ∧ K g ∧ ¬ m.base b g ∧ x.l.length = 256
/-- What is said of where the last write of a sector stands. -/
structure LastOk (D : DataW Unit) (l : List Int) : Prop where
  map : IsMap D
  no : ∀ z : Int, lastI l z = none → Maps.has D (.int .i64 z) = false
  is : ∀ (z : Int) (i : Nat), lastI l z = some i → Maps.has D (.int .i64 z) = true ∧ ∀ d, D.atKey (.int .i64 z) d = .lit (.int .i64 (i : Int))
theorem LastOk.nil : LastOk (.map []) [] := ⟨isMap_empty, fun z _ => rfl, fun z i h => by cases h⟩

/-- No two sectors lie in one block; a sector lies where a write of its own waits, or where none does. -/
structure DM.Uniq (m : DM) : Prop where
  s : (m.Ls.map OcS.a).Nodup
  q : (m.Qs.map fun y => y.x.a).Nodup
  sq : ∀ s i, s < m.Ls.length → i < m.Qs.length → (ocA m.Ls s).a = (atR wtT m.Qs i).x.a → (s : Int) = (atR wtT m.Qs i).at_

structure DiskM (w : World) (b : Nat) (m : DM) (K : Nat → Prop) : Prop where
  blk : Blk w b m.cells
  apart : m.Apart b
  kk : ∀ k, m.base b k → K k
  klt : ∀ k, K k → k < w.heap.size
  S : RowOwn ocT w 0 m.sv m.Ls
  SO : ∀ x ∈ m.Ls, x.soft w ∧ x.full K m b
  Q : RowOwn wtT w 0 m.wv m.Qs
  QO : ∀ y ∈ m.Qs, (y.x.soft w ∧ y.x.full K m b) ∧ 0 ≤ y.at_ ∧ y.at_ < (m.Ls.length : Int)
  F : RowOwn fatT w 0 m.fv m.Fs
  L : w.ownsMap Try.prog 3 (plainElem Try.prog 3) m.lm m.n m.DL
  O : w.ownsMap Try.prog 3 unitElem m.om m.n' m.DO
  last : LastOk m.DL (m.Qs.map (·.at_))
  lenS : m.Ls.length ≤ 4096
  cwf : (Lit.int .i64 m.cl).wf = true
  fwf : (Lit.int .i64 m.fl).wf = true
  uniq : m.Uniq

theorem map_sole {S : Nat → Prop} {w w' : World} {R : Value → Option (DataW Unit × List MemPlace)} {b n : Nat} {D : DataW Unit} (h : w.ownsMap Try.prog 3 R b n D) (hs : Sole S w w') (hn : ¬ S b) : w'.ownsMap Try.prog 3 R b n D := by
  have hlt := h.lt
  obtain ⟨es, clock, hb, r⟩ := h
  exact ⟨es, clock, (hs.block b hlt hn).trans hb, r⟩
/-- Nothing of it is touched. -/
theorem DiskM.kept {S : Nat → Prop} {w w' : World} {b : Nat} {m : DM} {K : Nat → Prop} (h : DiskM w b m K) (hs : Sole S w w') (hn : ∀ k, K k → ¬ S k) : DiskM w' b m K := by
  refine ⟨h.blk.sole hs (hn _ (h.kk _ (.inl rfl))), h.apart, h.kk, fun k hk => Nat.lt_of_lt_of_le (h.klt k hk) hs.size, h.S.sole hs fun k e => hn k (h.kk k (.inr (.inr (.inr (.inl e))))), fun x hx => ?_, h.Q.sole hs fun k e => hn k (h.kk k (.inr (.inr (.inr (.inr (.inl e)))))), fun y hy => ?_,
    h.F.sole hs fun k e => hn k (h.kk k (.inr (.inr (.inr (.inr (.inr e)))))), map_sole h.L hs (hn _ (h.kk _ (.inr (.inl rfl)))), map_sole h.O hs (hn _ (h.kk _ (.inr (.inr (.inl rfl))))), h.last, h.lenS, h.cwf, h.fwf, h.uniq⟩
  · obtain ⟨ht, g, e, kg, r⟩ := h.SO x hx
    exact ⟨so_sole ht hs fun b' o e' => by rw [e] at e'; cases e'; exact hn _ kg, g, e, kg, r⟩
  · obtain ⟨⟨ht, g, e, kg, r⟩, hat⟩ := h.QO y hy
    exact ⟨⟨so_sole ht hs fun b' o e' => by rw [e] at e'; cases e'; exact hn _ kg, g, e, kg, r⟩, hat⟩
theorem DiskM.more {w w' : World} {b : Nat} {m : DM} {K : Nat → Prop} (h : DiskM w b m K) (hb : Below w.heap.size w w') : DiskM w' b m K := h.kept (Sole.made (S := fun _ => False) hb) fun _ _ x => x
/-- Only its own numbers become others. -/
theorem DiskM.scal {w w' : World} {b : Nat} {m : DM} {K : Nat → Prop} (h : DiskM w b m K) (o t f : Bool) (c l : Int) (hc : (Lit.int .i64 c).wf = true) (hl : (Lit.int .i64 l).wf = true) (hs : Sole (fun k => k = b) w w')
    (hB : Blk w' b { m with off := o, tl := t, cl := c, tf := f, fl := l }.cells) : DiskM w' b { m with off := o, tl := t, cl := c, tf := f, fl := l } K := by
  have hx : ∀ x : OcS, x.soft w ∧ x.full K m b → x.soft w' ∧ x.full K { m with off := o, tl := t, cl := c, tf := f, fl := l } b := fun x ⟨ht, g, e, kg, hg, r⟩ => ⟨so_sole ht hs fun b' o e' => by rw [e] at e'; cases e'; exact fun h' => hg (.inl h'), g, e, kg, hg, r⟩
  exact ⟨hB, ⟨h.apart.bl, h.apart.bo, h.apart.lo, h.apart.s, h.apart.w, h.apart.f⟩, h.kk, fun k hk => Nat.lt_of_lt_of_le (h.klt k hk) hs.size, h.S.sole hs fun k e h' => (h.apart.s k e).1 h', fun x hx' => hx x (h.SO x hx'), h.Q.sole hs fun k e h' => (h.apart.w k e).1 h', fun y hy => ⟨hx _ (h.QO y hy).1, (h.QO y hy).2⟩,
    h.F.sole hs fun k e h' => (h.apart.f k e).1 h', map_sole h.L hs fun h' => h.apart.bl h'.symm, map_sole h.O hs fun h' => h.apart.bo h'.symm, h.last, h.lenS, hc, hl, ⟨h.uniq.s, h.uniq.q, h.uniq.sq⟩⟩
end Go.Proofs.Ytpgibngohbohdaa
