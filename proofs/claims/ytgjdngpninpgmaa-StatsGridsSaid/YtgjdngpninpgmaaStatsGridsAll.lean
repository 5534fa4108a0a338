/-
  StatsGrids answers true for any points and any level, and changes nothing that was there: how many points are in each cell of a level, row by row, is as of their first bits. For every input, without a condition.
-/
import Derived.Test.YtgjdngpninpgmaaGroveCopy
import Derived.Test.YtgjdngpninpgmaaRegion
import Derived.Shelf.SlMaps.Clone
import Derived.Maps.OwnSet
import Derived.BigQuiet
import Derived.Test.YtgjdngpninpgmaaLay
import Derived.Test.YtgjdngpninpgmaaCell
import Derived.Test.YtgjdngpninpgmaaHeapRow
import Derived.Test.YtgjdngpninpgmaaOwnRow
import Derived.Test.YtgjdngpninpgmaaSlices
import Derived.Lib.BufferMore
import Derived.Deep.QuietTactic
import Derived.LoopTactic
import Derived.WalkKit
import Derived.Test.YtgjdngpninpgmaaOctArg
import Derived.Test.YtgjdngpninpgmaaLift
import Derived.Test.YtgjdngpninpgmaaOpen

/-
  Package grove: Put, Get, Drop, Clone, Ids, of any grove.
-/






namespace Go.Proofs.Ytgjdngpninpgmaa
open Go.RowKit Go.Maps Go.Shelf
set_option linter.unusedVariables false
set_option linter.unusedSimpArgs false

/-- How a node in a map reads: as itself. -/
def heldR (v : Value) : Option (DataW Value × List MemPlace) := some (.held v, [])
theorem glawK : Keyed Try.prog 3 := int_keyed Try.underlying3
/-- A grove: its map's entries read as D. -/
structure GroveM (w : World) (p b n : Nat) (D : DataW Value) : Prop where
  blk : Blk w p #[.map (some b)]
  own : w.ownsMap Try.prog 3 heldR b n D
  ne : p ≠ b
theorem gmap_sole {S : Nat → Prop} {w w' : World} {b n : Nat} {D : DataW Value} (h : w.ownsMap Try.prog 3 heldR b n D) (hs : Sole S w w') (hn : ¬ S b) : w'.ownsMap Try.prog 3 heldR b n D := by
  have hlt := h.lt
  obtain ⟨es, clock, hb, r⟩ := h
  exact ⟨es, clock, (hs.block b hlt hn).trans hb, r⟩
theorem GroveM.kept {S : Nat → Prop} {w w' : World} {p b n : Nat} {D : DataW Value} (h : GroveM w p b n D) (hs : Sole S w w') (hp : ¬ S p) (hb : ¬ S b) : GroveM w' p b n D := ⟨h.blk.sole hs hp, gmap_sole h.own hs hb, h.ne⟩
theorem GroveM.more {w w' : World} {p b n : Nat} {D : DataW Value} (h : GroveM w p b n D) (hb : Below w.heap.size w w') : GroveM w' p b n D := h.kept (Sole.made (S := fun _ => False) hb) id id
theorem GroveM.drew {w : World} {p b n : Nat} {D : DataW Value} (h : GroveM w p b n D) : GroveM w.drew p b n D := h.more (Below.refl _ _).drew
theorem grown_sole {w w' : World} {b : Nat} (h : w.grownBy w' (some b)) : Sole (fun k => k = b) w w' := Sole.grown h fun k e => by cases e; rfl
theorem step_mapUpdate_own {H : Type} {P : Program} {ops : Array Oper} {o : Oper} {a : Act} {w : World} {KK : Act → World → Prop} {Q : Exit → Act → World → Prop} {E : Prop} (hgd : o.guard = none) (m x v : Operand) (t : TypeId)
    (ho : o.op = Op.mapUpdate t m x v) (k e : TypeId) (K : Keyed P k) (ht : P.underlying t = some (.map k e)) (R : Value → Option (DataW H × List MemPlace)) (b n : Nat) (D : DataW H) (hm : a.eval m = .map (some b)) (hown : w.ownsMap P k R b n D) (hn : n < maxLen)
    (key val : Value) (kl : Lit) (hx : a.eval x = key) (hv : a.eval v = val) (hkey : keyOf P k key = some kl) (d : DataW H) (ps : List MemPlace) (hval : R val = some (d, ps))
    (h : ∀ w', w'.ownsMap P k R b (n + 1) (D.put kl d) → w.grownBy w' (some b) → KK (a.put o.dst undef) w') : if Region.wanted o (yielded ops a.tmps) = true then Oper.wp P o a w KK Q else E := by
  rw [if_pos (by simp [Region.wanted, hgd])]
  obtain ⟨w', hrun, r1, r2⟩ := hown.update K ht hn hkey hval
  unfold Oper.wp
  simp [execOp, ho, hm, hx, hv, hrun, Result.andThen]
  exact h w' r1 r2
theorem nodeB_few {lf : Bool} {n : Nat} {f : Nat → Pt} {nx : Int} {k c : Nat → Int} (h : nodeB lf n f nx k c = true) : n ≤ 4 := by
  unfold nodeB at h
  split at h
  · exact (leafB_parts h).1
  · rw [(otherB_parts h).1]; omega

set_option maxRecDepth 100000 in
set_option maxHeartbeats 4000000 in
theorem gput_ok (g b n : Nat) (D : DataW Value) (w : World) (G : GroveM w g b n D) (hn : n < 1000000) (id : Int) (i0 : 1 ≤ id) (i1 : id < 256) (lf : Bool) (q : Option Addr) (m cap : Nat) (f : Nat → Pt) (hf : ∀ i, i < m → (f i).ok) (nx : Int) (k c : Nat → Int) (h1 : m ≤ cap) (h2 : cap ≤ maxLen)
    (HR : RowP w q 4 m (fun i => pcells (f i))) (hB : nodeB lf m f nx k c = true) :
    Calls Try.prog 29 #[.pointer (some ⟨g, 0, none⟩), .int .i64 id, ndval lf (.slice q m cap) nx k c] w fun e w' => e = .returned (.int .i64 0) ∧ ∃ q' c', OwnP w' w.heap.size q' m c' f ∧ GroveM w' g b (n + 1) (D.put (.int .i64 id) (.held (ndval lf (.slice q' m c') nx k c))) ∧ Sole (fun k => k = b) w w' := by
  have hm := nodeB_few hB
  have hb0 := below_one w (.cells (ndl lf (.slice q m cap) nx (k 0) (k 1) (k 2) (k 3) (c 0) (c 1) (c 2) (c 3)).toArray 62)
  have BX := Blk.new w (ndl lf (.slice q m cap) nx (k 0) (k 1) (k 2) (k 3) (c 0) (c 1) (c 2) (c 3)).toArray 62
  have KM := hid (gmadeOf g (some b) _ (G.blk.more hb0))
  have KC := ncheck_any lf q m cap f hf nx k c h1 h2 _ (HR.more hb0)
  rw [hB] at KC
  dsimp only [ndval] at KC ⊢
  replace KC := hid KC
  have KP := hid (fun W (hW : Below w.heap.size w W) => gcopied_any lf q m cap f (by omega) nx (k 0) (k 1) (k 2) (k 3) (c 0) (c 1) (c 2) (c 3) W (HR.more hW))
  have Gh := hid (G.more hb0)
  have glt := hid (And.intro G.blk.lt G.own.lt)
  have hkey := keyOf_int_mk (P := Try.prog) Try.underlying3 (show (Lit.int .i64 id).wf = true by rw [show id = wrap64 id by unfold wrap64; omega]; exact wrap64_wf _)
  have hmax : n < maxLen := by unfold maxLen; omega
  have HBX := hid BX
  have D0 := hid hb0
  clear HR hB hf h1 h2 G hb0 BX
  generalize k 0 = k0 at *
  generalize k 1 = k1 at *
  generalize k 2 = k2 at *
  generalize k 3 = k3 at *
  generalize c 0 = c0 at *
  generalize c 1 = c1 at *
  generalize c 2 = c2 at *
  generalize c 3 = c3 at *
  obtain ⟨lx, mx, fx⟩ := HBX.out
  go_enter Try.func29, Try.ntmps29
  go_wp2_with fail
  refine KM.out.mono ?_
  rintro e w1 ⟨rfl, hw⟩
  rw [hw]
  clear hw w1 KM
  go_wp2_with fail
  refine KC.out.mono ?_
  rintro e w1 ⟨rfl, hb1⟩
  have D1 := hid (below2 D0.out hb1 D0.out.size)
  have G1 := Gh.out.more hb1
  have BG := G1.blk
  have HM1 := hid (show w1.drew.ownsMap Try.prog 3 heldR b n D from G1.own.drew)
  have B1 := HBX.out.more hb1
  have hs1 := hid D1.out.size
  clear lx mx fx KC D0 HBX hb1
  obtain ⟨lg, mg, fg⟩ := BG
  have B1h := hid (show Blk w1.drew w.heap.size _ from ⟨B1.lt, B1.cell, B1.frz⟩)
  obtain ⟨lx, mx, fx⟩ := B1
  have G1h := hid G1
  clear G1
  go_wp2_with fail
  have KPd := hid (KP.out w1.drew D1.out.drew)
  clear KP
  go_region_law (go_simp; (with_reducible refine (KPd.out).mono ?_); rintro e w2 ⟨qq, cc, rfl, O2, hb2⟩; obtain ⟨w3, hrun, hown3, hgrow3⟩ := (gmap_sole HM1.out (Sole.made (S := fun _ => False) hb2) (fun h => h)).update glawK Try.underlying82 hmax (val := .agg (ndl lf (.slice qq m cc) nx k0 k1 k2 k3 c0 c1 c2 c3).toArray) hkey rfl; replace hown3 := hid hown3; replace hgrow3 := hid hgrow3; have hb2h := hid hb2; have O2h := hid O2; clear hb2 O2; obtain ⟨lg, mg, fg⟩ := G1h.out.drew.blk.more hb2h.out; obtain ⟨lx, mx, fx⟩ := B1h.out.more hb2h.out)
  all_goals
    have S23 := grown_sole hgrow3.out
    have hsz := hid (show w.heap.size ≤ w1.drew.heap.size from hs1.out)
    have S02 := (Sole.made (S := fun kk => kk = b) (below2 D1.out.drew hb2h.out hsz.out)).trans S23
    have O3 := RowOwn.mono (O2h.out.sole S23 (fun kk hk e => by have := (RowOwn.within O2h.out kk hk).1; have := glt.out.2; have := hsz.out; omega)) hsz.out
    have G3 : GroveM w3 g b (n + 1) _ := ⟨(G1h.out.drew.blk.more hb2h.out).sole S23 (fun e => G1h.out.ne e), hown3.out, G1h.out.ne⟩
    have E := hid (show OwnP w3 w.heap.size qq m cc f ∧ _ ∧ _ from ⟨O3, G3, S02⟩)
    clear S23 S02 O3 G3 hown3 hgrow3 hrun
    go_wp2_with fail
    go_ret
    exact ⟨rfl, qq, cc, E.out⟩

set_option maxRecDepth 100000 in
set_option maxHeartbeats 4000000 in
theorem gput_bad (g b n : Nat) (D : DataW Value) (w : World) (G : GroveM w g b n D) (id : Int) (lf : Bool) (q : Option Addr) (m cap : Nat) (f : Nat → Pt) (hf : ∀ i, i < m → (f i).ok) (nx : Int) (k c : Nat → Int) (h1 : m ≤ cap) (h2 : cap ≤ maxLen)
    (HR : RowP w q 4 m (fun i => pcells (f i))) (hB : nodeB lf m f nx k c = false ∨ ¬ (1 ≤ id ∧ id < 256)) :
    Calls Try.prog 29 #[.pointer (some ⟨g, 0, none⟩), .int .i64 id, ndval lf (.slice q m cap) nx k c] w fun e w' => (∃ x : Int, e = .returned (.int .i64 x) ∧ x ≠ 0) ∧ Below w.heap.size w w' := by
  have hb0 := below_one w (.cells (ndl lf (.slice q m cap) nx (k 0) (k 1) (k 2) (k 3) (c 0) (c 1) (c 2) (c 3)).toArray 62)
  have BX := Blk.new w (ndl lf (.slice q m cap) nx (k 0) (k 1) (k 2) (k 3) (c 0) (c 1) (c 2) (c 3)).toArray 62
  have KM := hid (gmadeOf g (some b) _ (G.blk.more hb0))
  have KC := ncheck_any lf q m cap f hf nx k c h1 h2 _ (HR.more hb0)
  dsimp only [ndval] at KC ⊢
  replace KC := hid KC
  have HBX := hid BX
  have D0 := hid hb0
  clear HR hf h1 h2 G hb0 BX
  generalize nodeB lf m f nx k c = B at *
  generalize k 0 = k0 at *
  generalize k 1 = k1 at *
  generalize k 2 = k2 at *
  generalize k 3 = k3 at *
  generalize c 0 = c0 at *
  generalize c 1 = c1 at *
  generalize c 2 = c2 at *
  generalize c 3 = c3 at *
  obtain ⟨lx, mx, fx⟩ := HBX.out
  go_enter Try.func29, Try.ntmps29
  go_wp2_with fail
  refine KM.out.mono ?_
  rintro e w1 ⟨rfl, hw⟩
  rw [hw]
  clear hw w1 KM
  cases B with
  | false =>
    clear hB
    go_wp2_with fail
    refine KC.out.mono ?_
    rintro e w1 ⟨rfl, hb1⟩
    have D1 := hid (below2 D0.out hb1 D0.out.size)
    clear lx mx fx KC D0 HBX hb1
    go_wp2_with fail
    go_ret
    exact ⟨⟨9, rfl, by decide⟩, D1.out⟩
  | true =>
    have hid' : ¬ (1 ≤ id ∧ id < 256) := hB.resolve_left (by simp)
    clear hB
    go_wp2_with fail
    refine KC.out.mono ?_
    rintro e w1 ⟨rfl, hb1⟩
    have D1 := hid (below2 D0.out hb1 D0.out.size)
    clear lx mx fx KC D0 HBX hb1
    by_cases hi : id < 1
    · have hi' : decide (id < 1) = true := decide_eq_true hi
      clear hid'
      go_wp2_with fail
      go_ret
      exact ⟨⟨4, rfl, by decide⟩, D1.out⟩
    · have hi' : decide (id < 1) = false := decide_eq_false hi
      have hj : 256 ≤ id := by omega
      have hj' : decide (256 ≤ id) = true := decide_eq_true hj
      clear hid'
      go_wp2_with fail
      go_ret
      exact ⟨⟨4, rfl, by decide⟩, D1.out⟩

theorem glook {w : World} {b n : Nat} {D : DataW Value} (h : w.ownsMap Try.prog 3 heldR b n D) (id : Int) (hw : (Lit.int .i64 id).wf = true) (V : Value) (hV : D.atKey (.int .i64 id) (.held gnode0) = .held V) :
    (Instr.lookup 82 (.map (some b)) (.int .i64 id) true).run Try.prog w = .ok (.tuple #[V, .bool (Maps.has D (.int .i64 id))]) w := by
  obtain ⟨v, ps, hrun, hv⟩ := h.look_ok glawK Try.underlying82 (gzero w) (zd := .held gnode0) (zp := []) rfl (keyOf_int_mk (P := Try.prog) Try.underlying3 hw)
  have : v = V := by
    have h2 : heldR v = some (.held v, []) := rfl
    rw [h2, hV] at hv
    simp only [Option.some.injEq, Prod.mk.injEq, DataW.held.injEq] at hv
    exact hv.1
  subst this
  exact hrun

set_option maxRecDepth 100000 in
set_option maxHeartbeats 4000000 in
theorem gget_any (g b n : Nat) (D : DataW Value) (w : World) (G : GroveM w g b n D) (id : Int) (hw : (Lit.int .i64 id).wf = true) (lf : Bool) (q : Option Addr) (m cap : Nat) (f : Nat → Pt) (hm : m ≤ 1000000) (nx k0 k1 k2 k3 c0 c1 c2 c3 : Int)
    (hV : D.atKey (.int .i64 id) (.held gnode0) = .held (.agg (ndl lf (.slice q m cap) nx k0 k1 k2 k3 c0 c1 c2 c3).toArray)) (HR : RowP w q 4 m (fun i => pcells (f i))) :
    Calls Try.prog 41 #[.pointer (some ⟨g, 0, none⟩), .int .i64 id] w fun e w' => ∃ q' c', e = .returned (.tuple #[.agg (ndl lf (.slice q' m c') nx k0 k1 k2 k3 c0 c1 c2 c3).toArray, .bool (Maps.has D (.int .i64 id))]) ∧ OwnP w' w.heap.size q' m c' f ∧ Below w.heap.size w w' := by
  have hb0 := below_one w (.cells (ndl false (.slice none 0 0) 0 0 0 0 0 0 0 0 0).toArray 62)
  have KA := hid (gallOf g (.map (some b)) _ (G.blk.more hb0))
  have hrun := glook (G.more hb0).own id hw _ hV
  have BX := hid (Blk.new w (ndl false (.slice none 0 0) 0 0 0 0 0 0 0 0 0).toArray 62)
  have hb1 := below_one (w.alloc (.cells (ndl false (.slice none 0 0) 0 0 0 0 0 0 0 0 0).toArray 62)) (.cells (ndl lf (.slice q m cap) nx k0 k1 k2 k3 c0 c1 c2 c3).toArray 62)
  have D0 := hid (below2 hb0 hb1 hb0.size)
  have KC := hid (gcopied_any lf q m cap f hm nx k0 k1 k2 k3 c0 c1 c2 c3 _ (HR.more D0.out))
  have BX1 := hid (BX.out.more hb1)
  have hs1 := hid (show (((w.alloc (.cells (ndl false (.slice none 0 0) 0 0 0 0 0 0 0 0 0).toArray 62)).alloc (.cells (ndl lf (.slice q m cap) nx k0 k1 k2 k3 c0 c1 c2 c3).toArray 62)).heap.size = w.heap.size + 2) by simp)
  generalize Maps.has D (.int .i64 id) = hs at *
  clear G hb0 hb1 BX HR hV
  go_enter Try.func41, Try.ntmps41
  go_wp2_with fail
  refine KA.out.mono ?_
  rintro e w1 ⟨rfl, hw1⟩
  rw [hw1]
  clear hw1 w1 KA
  go_wp2_with fail
  refine KC.out.mono ?_
  rintro e w2 ⟨qq, cc, rfl, O2, hb2⟩
  have B2 := BX1.out.more hb2
  have D2 := hid (below2 D0.out hb2 D0.out.size)
  have O2h := hid O2
  clear hb2 O2 KC BX1
  obtain ⟨l1, m1, f1⟩ := B2
  go_wp2
  have B3 : Blk (setAll w2 w.heap.size 0 (ndl lf (.slice qq m cc) nx k0 k1 k2 k3 c0 c1 c2 c3)) w.heap.size _ := Blk.fill (ndl lf (.slice qq m cc) nx k0 k1 k2 k3 c0 c1 c2 c3) 0 ⟨l1, m1, f1⟩ (by simp)
  have D3 := hid (below_fill (b := w.heap.size) (Nat.le_refl _) (ndl lf (.slice qq m cc) nx k0 k1 k2 k3 c0 c1 c2 c3) 0 D2.out)
  have S3 := sole_setAll (S := fun kk => kk = w.heap.size) rfl (ndl lf (.slice qq m cc) nx k0 k1 k2 k3 c0 c1 c2 c3) 0 w2
  have O3 := hid (RowOwn.mono (O2h.out.sole S3 (fun kk hk e => by have := (RowOwn.within O2h.out kk hk).1; have := hs1.out; omega)) (show w.heap.size ≤ _ by have := hs1.out; omega))
  clear S3 O2h D2 l1 m1 f1
  simp only [setAll, Nat.zero_add, Nat.reduceAdd] at B3 D3 O3
  generalize World.setCell _ _ _ = W3 at *
  obtain ⟨l9, g9, f9⟩ := B3
  refine bodyPost_ret (v := .tuple #[.agg (ndl lf (.slice qq m cc) nx k0 k1 k2 k3 c0 c1 c2 c3).toArray, .bool hs]) (by simp [results, Try.results41, go_sem, g9, fillC]) rfl ⟨qq, cc, rfl, O3.out, D3.out⟩

end Go.Proofs.Ytgjdngpninpgmaa

/-
  Counting: how many of the first k are at j.
-/

namespace Go.Proofs.Ytgjdngpninpgmaa
open Go.RowKit
set_option linter.unusedVariables false

def cntG (g : Nat → Nat) (j : Nat) : Nat → Nat
  | 0 => 0
  | k + 1 => cntG g j k + if g k = j then 1 else 0
theorem cntG_le (g : Nat → Nat) (j : Nat) : ∀ k, cntG g j k ≤ k
  | 0 => Nat.le_refl _
  | k + 1 => by have := cntG_le g j k; unfold cntG; split <;> omega
/-- All counts, below N. -/
def gridL (g : Nat → Nat) (N k : Nat) : List Int := (List.range N).map fun j => (cntG g j k : Int)
theorem gridL_len (g : Nat → Nat) (N k : Nat) : (gridL g N k).length = N := by simp [gridL]
theorem gridL_at (g : Nat → Nat) (N k j : Nat) (h : j < N) : (gridL g N k)[j]? = some (cntG g j k : Int) := by
  simp [gridL, h]
theorem gridL_zero (g : Nat → Nat) (N : Nat) : gridL g N 0 = List.replicate N 0 := by
  refine List.ext_getElem (by simp [gridL]) fun i h1 h2 => ?_
  simp [gridL, cntG]
theorem gridL_step (g : Nat → Nat) (N k : Nat) : (gridL g N k).set (g k) ((cntG g (g k) k : Int) + 1) = gridL g N (k + 1) := by
  refine List.ext_getElem (by simp [gridL]) fun i h1 h2 => ?_
  rw [List.getElem_set]
  by_cases h : g k = i
  · subst h
    rw [if_pos rfl]
    simp [gridL, cntG]
  · rw [if_neg h]
    simp [gridL, cntG, h]

/-- Where a place's cell stands, row by row. -/
def cellI (n : Nat) (x : Int) : Nat := x.toNat / 2 ^ (32 - n)
def gridI (n : Nat) (x y : Int) : Nat := cellI n y * 2 ^ n + cellI n x
theorem cellI_lt (n : Nat) (hn : n ≤ 4) (x : Int) (h : x ≤ 4294967295) : cellI n x < 2 ^ n := by
  unfold cellI
  rw [Nat.div_lt_iff_lt_mul (Nat.two_pow_pos _), ← Nat.pow_add, show n + (32 - n) = 32 by omega]
  omega
theorem gridI_lt (n : Nat) (hn : n ≤ 4) (x y : Int) (hx : x ≤ 4294967295) (hy : y ≤ 4294967295) : gridI n x y < 2 ^ n * 2 ^ n := by
  have h1 := cellI_lt n hn x hx
  have h2 := cellI_lt n hn y hy
  unfold gridI
  generalize 2 ^ n = m at *
  calc cellI n y * m + cellI n x < cellI n y * m + m := by omega
    _ = (cellI n y + 1) * m := by rw [Nat.add_mul, Nat.one_mul]
    _ ≤ m * m := Nat.mul_le_mul_right _ h2
theorem pw_nat (n : Nat) (hn : n ≤ 4) : pw (n : Int) = ((2 ^ (32 - n) : Nat) : Int) := by
  unfold pw
  rw [show ((32 : Int) - (n : Int)).toNat = 32 - n by omega]
theorem floor_cell (n : Nat) (hn : n ≤ 4) (x : Int) (h : 0 ≤ x) : floorI x (n : Int) / ((2 ^ (32 - n) : Nat) : Int) = (cellI n x : Int) := by
  unfold floorI cellI
  rw [pw_nat n hn, Int.mul_ediv_cancel _ (by have := Nat.two_pow_pos (32 - n); omega)]
  rw [Int.natCast_ediv, show ((x.toNat : Nat) : Int) = x by omega]
/-- The document's own: as of the first bits. -/
theorem law_cell (n : Nat) (hn : n ≤ 4) (x : Int) (h : 0 ≤ x) : x * ((2 ^ n : Nat) : Int) / 4294967296 = (cellI n x : Int) := by
  unfold cellI
  rw [show (4294967296 : Int) = ((2 ^ (32 - n) : Nat) : Int) * ((2 ^ n : Nat) : Int) by rw [← Int.natCast_mul, ← Nat.pow_add, show 32 - n + n = 32 by omega]; rfl]
  rw [Int.mul_ediv_mul_of_pos_left _ _ (by have := Nat.two_pow_pos n; omega)]
  rw [Int.natCast_ediv, show ((x.toNat : Nat) : Int) = x by omega]
theorem or_nat (a b n : Nat) (h : b < 2 ^ n) : (a * 2 ^ n) ||| b = a * 2 ^ n + b := by
  rw [← Nat.shiftLeft_eq, Nat.shiftLeft_add_eq_or_of_lt h]
end Go.Proofs.Ytgjdngpninpgmaa

/-
  Package stats: walk, Levels, of a tree of one node.
-/

namespace Go.Proofs.Ytgjdngpninpgmaa
open Go.RowKit Go.Maps
set_option linter.unusedVariables false
set_option linter.unusedSimpArgs false

/-- An empty leaf. -/
abbrev leaf0 : Value := .agg (ndl true (.slice none 0 0) 0 0 0 0 0 0 0 0 0).toArray
theorem zrow (w : World) (f : Nat → List Value) : RowP w none 4 0 f := .inl rfl
set_option maxRecDepth 100000 in
theorem empty_any (w : World) : Calls Try.prog 14 #[] w fun e w' => ∃ g b q c n, e = .returned (.pointer (some ⟨g, 0, none⟩)) ∧ n ≤ 1 ∧ GroveM w' g b n ((DataW.map []).put (.int .i64 1) (.held (.agg (ndl true (.slice q 0 c) 0 0 0 0 0 0 0 0 0).toArray)) : DataW Value) ∧ Below w.heap.size w w' := by
  have KN := hid (fun w => gnew w)
  have KP := fun g b D w G => gput_ok g b 0 D w G (by omega) 1 (by omega) (by omega) true none 0 0 (fun _ => ⟨0, 0, 0, ByteArray.empty⟩) (fun i hi => absurd hi (Nat.not_lt_zero _)) 0 (fun _ => 0) (fun _ => 0) (Nat.le_refl _) (Nat.zero_le _) (zrow _ _) (by decide)
  dsimp only [ndval] at KP
  replace KP := hid KP
  have b1 := below_one w (.map #[] 0)
  have b2 := below_one (w.alloc (.map #[] 0)) (.cells #[.map (some w.heap.size)] 84)
  have M1 := World.ownsMap_made (H := Value) w Try.prog 3 heldR
  have hs : (w.alloc (.map #[] 0)).heap.size = w.heap.size + 1 := by simp
  have hB := Blk.new (w.alloc (.map #[] 0)) #[.map (some w.heap.size)] 84
  rw [hs] at hB
  have G1 := hid (show GroveM ((w.alloc (.map #[] 0)).alloc (.cells #[.map (some w.heap.size)] 84)) (w.heap.size + 1) w.heap.size 0 (.map []) from ⟨hB, gmap_sole M1 (Sole.made (S := fun _ => False) b2) (fun h => h), by omega⟩)
  have D1 := hid (below2 b1 b2 b1.size)
  clear b1 b2 M1 hs hB
  go_enter Try.func14, Try.ntmps14
  go_wp2_with fail
  refine (KN.out _).mono ?_
  rintro e w1 ⟨rfl, hw⟩
  rw [hw]
  clear hw w1 KN
  go_wp2_with fail
  refine (KP.out _ _ _ _ G1.out).mono ?_
  rintro e w2 ⟨rfl, q, c, _, G2, S2⟩
  have E := hid (show GroveM w2 _ _ _ _ ∧ Below w.heap.size w w2 from ⟨G2, D1.out.trans (S2.below (B := w.heap.size) D1.out.size fun k e => by omega)⟩)
  clear G2 S2 KP
  go_wp2_with fail
  go_ret
  exact ⟨_, _, q, c, _, rfl, Nat.le_refl _, E.out.1, E.out.2⟩

theorem mlook {w : World} {b n : Nat} {D : DataW Unit} (h : w.ownsMap Try.prog 3 unitElem b n D) (id : Int) (hw : (Lit.int .i64 id).wf = true) :
    (Instr.lookup 76 (.map (some b)) (.int .i64 id) true).run Try.prog w = .ok (.tuple #[.agg #[], .bool (Maps.has D (.int .i64 id))]) w := by
  obtain ⟨v, ps, hrun, hv⟩ := h.look_ok glawK Try.underlying76 (show (zeroValue 80).run Try.prog w = .ok (.agg #[]) w from by kernel_rfl) (zd := .agg []) (zp := []) unitElem_mk (keyOf_int_mk (P := Try.prog) Try.underlying3 hw)
  obtain ⟨rfl, _⟩ := unitElem_inv hv
  exact hrun
theorem umap_sole {S : Nat → Prop} {w w' : World} {b n : Nat} {D : DataW Unit} (h : w.ownsMap Try.prog 3 unitElem b n D) (hs : Sole S w w') (hn : ¬ S b) : w'.ownsMap Try.prog 3 unitElem b n D := by
  have hlt := h.lt
  obtain ⟨es, clock, hb, r⟩ := h
  exact ⟨es, clock, (hs.block b hlt hn).trans hb, r⟩

/-- What a walk has at hand. -/
structure WalkM (w : World) (bg bm bv ba g b n mb mn : Nat) (D : DataW Value) (M : DataW Unit) (vis : Value) : Prop where
  G : GroveM w g b n D
  Bg : Blk w bg #[.pointer (some ⟨g, 0, none⟩)]
  Bm : Blk w bm #[.map (some mb)]
  Bv : Blk w bv #[vis]
  Ba : Blk w ba #[.func (.func 40) #[] #[.pointer (some ⟨bg, 0, none⟩), .pointer (some ⟨bm, 0, none⟩), .pointer (some ⟨bv, 0, none⟩), .pointer (some ⟨ba, 0, none⟩)]]
  M : w.ownsMap Try.prog 3 unitElem mb mn M
theorem WalkM.kept {S : Nat → Prop} {w w' : World} {bg bm bv ba g b n mb mn : Nat} {D : DataW Value} {M : DataW Unit} {vis : Value} (h : WalkM w bg bm bv ba g b n mb mn D M vis) (hs : Sole S w w') (h1 : ¬ S g) (h2 : ¬ S b) (h3 : ¬ S bg) (h4 : ¬ S bm) (h5 : ¬ S bv) (h6 : ¬ S ba) (h7 : ¬ S mb) :
    WalkM w' bg bm bv ba g b n mb mn D M vis := ⟨h.G.kept hs h1 h2, h.Bg.sole hs h3, h.Bm.sole hs h4, h.Bv.sole hs h5, h.Ba.sole hs h6, umap_sole h.M hs h7⟩
theorem WalkM.more {w w' : World} {bg bm bv ba g b n mb mn : Nat} {D : DataW Value} {M : DataW Unit} {vis : Value} (h : WalkM w bg bm bv ba g b n mb mn D M vis) (hb : Below w.heap.size w w') : WalkM w' bg bm bv ba g b n mb mn D M vis :=
  h.kept (Sole.made (S := fun _ => False) hb) id id id id id id id
set_option maxRecDepth 100000 in
set_option maxHeartbeats 2000000 in
theorem at_miss (id level : Int) (hw : (Lit.int .i64 id).wf = true) (bg bm bv ba g b n mb mn : Nat) (D : DataW Value) (M : DataW Unit) (vis : Value) (w : World) (h : WalkM w bg bm bv ba g b n mb mn D M vis) (hh : Maps.has D (.int .i64 id) = false) :
    Calls Try.prog 40 #[.int .i64 id, .int .i64 level, .pointer (some ⟨bg, 0, none⟩), .pointer (some ⟨bm, 0, none⟩), .pointer (some ⟨bv, 0, none⟩), .pointer (some ⟨ba, 0, none⟩)] w fun e w' => e = .returned (.tuple #[]) ∧ Below w.heap.size w w' := by
  have KG := gget_any g b n D w h.G id hw false none 0 0 (fun _ => ⟨0, 0, 0, ByteArray.empty⟩) (by omega) 0 0 0 0 0 0 0 0 0 (atKey_of_not_has hh _) (zrow _ _)
  rw [hh] at KG
  replace KG := hid KG
  have hh' := hid h
  obtain ⟨lg, mg, fg⟩ := h.Bg
  clear h hh
  go_enter Try.func40, Try.ntmps40
  go_wp2_with fail
  refine KG.out.mono ?_
  rintro e w1 ⟨q, c, rfl, _, hb1⟩
  have hb2 := below_one w1 (.cells (ndl false (.slice q 0 c) 0 0 0 0 0 0 0 0 0).toArray 62)
  have D2 := hid (below2 hb1 hb2 hb1.size)
  have W2 := hh'.out.more D2.out
  have hrun := mlook W2.M id hw
  generalize Maps.has M (.int .i64 id) = hm at *
  obtain ⟨lm, mm, fm⟩ := W2.Bm
  have D3 := hid (below2 D2.out (below_one (w1.alloc (.cells (ndl false (.slice q 0 c) 0 0 0 0 0 0 0 0 0).toArray 62)) (.cells #[] 80)) D2.out.size)
  clear hb1 hb2 KG lg mg fg W2
  go_wp2_with fail
  first
    | (go_ret; exact ⟨rfl, D3.out⟩)
    | (refine bodyPost_end (results_none rfl _ _ _) rfl ?_; exact ⟨rfl, D3.out⟩)
    | (refine bodyPost_ret (v := .tuple #[]) (results_none rfl _ _ _) rfl ?_; exact ⟨rfl, D3.out⟩)
set_option maxRecDepth 100000 in
set_option maxHeartbeats 2000000 in
theorem visit_any (v : Value) (lf : Bool) (nx k0 k1 k2 k3 c0 c1 c2 c3 : Int) (bl bd : Nat) (hne : bl ≠ bd) (C : Array Value) (hC : C[0]? = some (.int .i64 0)) (hs : 0 < C.size) (w : World) (B1 : Blk w bl C) (B2 : Blk w bd #[.int .i64 (-1)]) :
    Calls Try.prog 27 #[.agg (ndl lf v nx k0 k1 k2 k3 c0 c1 c2 c3).toArray, .int .i64 0, .pointer (some ⟨bl, 0, none⟩), .pointer (some ⟨bd, 0, none⟩)] w fun e w' => e = .returned (.tuple #[]) ∧ Blk w' bl (C.setIfInBounds 0 (.int .i64 1)) ∧ Blk w' bd #[.int .i64 0] ∧ Sole (fun k => k = bl ∨ k = bd) w w' := by
  have b1 := below_one w (.cells (ndl lf v nx k0 k1 k2 k3 c0 c1 c2 c3).toArray 62)
  have A1 := B1.more b1
  have A2 := B2.more b1
  have S1 := Sole.setCell (S := fun k => k = bl) (w.alloc (.cells (ndl lf v nx k0 k1 k2 k3 c0 c1 c2 c3).toArray 62)) (b := bl) (o := 0) (.int .i64 1) rfl
  have A3 := A1.set 0 (.int .i64 1) hs
  have A4 := A2.other ⟨bl, 0, none⟩ hne (.int .i64 1)
  have S2 := Sole.setCell (S := fun k => k = bd) ((w.alloc (.cells (ndl lf v nx k0 k1 k2 k3 c0 c1 c2 c3).toArray 62)).setCell ⟨bl, 0, none⟩ (.int .i64 1)) (b := bd) (o := 0) (.int .i64 0) rfl
  have A5 := A3.other ⟨bd, 0, none⟩ (Ne.symm hne) (.int .i64 0)
  have A6 := A4.set 0 (.int .i64 0) (by simp)
  have E := hid (show Blk _ bl (C.setIfInBounds 0 (.int .i64 1)) ∧ Blk _ bd #[.int .i64 0] ∧ Sole (fun k => k = bl ∨ k = bd) w _ from ⟨A5, A6, (Sole.made b1).trans ((S1.mono fun k _ e => .inl e).trans (S2.mono fun k _ e => .inr e))⟩)
  have hc0 := A1.cell 0
  rw [hC] at hc0
  have hf0 := A1.frz 0
  have hd0 := A2.cell 0
  have hfd := A2.frz 0
  clear B1 B2 A1 A2 A3 A4 A5 A6 S1 S2 b1 hC
  go_enter Try.func27, Try.ntmps27
  go_wp2_with fail
  refine bodyPost_end (results_none rfl _ _ _) rfl ?_
  exact ⟨rfl, E.out⟩
end Go.Proofs.Ytgjdngpninpgmaa

/-
  Package stats: row, Grid.
-/







namespace Go.Proofs.Ytgjdngpninpgmaa
open Go.RowKit
set_option linter.unusedVariables false
set_option linter.unusedSimpArgs false

def niT : RowT Int := { ty := 3, sl := 24, sz := 1, bytes := 8, zero := .int .i64 0, cells := fun x => [.int .i64 x], dflt := 0 }
theorem niOk : niT.Ok := ⟨Try.underlying24, by kernel_rfl, rfl, by decide, fun _ => rfl, fun x u hu => by
  simp [niT] at hu
  rcases hu with rfl; rfl⟩
set_option maxRecDepth 100000 in
theorem srow_any (n : Nat) (hn : n ≤ 4) (X : Int) (h0 : 0 ≤ X) (h1 : X ≤ 4294967295) (w : World) :
    Calls Try.prog 15 #[.int .u32 X, .int .i64 (n : Int)] w fun e w' => e = .returned (.int .i64 (X / ((2 ^ (32 - n) : Nat) : Int))) ∧ w' = w := by
  obtain ⟨R, hR⟩ : ∃ R, X / ((2 ^ (32 - n) : Nat) : Int) = R := ⟨_, rfl⟩
  have hP : (1 : Int) ≤ ((2 ^ (32 - n) : Nat) : Int) := by have := Nat.two_pow_pos (32 - n); omega
  have hR0 : 0 ≤ R := by rw [← hR]; exact Int.ediv_nonneg h0 (by omega)
  have hR1 : R ≤ 4294967295 := by
    rw [← hR]
    exact Int.le_trans (Int.ediv_le_self _ h0) h1
  have m1 : wrap64 (32 - (n : Int)) = 32 - (n : Int) := IntWalk.wrap64_in _ ⟨by omega, by omega⟩
  have m2 : wrap64 R = R := IntWalk.wrap64_in _ ⟨by omega, by omega⟩
  have hR2 : X / (2 : Int) ^ (32 - n) = R := by rw [← hR, Int.natCast_pow]; rfl
  rw [hR]
  clear hR hP
  go_enter Try.func15, Try.ntmps15
  go_wp2
  go_ret
  exact ⟨rfl, rfl⟩
end Go.Proofs.Ytgjdngpninpgmaa

/-
  Package stats: walk and Levels of a tree of one node.
-/



namespace Go.Proofs.Ytgjdngpninpgmaa
open Go.RowKit Go.Maps
set_option linter.unusedVariables false
set_option linter.unusedSimpArgs false

@[go_sem high] theorem index_k0 (a0 a1 a2 a3 : Int) (w : World) : (Instr.index 60 (.agg #[.int .i64 a0, .int .i64 a1, .int .i64 a2, .int .i64 a3]) (.int .i64 0)).run Try.prog w = .ok (.int .i64 a0) w := by
  first | kernel_rfl | rfl
@[go_sem high] theorem index_k1 (a0 a1 a2 a3 : Int) (w : World) : (Instr.index 60 (.agg #[.int .i64 a0, .int .i64 a1, .int .i64 a2, .int .i64 a3]) (.int .i64 1)).run Try.prog w = .ok (.int .i64 a1) w := by
  first | kernel_rfl | rfl
@[go_sem high] theorem index_k2 (a0 a1 a2 a3 : Int) (w : World) : (Instr.index 60 (.agg #[.int .i64 a0, .int .i64 a1, .int .i64 a2, .int .i64 a3]) (.int .i64 2)).run Try.prog w = .ok (.int .i64 a2) w := by
  first | kernel_rfl | rfl
@[go_sem high] theorem index_k3 (a0 a1 a2 a3 : Int) (w : World) : (Instr.index 60 (.agg #[.int .i64 a0, .int .i64 a1, .int .i64 a2, .int .i64 a3]) (.int .i64 3)).run Try.prog w = .ok (.int .i64 a3) w := by
  first | kernel_rfl | rfl
abbrev oneD (q : Option Addr) (c : Nat) : DataW Value := (DataW.map []).put (.int .i64 1) (.held (.agg (ndl true (.slice q 0 c) 0 0 0 0 0 0 0 0 0).toArray))
abbrev visV (bl bd : Nat) : Value := .func (.func 27) #[] #[.pointer (some ⟨bl, 0, none⟩), .pointer (some ⟨bd, 0, none⟩)]
set_option maxRecDepth 100000 in
set_option maxHeartbeats 8000000 in
theorem at_one (bg bm bv ba g b n mb bl bd : Nat) (q : Option Addr) (c : Nat) (C : Array Value) (hC : C[0]? = some (.int .i64 0)) (hs : 0 < C.size) (w : World) (h : WalkM w bg bm bv ba g b n mb 0 (oneD q c) (.map []) (visV bl bd)) (B1 : Blk w bl C) (B2 : Blk w bd #[.int .i64 (-1)])
    (hx : ∀ k, (k = g ∨ k = b ∨ k = bg ∨ k = bm ∨ k = bv ∨ k = ba) → k ≠ bl ∧ k ≠ bd ∧ k ≠ mb) (h1 : mb ≠ bl) (h2 : mb ≠ bd) (h3 : bl ≠ bd) :
    Calls Try.prog 40 #[.int .i64 1, .int .i64 0, .pointer (some ⟨bg, 0, none⟩), .pointer (some ⟨bm, 0, none⟩), .pointer (some ⟨bv, 0, none⟩), .pointer (some ⟨ba, 0, none⟩)] w fun e w' => e = .returned (.tuple #[]) ∧ Blk w' bl (C.setIfInBounds 0 (.int .i64 1)) ∧ Blk w' bd #[.int .i64 0] ∧ Sole (fun k => k = bl ∨ k = bd ∨ k = mb) w w' := by
  have hk1 : (Lit.int .i64 1).wf = true := by decide
  have hkey := keyOf_int_mk (P := Try.prog) Try.underlying3 hk1
  have KG := gget_any g b n (oneD q c) w h.G 1 hk1 true q 0 c (fun _ => ⟨0, 0, 0, ByteArray.empty⟩) (by omega) 0 0 0 0 0 0 0 0 0 (atKey_put_same isMap_empty (glawK.key hkey) _ _) (.inl rfl)
  rw [has_put_same isMap_empty (glawK.key hkey)] at KG
  have hh0 : Maps.has (oneD q c) (.int .i64 0) = false := by rw [has_put_other (by intro e; cases e)]; rfl
  replace KG := hid KG
  have KM := hid (fun level w M mn (h : WalkM w bg bm bv ba g b n mb mn (oneD q c) M (visV bl bd)) => at_miss 0 level (by decide) bg bm bv ba g b n mb mn _ M _ w h hh0)
  have KV := hid (fun v w B1 B2 => visit_any v true 0 0 0 0 0 0 0 0 0 bl bd h3 C hC hs w B1 B2)
  have hwm := hid h
  have HB1 := hid B1
  have HB2 := hid B2
  have hxh := hid hx
  have hnh := hid (And.intro h1 (And.intro h2 h3))
  obtain ⟨lg, mg, fg⟩ := h.Bg
  clear h B1 B2 hx h1 h2 h3 hC hs hh0
  generalize oneD q c = D at *
  go_enter Try.func40, Try.ntmps40
  go_wp2_with fail
  refine KG.out.mono ?_
  rintro e w1 ⟨qx, cx, rfl, _, hb1⟩
  have hb2 := below_one w1 (.cells (ndl true (.slice qx 0 cx) 0 0 0 0 0 0 0 0 0).toArray 62)
  have hb3 := below_one (w1.alloc (.cells (ndl true (.slice qx 0 cx) 0 0 0 0 0 0 0 0 0).toArray 62)) (.cells #[] 80)
  have D2 := below2 hb1 hb2 hb1.size
  have D3 := hid (below2 D2 hb3 D2.size)
  have W2 := hwm.out.more D2
  have hrun := mlook W2.M 1 hk1
  rw [show Maps.has (DataW.map [] : DataW Unit) (.int .i64 1) = false from rfl] at hrun
  have Bn := (Blk.new w1 (ndl true (.slice qx 0 cx) 0 0 0 0 0 0 0 0 0).toArray 62).more hb3
  have W3 := hwm.out.more D3.out
  have hs1 := hid hb1.size
  obtain ⟨w2, hrun2, hown2, hgrow2⟩ := W3.M.update glawK Try.underlying76 (by unfold maxLen; omega) (val := .agg #[]) hkey unitElem_mk
  have S2 := grown_sole hgrow2
  have hlb : bl < w1.heap.size ∧ bd < w1.heap.size ∧ mb < w1.heap.size := ⟨Nat.lt_of_lt_of_le HB1.out.lt hb1.size, Nat.lt_of_lt_of_le HB2.out.lt hb1.size, Nat.lt_of_lt_of_le hwm.out.M.lt hb1.size⟩
  have hlbh := hid hlb
  have hne7 : ∀ k, (k = g ∨ k = b ∨ k = bg ∨ k = bm ∨ k = bv ∨ k = ba) → ¬ k = mb := fun k hk => (hxh.out k hk).2.2
  have W4 := hid (show WalkM w2 bg bm bv ba g b n mb _ D _ (visV bl bd) from ⟨W3.G.kept S2 (hne7 g (.inl rfl)) (hne7 b (.inr (.inl rfl))), W3.Bg.sole S2 (hne7 bg (.inr (.inr (.inl rfl)))), W3.Bm.sole S2 (hne7 bm (.inr (.inr (.inr (.inl rfl))))), W3.Bv.sole S2 (hne7 bv (.inr (.inr (.inr (.inr (.inl rfl)))))), W3.Ba.sole S2 (hne7 ba (.inr (.inr (.inr (.inr (.inr rfl)))))), hown2⟩)
  have Bn2 := hid (Bn.sole S2 (by omega))
  have P1 := hid ((HB1.out.more D3.out).sole S2 (fun e => hnh.out.1 e.symm))
  have P2 := hid ((HB2.out.more D3.out).sole S2 (fun e => hnh.out.2.1 e.symm))
  have S02 := hid ((Sole.made (S := fun k => k = bl ∨ k = bd ∨ k = mb) D3.out).trans (S2.mono fun k _ e => .inr (.inr e)))
  have hbm3 := W3.Bm
  obtain ⟨lm, mm, fm⟩ := W2.Bm
  obtain ⟨lm3, mm3, fm3⟩ := hbm3
  clear hb1 hb2 hb3 KG lg mg fg W2 W3 D2 hown2 hgrow2 S2 Bn HB1 HB2 hlb hne7
  have hbv := W4.out.Bv
  have hbn := Bn2.out
  obtain ⟨lv, mv, fv⟩ := hbv
  obtain ⟨ln, mn', fn⟩ := hbn
  go_wp2_with fail
  refine (KV.out _ w2 P1.out P2.out).mono ?_
  rintro e w3 ⟨rfl, Q1, Q2, S3⟩
  have hxx := hxh.out
  have hnn := hnh.out
  have W5 := hid (W4.out.kept S3 (fun e => e.elim (hxx g (.inl rfl)).1 (hxx g (.inl rfl)).2.1) (fun e => e.elim (hxx b (.inr (.inl rfl))).1 (hxx b (.inr (.inl rfl))).2.1) (fun e => e.elim (hxx bg (.inr (.inr (.inl rfl)))).1 (hxx bg (.inr (.inr (.inl rfl)))).2.1) (fun e => e.elim (hxx bm (.inr (.inr (.inr (.inl rfl))))).1 (hxx bm (.inr (.inr (.inr (.inl rfl))))).2.1)
    (fun e => e.elim (hxx bv (.inr (.inr (.inr (.inr (.inl rfl)))))).1 (hxx bv (.inr (.inr (.inr (.inr (.inl rfl)))))).2.1) (fun e => e.elim (hxx ba (.inr (.inr (.inr (.inr (.inr rfl)))))).1 (hxx ba (.inr (.inr (.inr (.inr (.inr rfl)))))).2.1) (fun e => e.elim hnn.1 hnn.2.1))
  have Bn3 := hid (Bn2.out.sole S3 (fun e => by have := hlbh.out; omega))
  have E3 := hid (show Blk w3 bl (C.setIfInBounds 0 (.int .i64 1)) ∧ Blk w3 bd #[.int .i64 0] ∧ Sole (fun k => k = bl ∨ k = bd ∨ k = mb) w w3 from ⟨Q1, Q2, S02.out.trans (S3.mono fun k _ e => e.elim .inl (fun e => .inr (.inl e)))⟩)
  clear hxx hnn Q1 Q2 S3 W4 Bn2 KV lv mv fv ln mn' fn S02 P1 P2 lm3 mm3 fm3 lm mm fm hrun hrun2
  have hba := W5.out.Ba
  have hbn := Bn3.out
  obtain ⟨la, ma, fa⟩ := hba
  obtain ⟨ln, mn', fn⟩ := hbn
  go_wp2_with fail
  refine (KM.out 0 w3 _ _ W5.out).mono ?_
  rintro e w4 ⟨rfl, hb4⟩
  have W6 := hid (W5.out.more hb4)
  have Bn4 := hid (Bn3.out.more hb4)
  have E4 := hid (show Blk w4 bl (C.setIfInBounds 0 (.int .i64 1)) ∧ Blk w4 bd #[.int .i64 0] ∧ Sole (fun k => k = bl ∨ k = bd ∨ k = mb) w w4 from ⟨E3.out.1.more hb4, E3.out.2.1.more hb4, E3.out.2.2.trans (Sole.made hb4)⟩)
  clear hb4 W5 Bn3 E3 la ma fa ln mn' fn
  have hba := W6.out.Ba
  have hbn := Bn4.out
  obtain ⟨la, ma, fa⟩ := hba
  obtain ⟨ln, mn', fn⟩ := hbn
  go_wp2_with fail
  refine wp_loop_rounds 5 ?_
  rw [rounds_succ]
  go_wp2_with fail
  refine (KM.out _ w4 _ _ W6.out).mono ?_
  rintro e w5 ⟨rfl, hb5⟩
  have W7 := hid (W6.out.more hb5)
  have E5 := hid (show Blk w5 bl (C.setIfInBounds 0 (.int .i64 1)) ∧ Blk w5 bd #[.int .i64 0] ∧ Sole (fun k => k = bl ∨ k = bd ∨ k = mb) w w5 from ⟨E4.out.1.more hb5, E4.out.2.1.more hb5, E4.out.2.2.trans (Sole.made hb5)⟩)
  clear hb5 W6 E4 la ma fa
  have hba := W7.out.Ba
  obtain ⟨la, ma, fa⟩ := hba
  go_wp2_with fail
  rw [rounds_succ]
  go_wp2_with fail
  refine (KM.out _ w5 _ _ W7.out).mono ?_
  rintro e w6 ⟨rfl, hb6⟩
  have W8 := hid (W7.out.more hb6)
  have E6 := hid (show Blk w6 bl (C.setIfInBounds 0 (.int .i64 1)) ∧ Blk w6 bd #[.int .i64 0] ∧ Sole (fun k => k = bl ∨ k = bd ∨ k = mb) w w6 from ⟨E5.out.1.more hb6, E5.out.2.1.more hb6, E5.out.2.2.trans (Sole.made hb6)⟩)
  clear hb6 W7 E5 la ma fa
  have hba := W8.out.Ba
  obtain ⟨la, ma, fa⟩ := hba
  go_wp2_with fail
  rw [rounds_succ]
  go_wp2_with fail
  refine (KM.out _ w6 _ _ W8.out).mono ?_
  rintro e w7 ⟨rfl, hb7⟩
  have W9 := hid (W8.out.more hb7)
  have E7 := hid (show Blk w7 bl (C.setIfInBounds 0 (.int .i64 1)) ∧ Blk w7 bd #[.int .i64 0] ∧ Sole (fun k => k = bl ∨ k = bd ∨ k = mb) w w7 from ⟨E6.out.1.more hb7, E6.out.2.1.more hb7, E6.out.2.2.trans (Sole.made hb7)⟩)
  clear hb7 W8 E6 la ma fa
  have hba := W9.out.Ba
  obtain ⟨la, ma, fa⟩ := hba
  go_wp2_with fail
  rw [rounds_succ]
  go_wp2_with fail
  refine (KM.out _ w7 _ _ W9.out).mono ?_
  rintro e w8 ⟨rfl, hb8⟩
  have W10 := hid (W9.out.more hb8)
  have E8 := hid (show Blk w8 bl (C.setIfInBounds 0 (.int .i64 1)) ∧ Blk w8 bd #[.int .i64 0] ∧ Sole (fun k => k = bl ∨ k = bd ∨ k = mb) w w8 from ⟨E7.out.1.more hb8, E7.out.2.1.more hb8, E7.out.2.2.trans (Sole.made hb8)⟩)
  clear hb8 W9 E7 la ma fa
  have hba := W10.out.Ba
  obtain ⟨la, ma, fa⟩ := hba
  go_wp2_with fail
  rw [rounds_succ]
  go_wp2_with fail
  refine bodyPost_end (results_none rfl _ _ _) rfl ?_
  exact ⟨rfl, E8.out⟩
end Go.Proofs.Ytgjdngpninpgmaa

/-
  The example of layer 33.
-/

namespace Go.Proofs.Ytgjdngpninpgmaa
open Go.RowKit Go.Maps
set_option linter.unusedVariables false
set_option linter.unusedSimpArgs false

@[go_sem] theorem run_store_fn {P : Program} {w : World} {a : Addr} {m : Mode} (f : Fn) (ts : Array Value) (cs : Array Value) : (store a (.func f ts cs) m).run P w = stored P w a (.func f ts cs) m := run_store P w a _ m rfl
theorem walk_mem (w : World) (g b n : Nat) (D : DataW Value) (vis : Value) (G : GroveM w g b n D) : WalkM (((((w.alloc (.cells #[.pointer (some ⟨g, 0, none⟩)] 43)).alloc (.cells #[vis] 63)).alloc (.map #[] 0)).alloc (.cells #[.map (some (w.heap.size + 1 + 1))] 76)).alloc (.cells #[.func (.func 40) #[] #[.pointer (some ⟨w.heap.size, 0, none⟩), .pointer (some ⟨w.heap.size + 1 + 1 + 1, 0, none⟩), .pointer (some ⟨w.heap.size + 1, 0, none⟩), .pointer (some ⟨w.heap.size + 1 + 1 + 1 + 1, 0, none⟩)]] 77)) w.heap.size (w.heap.size + 1 + 1 + 1) (w.heap.size + 1) (w.heap.size + 1 + 1 + 1 + 1) g b n (w.heap.size + 1 + 1) 0 D (.map []) vis ∧ Below w.heap.size w (((((w.alloc (.cells #[.pointer (some ⟨g, 0, none⟩)] 43)).alloc (.cells #[vis] 63)).alloc (.map #[] 0)).alloc (.cells #[.map (some (w.heap.size + 1 + 1))] 76)).alloc (.cells #[.func (.func 40) #[] #[.pointer (some ⟨w.heap.size, 0, none⟩), .pointer (some ⟨w.heap.size + 1 + 1 + 1, 0, none⟩), .pointer (some ⟨w.heap.size + 1, 0, none⟩), .pointer (some ⟨w.heap.size + 1 + 1 + 1 + 1, 0, none⟩)]] 77)) := by
  have A1 := Blk.new w #[.pointer (some ⟨g, 0, none⟩)] 43
  have b1 := below_one w (.cells #[.pointer (some ⟨g, 0, none⟩)] 43)
  have s1 : (w.alloc (.cells #[.pointer (some ⟨g, 0, none⟩)] 43)).heap.size = w.heap.size + 1 := by simp
  generalize w.alloc (.cells #[.pointer (some ⟨g, 0, none⟩)] 43) = w1 at *
  have A2 := Blk.new w1 #[vis] 63
  have b2 := below_one w1 (.cells #[vis] 63)
  have s2 : (w1.alloc (.cells #[vis] 63)).heap.size = w.heap.size + 1 + 1 := by simp [s1]
  rw [s1] at A2
  have B2 := below2 b1 b2 b1.size
  have A1 := A1.more b2
  generalize w1.alloc (.cells #[vis] 63) = w2 at *
  have M3 := World.ownsMap_made (H := Unit) w2 Try.prog 3 unitElem
  have b3 := below_one w2 (.map #[] 0)
  have s3 : (w2.alloc (.map #[] 0)).heap.size = w.heap.size + 1 + 1 + 1 := by simp [s2]
  rw [s2] at M3
  have B3 := below2 B2 b3 B2.size
  have A1 := A1.more b3
  have A2 := A2.more b3
  generalize w2.alloc (.map #[] 0) = w3 at *
  have A4 := Blk.new w3 #[.map (some (w.heap.size + 1 + 1))] 76
  have b4 := below_one w3 (.cells #[.map (some (w.heap.size + 1 + 1))] 76)
  have s4 : (w3.alloc (.cells #[.map (some (w.heap.size + 1 + 1))] 76)).heap.size = w.heap.size + 1 + 1 + 1 + 1 := by simp [s3]
  rw [s3] at A4
  have B4 := below2 B3 b4 B3.size
  have A1 := A1.more b4
  have A2 := A2.more b4
  have M4 := umap_sole M3 (Sole.made (S := fun _ => False) b4) id
  generalize w3.alloc (.cells #[.map (some (w.heap.size + 1 + 1))] 76) = w4 at *
  have A5 := Blk.new w4 #[.func (.func 40) #[] #[.pointer (some ⟨w.heap.size, 0, none⟩), .pointer (some ⟨w.heap.size + 1 + 1 + 1, 0, none⟩), .pointer (some ⟨w.heap.size + 1, 0, none⟩), .pointer (some ⟨w.heap.size + 1 + 1 + 1 + 1, 0, none⟩)]] 77
  have b5 := below_one w4 (.cells #[.func (.func 40) #[] #[.pointer (some ⟨w.heap.size, 0, none⟩), .pointer (some ⟨w.heap.size + 1 + 1 + 1, 0, none⟩), .pointer (some ⟨w.heap.size + 1, 0, none⟩), .pointer (some ⟨w.heap.size + 1 + 1 + 1 + 1, 0, none⟩)]] 77)
  rw [s4] at A5
  have B5 := below2 B4 b5 B4.size
  exact ⟨⟨G.more B5, A1.more b5, A4.more b5, A2.more b5, A5, umap_sole M4 (Sole.made (S := fun _ => False) b5) id⟩, B5⟩
set_option maxRecDepth 100000 in
set_option maxHeartbeats 4000000 in
theorem walk_one (g b n bl bd : Nat) (q : Option Addr) (c : Nat) (C : Array Value) (hC : C[0]? = some (.int .i64 0)) (hs : 0 < C.size) (w : World) (G : GroveM w g b n (oneD q c)) (B1 : Blk w bl C) (B2 : Blk w bd #[.int .i64 (-1)]) (h3 : bl ≠ bd) (hx : ∀ k, (k = g ∨ k = b) → k ≠ bl ∧ k ≠ bd) :
    Calls Try.prog 26 #[.pointer (some ⟨g, 0, none⟩), visV bl bd] w fun e w' => e = .returned (.tuple #[]) ∧ Blk w' bl (C.setIfInBounds 0 (.int .i64 1)) ∧ Blk w' bd #[.int .i64 0] ∧ Sole (fun k => k = bl ∨ k = bd) w w' := by
  obtain ⟨WM, MB0⟩ := walk_mem w g b n _ (visV bl bd) G
  have MB := hid MB0
  have kg := G.blk.lt
  have kb := G.own.lt
  have kl := B1.lt
  have kd := B2.lt
  have KA := hid (at_one _ _ _ _ g b n _ bl bd q c C hC hs _ WM (B1.more MB0) (B2.more MB0) (fun k hk => by
    have h1 := hx g (.inl rfl)
    have h2 := hx b (.inr rfl)
    rcases hk with r | r | r | r | r | r
    · subst r; exact ⟨h1.1, h1.2, by omega⟩
    · subst r; exact ⟨h2.1, h2.2, by omega⟩
    · exact ⟨by omega, by omega, by omega⟩
    · exact ⟨by omega, by omega, by omega⟩
    · exact ⟨by omega, by omega, by omega⟩
    · exact ⟨by omega, by omega, by omega⟩) (by omega) (by omega) h3)
  clear WM MB0 G B1 B2 hx hC hs
  have hmm := @run_makeMap Try.prog
  go_enter Try.func26, Try.ntmps26
  go_wp2_with fail
  refine KA.out.mono ?_
  rintro e w2 ⟨rfl, Q1, Q2, S2⟩
  have E := hid (show Blk w2 bl (C.setIfInBounds 0 (.int .i64 1)) ∧ Blk w2 bd #[.int .i64 0] ∧ Sole (fun k => k = bl ∨ k = bd) w w2 from ⟨Q1, Q2, (Sole.made (S := fun k => k = bl ∨ k = bd) MB.out).trans' S2 fun k hk e => e.elim .inl (fun e => e.elim .inr (fun e => by omega))⟩)
  clear Q1 Q2 S2 KA
  go_wp2_with fail
  refine bodyPost_end (results_none rfl _ _ _) rfl ?_
  exact ⟨rfl, E.out⟩

set_option maxRecDepth 100000 in
set_option maxHeartbeats 4000000 in
theorem levels_one (g b n : Nat) (q : Option Addr) (c : Nat) (w : World) (G : GroveM w g b n (oneD q c)) :
    Calls Try.prog 13 #[.pointer (some ⟨g, 0, none⟩)] w fun e w' => ∃ v, e = .returned v ∧ RowOwn niT w' w.heap.size v [1] ∧ Below w.heap.size w w' := by
  have b1 := below_one w (.cells #[.int .i64 0, .int .i64 0, .int .i64 0, .int .i64 0, .int .i64 0, .int .i64 0, .int .i64 0, .int .i64 0, .int .i64 0, .int .i64 0, .int .i64 0, .int .i64 0, .int .i64 0, .int .i64 0, .int .i64 0, .int .i64 0, .int .i64 0, .int .i64 0, .int .i64 0, .int .i64 0, .int .i64 0, .int .i64 0, .int .i64 0, .int .i64 0, .int .i64 0, .int .i64 0, .int .i64 0, .int .i64 0, .int .i64 0, .int .i64 0, .int .i64 0, .int .i64 0, .int .i64 0] 58)
  have b2 := below_one (w.alloc (.cells #[.int .i64 0, .int .i64 0, .int .i64 0, .int .i64 0, .int .i64 0, .int .i64 0, .int .i64 0, .int .i64 0, .int .i64 0, .int .i64 0, .int .i64 0, .int .i64 0, .int .i64 0, .int .i64 0, .int .i64 0, .int .i64 0, .int .i64 0, .int .i64 0, .int .i64 0, .int .i64 0, .int .i64 0, .int .i64 0, .int .i64 0, .int .i64 0, .int .i64 0, .int .i64 0, .int .i64 0, .int .i64 0, .int .i64 0, .int .i64 0, .int .i64 0, .int .i64 0, .int .i64 0] 58)) (.cells #[.int .i64 (-1)] 3)
  have B1 := (Blk.new w #[.int .i64 0, .int .i64 0, .int .i64 0, .int .i64 0, .int .i64 0, .int .i64 0, .int .i64 0, .int .i64 0, .int .i64 0, .int .i64 0, .int .i64 0, .int .i64 0, .int .i64 0, .int .i64 0, .int .i64 0, .int .i64 0, .int .i64 0, .int .i64 0, .int .i64 0, .int .i64 0, .int .i64 0, .int .i64 0, .int .i64 0, .int .i64 0, .int .i64 0, .int .i64 0, .int .i64 0, .int .i64 0, .int .i64 0, .int .i64 0, .int .i64 0, .int .i64 0, .int .i64 0] 58).more b2
  have B2 := Blk.new (w.alloc (.cells #[.int .i64 0, .int .i64 0, .int .i64 0, .int .i64 0, .int .i64 0, .int .i64 0, .int .i64 0, .int .i64 0, .int .i64 0, .int .i64 0, .int .i64 0, .int .i64 0, .int .i64 0, .int .i64 0, .int .i64 0, .int .i64 0, .int .i64 0, .int .i64 0, .int .i64 0, .int .i64 0, .int .i64 0, .int .i64 0, .int .i64 0, .int .i64 0, .int .i64 0, .int .i64 0, .int .i64 0, .int .i64 0, .int .i64 0, .int .i64 0, .int .i64 0, .int .i64 0, .int .i64 0] 58)) #[.int .i64 (-1)] 3
  rw [show (w.alloc (.cells #[.int .i64 0, .int .i64 0, .int .i64 0, .int .i64 0, .int .i64 0, .int .i64 0, .int .i64 0, .int .i64 0, .int .i64 0, .int .i64 0, .int .i64 0, .int .i64 0, .int .i64 0, .int .i64 0, .int .i64 0, .int .i64 0, .int .i64 0, .int .i64 0, .int .i64 0, .int .i64 0, .int .i64 0, .int .i64 0, .int .i64 0, .int .i64 0, .int .i64 0, .int .i64 0, .int .i64 0, .int .i64 0, .int .i64 0, .int .i64 0, .int .i64 0, .int .i64 0, .int .i64 0] 58)).heap.size = w.heap.size + 1 by simp] at B2
  have D2 := hid (below2 b1 b2 b1.size)
  have KW := hid (walk_one g b n w.heap.size (w.heap.size + 1) q c #[.int .i64 0, .int .i64 0, .int .i64 0, .int .i64 0, .int .i64 0, .int .i64 0, .int .i64 0, .int .i64 0, .int .i64 0, .int .i64 0, .int .i64 0, .int .i64 0, .int .i64 0, .int .i64 0, .int .i64 0, .int .i64 0, .int .i64 0, .int .i64 0, .int .i64 0, .int .i64 0, .int .i64 0, .int .i64 0, .int .i64 0, .int .i64 0, .int .i64 0, .int .i64 0, .int .i64 0, .int .i64 0, .int .i64 0, .int .i64 0, .int .i64 0, .int .i64 0, .int .i64 0] (by rfl) (by decide) _ (G.more D2.out) B1 B2 (by omega) (fun k hk => by have h1 := G.blk.lt; have h2 := G.own.lt; rcases hk with r | r <;> subst r <;> omega))
  clear b1 b2 B1 B2 G
  go_enter Try.func13, Try.ntmps13
  go_wp2_with fail
  refine KW.out.mono ?_
  rintro e w2 ⟨rfl, Q1, Q2, S2⟩
  have D3 := hid (D2.out.trans (S2.below (B := w.heap.size) D2.out.size fun k e => by omega))
  have R1 : RowOf niT w2 (some ⟨w.heap.size, 0, none⟩) [1] := .inr ⟨w.heap.size, 0, rfl, Q1.lt, fun i hi j v hv => by
    have hi0 : i = 0 := by simpa using hi
    subst hi0
    have hv' : ([Value.int .i64 1] : List Value)[j]? = some v := hv
    have hj : j = 0 := by
      rcases j with _ | j
      · rfl
      · simp at hv'
    subst hj
    simp at hv'
    subst hv'
    have := Q1.cell 0
    simpa using this⟩
  obtain ⟨v', w3, hr, O3, gr, mv⟩ := append_row niOk w.heap.size 24 w2 (.slice none 0 0) [] (RowOwn.nil _ _) (some ⟨w.heap.size, 0, none⟩) 33 [1] R1 (by show (0 + 1) * 8 ≤ _; omega) (by unfold maxLen; simp) D3.out.size
  have E := hid (show RowOwn niT w3 w.heap.size v' [1] ∧ Below w.heap.size w w3 from ⟨O3, D3.out.trans ((Sole.grown (S := fun _ => False) gr (fun k e => by cases e)).below (B := w.heap.size) D3.out.size (fun k e => e.elim))⟩)
  obtain ⟨ld, md, fd⟩ := Q2
  clear Q1 S2 R1 O3 gr mv KW
  go_wp2_with (at_builtin; refine Lib.wpList_append_run _ rfl _ _ _ _ rfl _ _ rfl rfl _ _ hr ?_)
  go_ret
  exact ⟨v', rfl, E.out⟩
end Go.Proofs.Ytgjdngpninpgmaa

/-
  Package stats: Grid.
-/

namespace Go.Proofs.Ytgjdngpninpgmaa
open Go.RowKit
set_option linter.unusedVariables false
set_option linter.unusedSimpArgs false

theorem meas_up8 (N k : Nat) (h : k < N) (z : Int) (hz : z = ((k + 1 : Nat) : Int)) : N - (intOf (.int .i64 z)).toNat < N - (intOf (.int .i64 (k : Int))).toNat := by
  subst hz
  show N - (((k + 1 : Nat) : Int)).toNat < N - ((k : Int)).toNat
  rw [Int.toNat_natCast, Int.toNat_natCast]
  omega
theorem flat_ints : ∀ l : List Int, flatR niT l = l.map (Value.int .i64)
  | [] => rfl
  | x :: l => by
    have := flat_ints l
    unfold flatR at this ⊢
    rw [List.flatMap_cons, this]
    rfl
theorem made_ints (n : Nat) : (madeCells #[.int .i64 0] n).toList = flatR niT (List.replicate n 0) := by
  rw [flat_ints, List.map_replicate]
  apply List.ext_getElem?
  intro t
  by_cases h : t < n
  · simp [madeCells, h, Nat.mod_one]
  · rw [List.getElem?_eq_none (by simp [size_madeCells]; omega), List.getElem?_eq_none (by simp; omega)]
theorem own_ints (n : Nat) (hn : n ≤ 1000000) (w : World) : RowOwn niT (w.alloc (.cells (madeCells #[.int .i64 0] n) 3)) w.heap.size (.slice (some ⟨w.heap.size, 0, none⟩) n n) (List.replicate n 0) := by
  have hl : (List.replicate n (0 : Int)).length = n := List.length_replicate
  have hm := made_ints n
  have hz : (flatR niT (List.replicate n 0)).length = n := by rw [flat_ints]; simp
  have hsz : (madeCells #[.int .i64 0] n).size = n := by simp [size_madeCells]
  unfold RowOwn
  rw [hl]
  refine ⟨by rw [hz]; show n = n * 1; omega, .inr ⟨w.heap.size, n, _, rfl, Nat.le_refl _, heap_alloc_new w _, Nat.le_refl _, by unfold maxLen; omega, by rw [hsz]; show n = n * 1; omega, ?_⟩⟩
  rw [← hm]
  exact List.take_of_length_le (by rw [Array.length_toList, hsz]; show n ≤ n * 1; omega)
theorem i64_or_grid (a b : Nat) (ha : a < 2 ^ 63) (hb : b < 2 ^ 63) : bits .or .i64 (a : Int) (b : Int) = ((a ||| b : Nat) : Int) := by
  have hx : a ||| b < 2 ^ 63 := Nat.or_lt_two_pow ha hb
  have e : ∀ c : Nat, c < 2 ^ 63 → (BitVec.ofInt 64 (c : Int)).toNat = c := fun c hc => by
    rw [BitVec.ofInt_natCast, BitVec.toNat_ofNat]; exact Nat.mod_eq_of_lt (by omega)
  show IntKind.i64.wrap ((BitVec.ofInt 64 (a : Int) ||| BitVec.ofInt 64 (b : Int)).toNat : Int) = _
  rw [BitVec.toNat_or, e a ha, e b hb, IntKind.wrap_i64]
  omega
theorem run_ints (n : Nat) (hn : n ≤ 1000000) (w : World) : (Instr.makeSlice 24 (.int .i64 (n : Int)) (.int .i64 (n : Int))).run Try.prog w = .ok (.slice (some ⟨w.heap.size, 0, none⟩) n n) (w.alloc (.cells (madeCells #[.int .i64 0] n) 3)) := by
  obtain ⟨i, hi, hz, hs, hby⟩ := info_parts niOk.tab
  have := run_make (P := Try.prog) w 24 3 i (.int .i64 0) Try.underlying24 hi hz .i64 .i64 (n : Int) (n : Int) (by omega) (Int.le_refl _) (by rw [hby]; show (8 : Int) * _ ≤ _; omega) (by omega)
  simp only [Int.toNat_natCast, hs] at this
  rw [show n * niT.sz = n from Nat.mul_one n] at this
  exact this
set_option maxRecDepth 100000 in
set_option maxHeartbeats 8000000 in
theorem grid_any (p : Option Addr) (m cap : Nat) (f : Nat → Pt) (hf : ∀ i, i < m → (f i).ok) (h1 : m ≤ cap) (h2 : cap ≤ maxLen) (L : Int) (n : Nat) (hn4 : n ≤ 4) (hn : min (max L 0) 4 = (n : Int)) (w : World) (HR : RowP w p 4 m (fun i => pcells (f i))) :
    Calls Try.prog 7 #[.slice p m cap, .int .i64 L] w fun e w' => ∃ v, e = .returned v ∧ RowOwn niT w' w.heap.size v (gridL (fun i => gridI n (f i).x (f i).y) (2 ^ n * 2 ^ n) m) ∧ Below w.heap.size w w' := by
  obtain ⟨g, hg⟩ : ∃ g : Nat → Nat, (fun i => gridI n (f i).x (f i).y) = g := ⟨_, rfl⟩
  have hgk := hid (fun k => show gridI n (f k).x (f k).y = g k from by rw [← hg])
  rw [hg]
  clear hg
  have m1 : wrap64 (2 * (n : Int)) = 2 * (n : Int) := IntWalk.wrap64_in _ ⟨by omega, by omega⟩
  have hN0 := Nat.two_pow_pos n
  have hNle : 2 ^ n * 2 ^ n ≤ 256 := by
    have : 2 ^ n ≤ 2 ^ 4 := Nat.pow_le_pow_right (by omega) hn4
    exact Nat.mul_le_mul this this
  have m2 : wrap64 ((2 : Int) ^ (2 * n)) = ((2 ^ n * 2 ^ n : Nat) : Int) := by
    rw [show ((2 : Int) ^ (2 * n)) = ((2 ^ n * 2 ^ n : Nat) : Int) by rw [← Nat.pow_add, Int.natCast_pow, show n + n = 2 * n by omega]; rfl]
    exact IntWalk.wrap64_in _ ⟨by omega, by omega⟩
  have hglt := hid (fun i (hi : i < m) => gridI_lt n hn4 (f i).x (f i).y (hf i hi).2.2.2.1 (hf i hi).2.2.2.2.2.1)
  have hG := hid (fun i => show gridI n (f i).x (f i).y = cellI n (f i).y * 2 ^ n + cellI n (f i).x from rfl)
  have hcl := hid (fun i (hi : i < m) => And.intro (cellI_lt n hn4 (f i).x (hf i hi).2.2.2.1) (cellI_lt n hn4 (f i).y (hf i hi).2.2.2.2.2.1))
  generalize hN : 2 ^ n * 2 ^ n = N at *
  have mk := run_ints N (by omega) w
  have O0 := hid (own_ints N (by omega) w)
  have hb0 := hid (show Below w.heap.size w (w.alloc (.cells (madeCells #[.int .i64 0] N) 3)) from (Below.refl _ _).alloc (Nat.le_refl _) _)
  have HRh := hid HR
  have hfh := hid hf
  clear HR hf
  go_enter Try.func7, Try.ntmps7
  go_wp2_with fail
  generalize w.alloc (.cells (madeCells #[.int .i64 0] N) 3) = W0 at *
  clear hN mk m1 m2 hn hN0
  go_loopw [18] (fun i wr => ∃ k : Nat, k ≤ m ∧ i = .int .i64 (k : Int) ∧ Below w.heap.size w wr ∧ RowOwn niT wr w.heap.size (.slice (some ⟨w.heap.size, 0, none⟩) N N) (gridL g N k)) (fun i _ => m - (intOf i).toNat)
  case atStart => exact ⟨0, by omega, rfl, hb0.out, by rw [gridL_zero]; exact O0.out⟩
  case round =>
    obtain ⟨k, hk, rfl, hbr, Or⟩ := hrel
    by_cases hlt : k < m
    · have hlt' : (k : Int) < (m : Int) := by omega
      obtain ⟨b8, o8, hq8, R8⟩ := HRh.out.row (by omega)
      have R9 := R8.below hbr R8.lt
      have y0 := R9.at0 hlt (v := (.int .i64 (f k).id)) rfl
      have y1 := R9.at1 hlt (v := (.int .u32 (f k).x)) rfl
      have y2 := R9.at2 hlt (v := (.int .u32 (f k).y)) rfl
      have y3 := R9.at3 hlt (v := (.string (f k).d)) rfl
      have hok := hfh.out k hlt
      have hj := hglt.out k hlt
      have hGk := hG.out k
      have hck := hcl.out k hlt
      have hgk' := hgk.out k
      rw [hgk'] at hj hGk
      generalize f k = P at *
      obtain ⟨pid, x, y, d⟩ := P
      obtain ⟨p0, p1, x0, x1, y0', y1', p2⟩ := hok
      clear p0 p1 p2
      simp only at y0 y1 y2 y3 hGk hck x0 x1 y0' y1'
      have hlv : lvl (n : Int) = (n : Int) := by unfold lvl; omega
      have KA := hid (fun w => at_any x y (n : Int) x0 x1 y0' y1' w)
      rw [hlv] at KA
      have fx := floor_bd x0 x1 (show (0 : Int) ≤ (n : Int) by omega) (show (n : Int) ≤ 32 by omega)
      have fy := floor_bd y0' y1' (show (0 : Int) ≤ (n : Int) by omega) (show (n : Int) ≤ 32 by omega)
      have K1 := fun w => srow_any n hn4 (floorI y (n : Int)) fy.1 (by omega) w
      have K2 := fun w => srow_any n hn4 (floorI x (n : Int)) fx.1 (by omega) w
      rw [floor_cell n hn4 y y0'] at K1
      rw [floor_cell n hn4 x x0] at K2
      replace K1 := hid K1
      replace K2 := hid K2
      generalize floorI x (n : Int) = X at *
      generalize floorI y (n : Int) = Y at *
      generalize cellI n x = rx at *
      generalize cellI n y = ry at *
      have h4 : 2 ^ n ≤ 16 := Nat.pow_le_pow_right (by omega) hn4
      have hmul : ry * 2 ^ n ≤ 16 * 16 := Nat.mul_le_mul (by omega) h4
      have s1 : wrap64 ((ry : Int) * (2 : Int) ^ n) = ((ry * 2 ^ n : Nat) : Int) := by
        rw [show (ry : Int) * (2 : Int) ^ n = ((ry * 2 ^ n : Nat) : Int) by rw [Int.natCast_mul, Int.natCast_pow]; rfl]
        exact IntWalk.wrap64_in _ ⟨by omega, by omega⟩
      have s2 : bits .or .i64 ((ry * 2 ^ n : Nat) : Int) (rx : Int) = ((g k : Nat) : Int) := by
        have hr16 : rx < 16 := Nat.lt_of_lt_of_le hck.1 h4
        clear s1
        rw [i64_or_grid _ _ (by omega) (by omega), or_nat _ _ _ hck.1, hGk]
      replace s1 := hid s1
      replace s2 := hid s2
      have hO := own_blk Or (by rw [gridL_len]; omega)
      have hcnt := gridL_at g N k (g k) hj
      have hcle := cntG_le g (g k) k
      have hstep := hid (gridL_step g N k)
      have hmax : k + 1 ≤ maxLen := by omega
      clear hGk hck hmul h4
      generalize ry * 2 ^ n = A at *
      generalize cntG g (g k) k = c at *
      generalize g k = j at *
      have s3 : wrap64 ((c : Int) + 1) = (c : Int) + 1 := IntWalk.wrap64_in _ ⟨by omega, by unfold maxLen at hmax; omega⟩
      have hj' : (j : Int) < (N : Int) := by omega
      have hw1 : wrap64 ((k : Int) + 1) = ((k + 1 : Nat) : Int) := by
        rw [IntWalk.wrap64_in _ ⟨by omega, by unfold maxLen at hmax; omega⟩]
        rfl
      replace s1 := s1.out
      replace s2 := s2.out
      obtain ⟨gb, capb, cur, hv, v1, v2, v3, BO, v4, hcj⟩ := hO
      simp only [Value.slice.injEq, Option.some.injEq, Addr.mk.injEq] at hv
      obtain ⟨⟨rfl, v5⟩, v6⟩ := hv
      clear v1 v2 v3 v4 v5 v6
      have hcur : cur[j]? = some (.int .i64 (c : Int)) := by
        rw [hcj j (by rw [gridL_len]; exact hj), flat_ints, List.getElem?_map, hcnt]
        rfl
      have b2 : Below wr.heap.size wr (wr.alloc (.cells #[.int .i64 pid, .int .u32 x, .int .u32 y, .string d] 28)) := (Below.refl _ _).alloc (Nat.le_refl _) _
      have hmeas := hid (meas_up8 m k hlt)
      have Orh := hid Or
      have hbrh := hid hbr
      have BOh := hid BO
      have b2h := hid b2
      have hj0 : (0 : Int) ≤ (j : Int) := by omega
      rw [hq8]
      clear hcj hcnt hcle hmax hgk' hbr Or BO b2 R8 R9 fx fy hlv hq8
      go_wp2_with fail
      refine (KA.out _).mono ?_
      rintro e w3 ⟨rfl, hb3⟩
      have b4 : Below w3.heap.size w3 (w3.alloc (.cells #[.int .u32 X, .int .u32 Y, .int .i64 (n : Int)] 33)) := (Below.refl _ _).alloc (Nat.le_refl _) _
      have b04 := below2 (below2 b2h.out hb3 b2h.out.size) b4 (Nat.le_trans b2h.out.size hb3.size)
      have B33 := Blk.new w3 #[.int .u32 X, .int .u32 Y, .int .i64 (n : Int)] 33
      have BO4 := BOh.out.more b04
      have E4 := hid (And.intro (below2 hbrh.out b04 hbrh.out.size) (RowOwn.more Orh.out b04))
      clear b04 b4 hb3 Orh BOh b2h hbrh KA y0 y1 y2 y3
      have B33h := hid B33
      have BO4h := hid BO4
      obtain ⟨l3, m3, f3⟩ := B33
      have hids := hid (And.intro s1 (And.intro s2 (And.intro s3 (And.intro hcur (And.intro hj' hj0)))))
      clear s1 s2 s3 hcur hj' hj0 BO4
      go_wp2_with fail
      obtain ⟨s1, s2, s3, hcur, hj', hj0⟩ := hids.out
      generalize w3.alloc (.cells #[.int .u32 X, .int .u32 Y, .int .i64 (n : Int)] 33) = W4 at *
      generalize w3.heap.size = b3 at *
      have q0 := fun u : Later W4 => u.blk B33h.out
      have q1 := fun u : Later W4 => u.blk BO4h.out
      clear l3 m3 f3
      refine wp_region_late 16 (by kernel_rfl) (by kernel_rfl) ?_
      simp only [List.take_succ_cons, List.take_zero, List.drop_succ_cons, List.drop_zero]
      iterate 16 (go_big_quiet_step (first | (go_at_call 15; (with_reducible exact late_same (K1.out _))) | (go_at_call 15; (with_reducible exact late_same (K2.out _)))))
      refine wpQuiet_nil ?_
      intro w5 h5'
      have h5 := late_out h5'
      have BO5 := BO4h.out.more h5
      have E5 := hid (And.intro (below2 E4.out.1 h5 E4.out.1.size) (RowOwn.more E4.out.2 h5))
      clear h5' h5 q0 q1 E4 B33h BO4h K1 K2
      have E6 := hid (show Below w.heap.size w (w5.setCell ⟨w.heap.size, j, none⟩ (.int .i64 ((c : Int) + 1))) ∧ RowOwn niT (w5.setCell ⟨w.heap.size, j, none⟩ (.int .i64 ((c : Int) + 1))) w.heap.size (.slice (some ⟨w.heap.size, 0, none⟩) N N) (gridL g N (k + 1)) from
        ⟨(E5.out.1).trans ((Sole.setCell (S := fun b => b = w.heap.size) w5 (b := w.heap.size) (o := j) (.int .i64 ((c : Int) + 1)) rfl).below (B := w.heap.size) E5.out.1.size fun b e => by omega), by
          have h1 := E5.out.2
          rw [← hstep.out]
          unfold RowOwn at h1 ⊢
          rw [gridL_len] at h1
          rw [List.length_set, gridL_len, flat_ints, List.map_set]
          rw [flat_ints] at h1
          exact own_set h1 j _⟩)
      clear E5
      obtain ⟨l5, m5, f5⟩ := BO5
      go_wp2_with fail
      exact ⟨⟨k + 1, by omega, by first | rfl | rw [hw1], E6.out.1, E6.out.2⟩, hmeas.out _ (by first | rfl | exact hw1)⟩
    · obtain rfl : k = m := by omega
      have E := hid (And.intro hbr Or)
      clear hbr Or
      go_wp2_with fail
      go_ret
      exact ⟨_, rfl, E.out.2, E.out.1⟩
end Go.Proofs.Ytgjdngpninpgmaa

/-
  The document's own: are two lists of numbers one? Here of one and the same.
-/





namespace Go.Proofs.Ytgjdngpninpgmaa
open Go.RowKit
set_option linter.unusedVariables false
set_option linter.unusedSimpArgs false

set_option maxRecDepth 100000 in
theorem plainInts_same (pa pb : Option Addr) (n ca cb : Nat) (f : Nat → Int) (h1 : n ≤ ca) (h2 : ca ≤ maxLen) (h3 : n ≤ cb) (h4 : cb ≤ maxLen) (w : World) (HA : RowP w pa 1 n (fun i => [.int .i64 (f i)])) (HB : RowP w pb 1 n (fun i => [.int .i64 (f i)])) :
    Calls Try.prog 6 #[.slice pa n ca, .slice pb n cb] w fun e w' => e = .returned (.bool true) ∧ Below w.heap.size w w' := by
  unfold maxLen at h2 h4
  replace HA := hid HA
  replace HB := hid HB
  go_enter Try.func6, Try.ntmps6
  go_wp2_with fail
  go_loopw [5] (fun i wx => ∃ k : Nat, k ≤ n ∧ i = .int .i64 (k : Int) ∧ Below w.heap.size w wx) (fun i _ => n - (intOf i).toNat)
  case atStart => exact ⟨0, by omega, rfl, Below.refl _ _⟩
  case round =>
    obtain ⟨k, hk, rfl, hb⟩ := hrel
    by_cases hlt : k < n
    · obtain ⟨b, o, rfl, R⟩ := HA.out.row (by omega)
      obtain ⟨b', o', rfl, R'⟩ := HB.out.row (by omega)
      have R := R.more hb
      have R' := R'.more hb
      have y0 := R.at0 hlt (v := .int .i64 (f k)) rfl
      have z0 := R'.at0 hlt (v := .int .i64 (f k)) rfl
      rw [Nat.mul_one] at y0 z0
      clear R R'
      replace hb := hid hb
      go_wp2_with fail
      go_quiet (fail)
      go_wp2_with fail
      go_roundw
      case rel => exact ⟨k + 1, by omega, by go_num, ⟨hb.out.os, hb.out.tape, hb.out.output, hb.out.size, hb.out.block⟩⟩
      case measure => simp [intOf]; omega
    · obtain rfl : k = n := by omega
      replace hb := hid hb
      go_wp2
      go_ret
      exact ⟨rfl, hb.out⟩
end Go.Proofs.Ytgjdngpninpgmaa

/-
  Layer 33: how many points are in each cell of a level.
-/



namespace Go.Proofs.Ytgjdngpninpgmaa
open Go.RowKit Go.Maps
set_option linter.unusedVariables false
set_option linter.unusedSimpArgs false

theorem ints_own (w : World) (base : Nat) (v v' : Value) (base' : Nat) (l : List Int) (h : RowOwn niT w base v l) (h' : RowOwn niT w base' v' l) :
    Calls Try.prog 6 #[v, v'] w fun e w' => e = .returned (.bool true) ∧ Below w.heap.size w w' := by
  obtain ⟨p, c, rfl, a1, a2, R⟩ := h.open niOk
  obtain ⟨p', c', rfl, b1, b2, R'⟩ := h'.open niOk
  exact plainInts_same p p' l.length c c' (fun i => atR niT l i) a1 a2 b1 b2 w R R'
theorem own_one (w : World) (x : Int) : RowOwn niT (w.alloc (.cells #[.int .i64 x] 3)) w.heap.size (.slice (some ⟨w.heap.size, 0, none⟩) 1 1) [x] :=
  ⟨rfl, .inr ⟨w.heap.size, 1, _, rfl, Nat.le_refl _, heap_alloc_new w _, Nat.le_refl _, by unfold maxLen; omega, rfl, rfl⟩⟩
set_option maxRecDepth 100000 in
set_option maxHeartbeats 2000000 in
theorem alive33 (w : World) : Calls Try.prog 5 #[] w fun e w' => e = .returned (.bool true) ∧ Below w.heap.size w w' := by
  have KE := hid (fun w => empty_any w)
  have KG := fun w => grid_any none 0 0 (fun _ => ⟨0, 0, 0, ByteArray.empty⟩) (fun i hi => absurd hi (Nat.not_lt_zero _)) (Nat.le_refl _) (Nat.zero_le _) 1 1 (by omega) (by rfl) w (.inl rfl)
  replace KG := hid KG
  go_enter Try.func5, Try.ntmps5
  go_wp2_with fail
  refine (KE.out _).mono ?_
  rintro e w1 ⟨g, b, q, c, n, rfl, hn, G1, hb1⟩
  have KL := hid (levels_one g b n q c w1 G1)
  have D1 := hid hb1
  clear KE G1 hb1
  go_wp2_with fail
  refine KL.out.mono ?_
  rintro e w2 ⟨v, rfl, O2, hb2⟩
  have hb3 : Below w2.heap.size w2 (w2.alloc (.cells #[.int .i64 1] 3)) := (Below.refl _ _).alloc (Nat.le_refl _) _
  have KI := hid (ints_own _ _ _ _ _ [1] (RowOwn.more O2 hb3) (own_one w2 1))
  have D3 := hid (below2 (below2 D1.out hb2 D1.out.size) hb3 (Nat.le_trans D1.out.size hb2.size))
  clear KL O2 hb2 hb3
  go_wp2_with fail
  refine KI.out.mono ?_
  rintro e w3 ⟨rfl, hb4⟩
  have D4 := hid (below2 D3.out hb4 D3.out.size)
  clear hb4 KI
  go_wp2_with fail
  refine (KG.out _).mono ?_
  rintro e w5 ⟨v5, rfl, O5, hb5⟩
  obtain ⟨p5, c5, rfl, _, _, _⟩ := RowOwn.open niOk O5
  rw [gridL_len]
  have D5 := hid (below2 D4.out hb5 D4.out.size)
  clear hb5 KG O5
  go_wp2_with fail
  go_ret
  exact ⟨rfl, D5.out⟩

set_option maxRecDepth 100000 in
set_option maxHeartbeats 8000000 in
theorem statsGrids (p : Option Addr) (m cap : Nat) (f : Nat → Pt) (hf : ∀ i, i < m → (f i).ok) (h1 : m ≤ cap) (h2 : cap ≤ maxLen) (L : Int) (w : World) (HR : RowP w p 4 m (fun i => pcells (f i))) :
    Calls Try.prog 3 #[.slice p m cap, .int .i64 L] w fun e w' => e = .returned (.bool true) ∧ Below w.heap.size w w' := by
  obtain ⟨n, hn⟩ : ∃ n : Nat, min (max L 0) 4 = (n : Int) := ⟨(min (max L 0) 4).toNat, by omega⟩
  have hn4 : n ≤ 4 := by omega
  have KA := hid (fun w => alive33 w)
  have KG := fun w HR => grid_any p m cap f hf h1 h2 L n hn4 hn w HR
  obtain ⟨g, hg⟩ : ∃ g : Nat → Nat, (fun i => gridI n (f i).x (f i).y) = g := ⟨_, rfl⟩
  have hgk := hid (fun k => show gridI n (f k).x (f k).y = g k from by rw [← hg])
  rw [hg] at KG
  have hNle : 2 ^ n * 2 ^ n ≤ 256 := by
    have : 2 ^ n ≤ 2 ^ 4 := Nat.pow_le_pow_right (by omega) hn4
    exact Nat.mul_le_mul this this
  have hglt := hid (fun i (hi : i < m) => gridI_lt n hn4 (f i).x (f i).y (hf i hi).2.2.2.1 (hf i hi).2.2.2.2.2.1)
  have hG := hid (fun i => show gridI n (f i).x (f i).y = cellI n (f i).y * 2 ^ n + cellI n (f i).x from rfl)
  have hcl := hid (fun i (hi : i < m) => And.intro (cellI_lt n hn4 (f i).x (hf i hi).2.2.2.1) (cellI_lt n hn4 (f i).y (hf i hi).2.2.2.2.2.1))
  have hS16 : 2 ^ n ≤ 16 := Nat.pow_le_pow_right (by omega) hn4
  have hpow := hid (fun k (hk : k < n) (q : Nat) (hq : q = 2 ^ k) => show ∃ q' : Nat, q' = 2 ^ (k + 1) ∧ wrap64 (2 * (q : Int)) = (q' : Int) from by
    have h16 : q ≤ 16 := by rw [hq]; exact Nat.le_trans (Nat.pow_le_pow_right (by omega) (Nat.le_of_lt hk)) hS16
    refine ⟨2 * q, by rw [hq, Nat.pow_succ, Nat.mul_comm], ?_⟩
    rw [Int.natCast_mul]
    exact IntWalk.wrap64_in _ ⟨by omega, by omega⟩)
  have hlaw := hid (fun x (hx : (0 : Int) ≤ x) => law_cell n hn4 x hx)
  obtain ⟨S, hS⟩ : ∃ S, 2 ^ n = S := ⟨_, rfl⟩
  rw [hS] at hlaw hG hcl hglt KG hNle hS16
  obtain ⟨N, hN⟩ : ∃ N, S * S = N := ⟨_, rfl⟩
  rw [hN] at hglt KG hNle
  have hSS := hid (show wrap64 ((S : Int) * (S : Int)) = (N : Int) by rw [← Int.natCast_mul, hN]; exact IntWalk.wrap64_in _ ⟨by omega, by omega⟩)
  have hSh := hid hS
  have hfh := hid hf
  have HRh := hid HR
  replace KG := hid KG
  clear hg hf HR hS hN
  go_enter Try.func3, Try.ntmps3
  go_wp2_with fail
  refine (KA.out _).mono ?_
  rintro e w1 ⟨rfl, hb1⟩
  have D1 := hid hb1
  clear hb1 KA
  go_wp2_with fail
  go_loopw [6, 7] (fun s i wx => ∃ k q : Nat, k ≤ n ∧ i = .int .i64 (k : Int) ∧ s = .int .i64 (q : Int) ∧ Hid (q = 2 ^ k) ∧ wx = w1) (fun _ i _ => n - (intOf i).toNat)
  case atStart => exact ⟨0, 1, by omega, rfl, rfl, hid rfl, rfl⟩
  case round =>
    obtain ⟨k, q, hk, rfl, rfl, hq, hwx⟩ := hrel
    subst hwx
    by_cases hlt : k < n
    · have hlt' : (k : Int) < (n : Int) := by omega
      obtain ⟨q', hq', hp⟩ := hpow.out k hlt q hq.out
      replace hq' := hid hq'
      have hw1 : wrap64 ((k : Int) + 1) = ((k + 1 : Nat) : Int) := by
        rw [IntWalk.wrap64_in _ ⟨by omega, by omega⟩]
        rfl
      have hmeas := hid (meas_up8 n k hlt)
      have hph := hid hp
      have hkk := hid (show (k : Int) + 1 = ((k + 1 : Nat) : Int) from rfl)
      clear hp hw1
      go_wp2_with fail
      refine ⟨⟨k + 1, q', by omega, ?_, ?_, hq', trivial⟩, hmeas.out _ hkk.out⟩
      · rw [hkk.out]
      · rw [hph.out]
    · have hkn : n = k := by omega
      subst hkn
      have hqS : S = q := by rw [hq.out, hSh.out]
      subst hqS
      have mk := run_ints N (by omega) wr
      have O0 := hid (own_ints N (by omega) wr)
      have hb0 := hid (show Below wr.heap.size wr (wr.alloc (.cells (madeCells #[.int .i64 0] N) 3)) from (Below.refl _ _).alloc (Nat.le_refl _) _)
      have m2 := hSS.out
      clear hq hlt hk
      go_wp2_with fail
      generalize wr.alloc (.cells (madeCells #[.int .i64 0] N) 3) = W0 at *
      clear mk m2 hn hSh
      obtain ⟨g0, hg0⟩ : ∃ g0, wr.heap.size = g0 := ⟨_, rfl⟩
      rw [hg0] at O0 hb0 ⊢
      have hg0h := hid hg0
      clear hg0
      go_loopw [9] (fun i wz => ∃ k : Nat, k ≤ m ∧ i = .int .i64 (k : Int) ∧ Below g0 wr wz ∧ RowOwn niT wz g0 (.slice (some ⟨g0, 0, none⟩) N N) (gridL g N k)) (fun i _ => m - (intOf i).toNat)
      case atStart => exact ⟨0, by omega, rfl, hb0.out, by rw [gridL_zero]; exact O0.out⟩
      case round =>
        obtain ⟨k, hk, rfl, hbr, Or⟩ := hrel
        by_cases hlt : k < m
        · have hlt' : (k : Int) < (m : Int) := by omega
          have hDz := D1.out.trans (hbr.mono (by have := D1.out.size; have := hg0h.out; omega))
          obtain ⟨b8, o8, hq8, R8⟩ := HRh.out.row (by omega)
          have R9 := R8.below hDz R8.lt
          have y1 := R9.at1 hlt (v := .int .u32 (f k).x) rfl
          have y2 := R9.at2 hlt (v := .int .u32 (f k).y) rfl
          have hok := hfh.out k hlt
          have hj := hglt.out k hlt
          have hGk := hG.out k
          have hck := hcl.out k hlt
          have hgk' := hgk.out k
          rw [hgk'] at hj hGk
          generalize f k = P at *
          obtain ⟨pid, x, y, d⟩ := P
          obtain ⟨p0, p1, x0, x1, y0', y1', p2⟩ := hok
          clear p0 p1 p2
          simp only at y1 y2 hGk hck x0 x1 y0' y1'
          have lx := hid (hlaw.out x x0)
          have ly := hid (hlaw.out y y0')
          generalize cellI n x = rx at *
          generalize cellI n y = ry at *
          have hmul : ry * S ≤ 16 * 16 := Nat.mul_le_mul (by omega) hS16
          have hxS : x * (S : Int) ≤ 4294967295 * 16 := Int.mul_le_mul x1 (by omega) (by omega) (by omega)
          have hyS : y * (S : Int) ≤ 4294967295 * 16 := Int.mul_le_mul y1' (by omega) (by omega) (by omega)
          have hxS0 : 0 ≤ x * (S : Int) := Int.mul_nonneg x0 (by omega)
          have hyS0 : 0 ≤ y * (S : Int) := Int.mul_nonneg y0' (by omega)
          have kx := hid (show Int.tdiv (x * (S : Int)) 4294967296 = (rx : Int) from by rw [Int.tdiv_eq_ediv_of_nonneg hxS0]; exact lx.out)
          have ky := hid (show Int.tdiv (y * (S : Int)) 4294967296 = (ry : Int) from by rw [Int.tdiv_eq_ediv_of_nonneg hyS0]; exact ly.out)
          have rx16 : rx ≤ 16 := by omega
          have ry16 : ry ≤ 16 := by omega
          have ux := hid (show IntKind.u64.wrap (rx : Int) = (rx : Int) from IntWalk.u64_in _ (by omega))
          have uy := hid (show IntKind.u64.wrap (ry : Int) = (ry : Int) from IntWalk.u64_in _ (by omega))
          have e1 := hid (show IntKind.u64.wrap (x * (S : Int)) = x * (S : Int) from IntWalk.u64_in _ (by omega))
          have e2 := hid (show IntKind.u64.wrap (y * (S : Int)) = y * (S : Int) from IntWalk.u64_in _ (by omega))
          obtain ⟨XS, hXS⟩ : ∃ XS, x * (S : Int) = XS := ⟨_, rfl⟩
          obtain ⟨YS, hYS⟩ : ∃ YS, y * (S : Int) = YS := ⟨_, rfl⟩
          have e1' := hid (show IntKind.u64.wrap (x * (S : Int)) = XS from e1.out.trans hXS)
          have e2' := hid (show IntKind.u64.wrap (y * (S : Int)) = YS from e2.out.trans hYS)
          rw [hXS] at kx
          rw [hYS] at ky
          clear e1 e2 hXS hYS lx ly
          have e3 := hid (show wrap64 ((ry : Int) * (S : Int)) = ((ry * S : Nat) : Int) by
            rw [show (ry : Int) * (S : Int) = ((ry * S : Nat) : Int) from (Int.natCast_mul _ _).symm]
            exact IntWalk.wrap64_in _ ⟨by omega, by omega⟩)
          have e4 : ((ry * S : Nat) : Int) + (rx : Int) = ((g k : Nat) : Int) := by rw [hGk]; omega
          have hcnt := gridL_at g N k (g k) hj
          have hcle := cntG_le g (g k) k
          have hO := own_blk Or (by rw [gridL_len]; omega)
          have hstep := hid (gridL_step g N k)
          have hmax : k + 1 ≤ maxLen := by omega
          clear hxS hyS hxS0 hyS0
          replace e4 := hid e4
          replace hck := hid hck
          clear hGk
          generalize ry * S = A at *
          generalize cntG g (g k) k = c at *
          generalize g k = j at *
          have hj' : (j : Int) < (N : Int) := by omega
          have hj0 : (0 : Int) ≤ (j : Int) := by omega
          obtain ⟨gb, capb, cur, hv, v1, v2, v3, BO, v4, hcj⟩ := hO
          simp only [Value.slice.injEq, Option.some.injEq, Addr.mk.injEq] at hv
          obtain ⟨⟨rfl, v5⟩, v6⟩ := hv
          clear v1 v2 v3 v4 v5 v6
          have hcur : cur[j]? = some (.int .i64 (c : Int)) := by
            rw [hcj j (by rw [gridL_len]; exact hj), flat_ints, List.getElem?_map, hcnt]
            rfl
          have hmeas := hid (meas_up8 m k hlt)
          have hkk := hid (show (k : Int) + 1 = ((k + 1 : Nat) : Int) from rfl)
          have hw1h : (k : Int) + 1 ≤ 9223372036854775807 := by unfold maxLen at hmax; omega
          have s3 : wrap64 ((c : Int) + 1) = (c : Int) + 1 := IntWalk.wrap64_in _ ⟨by omega, by unfold maxLen at hmax; omega⟩
          have E5 := hid (And.intro hbr Or)
          have BOh := hid BO
          rw [hq8]
          clear hcj hcnt hcle hmax hgk' hbr Or R8 R9 hq8 hDz BO hmul
          obtain ⟨l5, m5, f5⟩ := BOh.out
          replace e1' := e1'.out
          replace e2' := e2'.out
          replace e3 := e3.out
          replace e4 := e4.out
          replace kx := kx.out
          replace ky := ky.out
          replace ux := ux.out
          replace uy := uy.out
          go_wp2_with fail
          refine ⟨⟨k + 1, by omega, ?_, ?_, ?_⟩, hmeas.out _ hkk.out⟩
          · rw [hkk.out]
          · exact (E5.out.1).trans ((Sole.setCell (S := fun b => b = g0) _ (b := g0) (o := j) (.int .i64 ((c : Int) + 1)) rfl).below (B := g0) (by have := hg0h.out; have := E5.out.1.size; omega) fun b e => by omega)
          · have h1 := E5.out.2
            rw [← hstep.out]
            unfold RowOwn at h1 ⊢
            rw [gridL_len] at h1
            rw [List.length_set, gridL_len, flat_ints, List.map_set]
            rw [flat_ints] at h1
            exact own_set h1 j _
        · have hkm : m = k := by omega
          subst hkm
          have hg0' := hg0h.out
          have hDz := hid (D1.out.trans (hbr.mono (by have := D1.out.size; omega)))
          have Orh := hid Or
          have KG1 := hid (KG.out _ (HRh.out.more hDz.out))
          clear hbr Or hg0' hlt hk
          go_wp2_with fail
          refine KG1.out.mono ?_
          rintro e w5 ⟨v5, rfl, O5, hb5⟩
          have KI := hid (ints_own w5 _ _ _ _ _ O5 (RowOwn.more Orh.out hb5))
          have D5 := hid (below2 hDz.out hb5 hDz.out.size)
          clear O5 hb5 KG1
          go_wp2_with fail
          refine KI.out.mono ?_
          rintro e w6 ⟨rfl, hb6⟩
          have D6 := hid (below2 D5.out hb6 D5.out.size)
          clear hb6 KI
          go_wp2_with fail
          go_ret
          exact ⟨rfl, D6.out⟩
end Go.Proofs.Ytgjdngpninpgmaa

namespace Go.Proofs.Ytgjdngpninpgmaa
open Go.ChangeShapes Go.WideShapes Go.ChangeAt Go.RowKit
set_option linter.unusedVariables false
set_option maxRecDepth 100000

theorem statsGrids_lifted (os : Os) (started : os.Started) (H : Type) (enc : TypeId × Value → H) :
    ReturnsInHanded {} Try.checked os 3 .any (Rows.statsGridsSpec.pre6 enc Try.prog Try.f3 [] false) (Rows.statsGridsSpec.post enc Try.prog Try.f3 false true false false) :=
  lift (C := Try.checked) (s := Rows.statsGridsSpec) own (by kernel_rfl) Try.func3 laidOut rfl rfl Try.underlying4 (by kernel_rfl)
    (fun H ds hd => by match ds, hd with | [d1, d2], _ => rfl) os started H enc
    (ChangeSpec.witness6 (enc := enc) (C := Try.checked) false ⟨#[], #[.slice none 0 0, .int .i64 0], []⟩ 8 (by kernel_rfl) (by kernel_rfl) (by kernel_rfl) (by kernel_rfl))
    (fun W base args ds ps hval0 hA0 => by
      have hval : ∀ (j : Nat) t v, Try.f3.params[j]? = some t → args[j]? = some v → Value.okWide Try.prog W .any base t v := hval0
      have hA : DataW.TrodAll enc Try.prog W 0 (fun _ => true) true Try.f3.params.toList args.toList ds ps := hA0
      rw [Try.params3] at hA hval
      obtain ⟨v0, s0, d0, e0, p0, q0, g0, h0, r0⟩ := args_cons hA
      obtain ⟨v1, s1, d1, e1, p1, q1, rfl, h1, r1⟩ := args_cons r0
      obtain ⟨rfl, _, _⟩ := trodAll_nil r1
      obtain rfl : args = #[v0, v1] := by cases args; simp_all
      obtain ⟨n, f, hf, hs⟩ := pts_of (hval 0 22 v0 rfl rfl) h0
      obtain ⟨q, cap, rfl, c1, c2, HR⟩ := hs.open
      obtain ⟨L, rfl, _, _⟩ := open_i64 Try.underlying3 (hval 1 3 v1 rfl rfl) h1
      exact statsGrids q n cap f hf c1 c2 L W HR)

theorem statsGrids_holds : Rows.StatsGridsSaid :=
  OpenClaim.holds_of_wide 3 Try.f3 rfl rfl rfl rfl rfl rfl rfl ⟨rfl, rfl, rfl, rfl, rfl⟩ rfl rfl rfl rfl rfl (by kernel_rfl) Try.func3 (by kernel_rfl)
    (of_decide_eq_true (by kernel_rfl)) (by unfold Func.isWrapper; rw [if_neg (of_decide_eq_false (by kernel_rfl))]; exact ⟨rfl, rfl⟩)
    (fun os started H enc _ => statsGrids_lifted os started H enc)
#print axioms statsGrids_holds
end Go.Proofs.Ytgjdngpninpgmaa
