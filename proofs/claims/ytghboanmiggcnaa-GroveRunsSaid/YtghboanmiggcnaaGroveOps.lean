/-
  Package grove: Put, Get, Drop, Clone, Ids, of any grove.
-/
import Derived.Test.YtghboanmiggcnaaGroveCopy
import Derived.Test.YtghboanmiggcnaaRegion
import Derived.Shelf.SlMaps.Clone
import Derived.Maps.OwnSet
import Derived.BigQuiet
import Derived.Test.YtghboanmiggcnaaLay
namespace Go.Proofs.Ytghboanmiggcnaa
open Go.RowKit Go.Maps Go.Shelf
set_option linter.unusedVariables false
set_option linter.unusedSimpArgs false

/-- How a node in a map reads: as itself. -/
def heldR (v : Value) : Option (DataW Value × List MemPlace) := some (.held v, [])
theorem glawK : Keyed Try.prog 3 := int_keyed Try.underlying3
/-- A grove: its map's entries read as D. -/
structure GroveM (w : World) (p b n : Nat) (D : DataW Value) : Prop where
  blk : Blk w p #[.map (some b)]
  own : w.ownsMap Try.prog 3 heldR b n D
  ne : p ≠ b
theorem gmap_sole {S : Nat → Prop} {w w' : World} {b n : Nat} {D : DataW Value} (h : w.ownsMap Try.prog 3 heldR b n D) (hs : Sole S w w') (hn : ¬ S b) : w'.ownsMap Try.prog 3 heldR b n D := by
  have hlt := h.lt
  obtain ⟨es, clock, hb, r⟩ := h
  exact ⟨es, clock, (hs.block b hlt hn).trans hb, r⟩
theorem GroveM.kept {S : Nat → Prop} {w w' : World} {p b n : Nat} {D : DataW Value} (h : GroveM w p b n D) (hs : Sole S w w') (hp : ¬ S p) (hb : ¬ S b) : GroveM w' p b n D := ⟨h.blk.sole hs hp, gmap_sole h.own hs hb, h.ne⟩
theorem GroveM.more {w w' : World} {p b n : Nat} {D : DataW Value} (h : GroveM w p b n D) (hb : Below w.heap.size w w') : GroveM w' p b n D := h.kept (Sole.made (S := fun _ => False) hb) id id
theorem GroveM.drew {w : World} {p b n : Nat} {D : DataW Value} (h : GroveM w p b n D) : GroveM w.drew p b n D := h.more (Below.refl _ _).drew
theorem grown_sole {w w' : World} {b : Nat} (h : w.grownBy w' (some b)) : Sole (fun k => k = b) w w' := Sole.grown h fun k e => by cases e; rfl
theorem step_mapUpdate_own {H : Type} {P : Program} {ops : Array Oper} {o : Oper} {a : Act} {w : World} {KK : Act → World → Prop} {Q : Exit → Act → World → Prop} {E : Prop} (hgd : o.guard = none) (m x v : Operand) (t : TypeId)
    (ho : o.op = Op.mapUpdate t m x v) (k e : TypeId) (K : Keyed P k) (ht : P.underlying t = some (.map k e)) (R : Value → Option (DataW H × List MemPlace)) (b n : Nat) (D : DataW H) (hm : a.eval m = .map (some b)) (hown : w.ownsMap P k R b n D) (hn : n < maxLen)
    (key val : Value) (kl : Lit) (hx : a.eval x = key) (hv : a.eval v = val) (hkey : keyOf P k key = some kl) (d : DataW H) (ps : List MemPlace) (hval : R val = some (d, ps))
    (h : ∀ w', w'.ownsMap P k R b (n + 1) (D.put kl d) → w.grownBy w' (some b) → KK (a.put o.dst undef) w') : if Region.wanted o (yielded ops a.tmps) = true then Oper.wp P o a w KK Q else E := by
  rw [if_pos (by simp [Region.wanted, hgd])]
  obtain ⟨w', hrun, r1, r2⟩ := hown.update K ht hn hkey hval
  unfold Oper.wp
  simp [execOp, ho, hm, hx, hv, hrun, Result.andThen]
  exact h w' r1 r2
theorem nodeB_few {lf : Bool} {n : Nat} {f : Nat → Pt} {nx : Int} {k c : Nat → Int} (h : nodeB lf n f nx k c = true) : n ≤ 4 := by
  unfold nodeB at h
  split at h
  · exact (leafB_parts h).1
  · rw [(otherB_parts h).1]; omega

set_option maxRecDepth 100000 in
set_option maxHeartbeats 4000000 in
theorem gput_ok (g b n : Nat) (D : DataW Value) (w : World) (G : GroveM w g b n D) (hn : n < 1000000) (id : Int) (i0 : 1 ≤ id) (i1 : id < 256) (lf : Bool) (q : Option Addr) (m cap : Nat) (f : Nat → Pt) (hf : ∀ i, i < m → (f i).ok) (nx : Int) (k c : Nat → Int) (h1 : m ≤ cap) (h2 : cap ≤ maxLen)
    (HR : RowP w q 4 m (fun i => pcells (f i))) (hB : nodeB lf m f nx k c = true) :
    Calls Try.prog 8 #[.pointer (some ⟨g, 0, none⟩), .int .i64 id, ndval lf (.slice q m cap) nx k c] w fun e w' => e = .returned (.int .i64 0) ∧ ∃ q' c', OwnP w' w.heap.size q' m c' f ∧ GroveM w' g b (n + 1) (D.put (.int .i64 id) (.held (ndval lf (.slice q' m c') nx k c))) ∧ Sole (fun k => k = b) w w' := by
  have hm := nodeB_few hB
  have hb0 := below_one w (.cells (ndl lf (.slice q m cap) nx (k 0) (k 1) (k 2) (k 3) (c 0) (c 1) (c 2) (c 3)).toArray 29)
  have BX := Blk.new w (ndl lf (.slice q m cap) nx (k 0) (k 1) (k 2) (k 3) (c 0) (c 1) (c 2) (c 3)).toArray 29
  have KM := hid (gmadeOf g (some b) _ (G.blk.more hb0))
  have KC := ncheck_any lf q m cap f hf nx k c h1 h2 _ (HR.more hb0)
  rw [hB] at KC
  dsimp only [ndval] at KC ⊢
  replace KC := hid KC
  have KP := hid (fun W (hW : Below w.heap.size w W) => gcopied_any lf q m cap f (by omega) nx (k 0) (k 1) (k 2) (k 3) (c 0) (c 1) (c 2) (c 3) W (HR.more hW))
  have Gh := hid (G.more hb0)
  have glt := hid (And.intro G.blk.lt G.own.lt)
  have hkey := keyOf_int_mk (P := Try.prog) Try.underlying3 (show (Lit.int .i64 id).wf = true by rw [show id = wrap64 id by unfold wrap64; omega]; exact wrap64_wf _)
  have hmax : n < maxLen := by unfold maxLen; omega
  have HBX := hid BX
  have D0 := hid hb0
  clear HR hB hf h1 h2 G hb0 BX
  generalize k 0 = k0 at *
  generalize k 1 = k1 at *
  generalize k 2 = k2 at *
  generalize k 3 = k3 at *
  generalize c 0 = c0 at *
  generalize c 1 = c1 at *
  generalize c 2 = c2 at *
  generalize c 3 = c3 at *
  obtain ⟨lx, mx, fx⟩ := HBX.out
  go_enter Try.func8, Try.ntmps8
  go_wp2_with fail
  refine KM.out.mono ?_
  rintro e w1 ⟨rfl, hw⟩
  rw [hw]
  clear hw w1 KM
  go_wp2_with fail
  refine KC.out.mono ?_
  rintro e w1 ⟨rfl, hb1⟩
  have D1 := hid (below2 D0.out hb1 D0.out.size)
  have G1 := Gh.out.more hb1
  have BG := G1.blk
  have HM1 := hid (show w1.drew.ownsMap Try.prog 3 heldR b n D from G1.own.drew)
  have B1 := HBX.out.more hb1
  have hs1 := hid D1.out.size
  clear lx mx fx KC D0 HBX hb1
  obtain ⟨lg, mg, fg⟩ := BG
  have B1h := hid (show Blk w1.drew w.heap.size _ from ⟨B1.lt, B1.cell, B1.frz⟩)
  obtain ⟨lx, mx, fx⟩ := B1
  have G1h := hid G1
  clear G1
  go_wp2_with fail
  have KPd := hid (KP.out w1.drew D1.out.drew)
  clear KP
  go_region_law (go_simp; (with_reducible refine (KPd.out).mono ?_); rintro e w2 ⟨qq, cc, rfl, O2, hb2⟩; obtain ⟨w3, hrun, hown3, hgrow3⟩ := (gmap_sole HM1.out (Sole.made (S := fun _ => False) hb2) (fun h => h)).update glawK Try.underlying71 hmax (val := .agg (ndl lf (.slice qq m cc) nx k0 k1 k2 k3 c0 c1 c2 c3).toArray) hkey rfl; replace hown3 := hid hown3; replace hgrow3 := hid hgrow3; have hb2h := hid hb2; have O2h := hid O2; clear hb2 O2; obtain ⟨lg, mg, fg⟩ := G1h.out.drew.blk.more hb2h.out; obtain ⟨lx, mx, fx⟩ := B1h.out.more hb2h.out)
  all_goals
    have S23 := grown_sole hgrow3.out
    have hsz := hid (show w.heap.size ≤ w1.drew.heap.size from hs1.out)
    have S02 := (Sole.made (S := fun kk => kk = b) (below2 D1.out.drew hb2h.out hsz.out)).trans S23
    have O3 := RowOwn.mono (O2h.out.sole S23 (fun kk hk e => by have := (RowOwn.within O2h.out kk hk).1; have := glt.out.2; have := hsz.out; omega)) hsz.out
    have G3 : GroveM w3 g b (n + 1) _ := ⟨(G1h.out.drew.blk.more hb2h.out).sole S23 (fun e => G1h.out.ne e), hown3.out, G1h.out.ne⟩
    have E := hid (show OwnP w3 w.heap.size qq m cc f ∧ _ ∧ _ from ⟨O3, G3, S02⟩)
    clear S23 S02 O3 G3 hown3 hgrow3 hrun
    go_wp2_with fail
    go_ret
    exact ⟨rfl, qq, cc, E.out⟩

set_option maxRecDepth 100000 in
set_option maxHeartbeats 4000000 in
theorem gput_bad (g b n : Nat) (D : DataW Value) (w : World) (G : GroveM w g b n D) (id : Int) (lf : Bool) (q : Option Addr) (m cap : Nat) (f : Nat → Pt) (hf : ∀ i, i < m → (f i).ok) (nx : Int) (k c : Nat → Int) (h1 : m ≤ cap) (h2 : cap ≤ maxLen)
    (HR : RowP w q 4 m (fun i => pcells (f i))) (hB : nodeB lf m f nx k c = false ∨ ¬ (1 ≤ id ∧ id < 256)) :
    Calls Try.prog 8 #[.pointer (some ⟨g, 0, none⟩), .int .i64 id, ndval lf (.slice q m cap) nx k c] w fun e w' => (∃ x : Int, e = .returned (.int .i64 x) ∧ x ≠ 0) ∧ Below w.heap.size w w' := by
  have hb0 := below_one w (.cells (ndl lf (.slice q m cap) nx (k 0) (k 1) (k 2) (k 3) (c 0) (c 1) (c 2) (c 3)).toArray 29)
  have BX := Blk.new w (ndl lf (.slice q m cap) nx (k 0) (k 1) (k 2) (k 3) (c 0) (c 1) (c 2) (c 3)).toArray 29
  have KM := hid (gmadeOf g (some b) _ (G.blk.more hb0))
  have KC := ncheck_any lf q m cap f hf nx k c h1 h2 _ (HR.more hb0)
  dsimp only [ndval] at KC ⊢
  replace KC := hid KC
  have HBX := hid BX
  have D0 := hid hb0
  clear HR hf h1 h2 G hb0 BX
  generalize nodeB lf m f nx k c = B at *
  generalize k 0 = k0 at *
  generalize k 1 = k1 at *
  generalize k 2 = k2 at *
  generalize k 3 = k3 at *
  generalize c 0 = c0 at *
  generalize c 1 = c1 at *
  generalize c 2 = c2 at *
  generalize c 3 = c3 at *
  obtain ⟨lx, mx, fx⟩ := HBX.out
  go_enter Try.func8, Try.ntmps8
  go_wp2_with fail
  refine KM.out.mono ?_
  rintro e w1 ⟨rfl, hw⟩
  rw [hw]
  clear hw w1 KM
  cases B with
  | false =>
    clear hB
    go_wp2_with fail
    refine KC.out.mono ?_
    rintro e w1 ⟨rfl, hb1⟩
    have D1 := hid (below2 D0.out hb1 D0.out.size)
    clear lx mx fx KC D0 HBX hb1
    go_wp2_with fail
    go_ret
    exact ⟨⟨9, rfl, by decide⟩, D1.out⟩
  | true =>
    have hid' : ¬ (1 ≤ id ∧ id < 256) := hB.resolve_left (by simp)
    clear hB
    go_wp2_with fail
    refine KC.out.mono ?_
    rintro e w1 ⟨rfl, hb1⟩
    have D1 := hid (below2 D0.out hb1 D0.out.size)
    clear lx mx fx KC D0 HBX hb1
    by_cases hi : id < 1
    · have hi' : decide (id < 1) = true := decide_eq_true hi
      clear hid'
      go_wp2_with fail
      go_ret
      exact ⟨⟨4, rfl, by decide⟩, D1.out⟩
    · have hi' : decide (id < 1) = false := decide_eq_false hi
      have hj : 256 ≤ id := by omega
      have hj' : decide (256 ≤ id) = true := decide_eq_true hj
      clear hid'
      go_wp2_with fail
      go_ret
      exact ⟨⟨4, rfl, by decide⟩, D1.out⟩

set_option maxRecDepth 100000 in
theorem gclone_any (g b n : Nat) (D : DataW Value) (w : World) (G : GroveM w g b n D) :
    Calls Try.prog 7 #[.pointer (some ⟨g, 0, none⟩)] w fun e w' => ∃ g2 b2, e = .returned (.pointer (some ⟨g2, 0, none⟩)) ∧ w.heap.size ≤ g2 ∧ w.heap.size ≤ b2 ∧ GroveM w' g2 b2 n D ∧ Below w.heap.size w w' := by
  have KM := hid (gmadeOf g (some b) w G.blk)
  have KC := hid (AnyW.maps_Clone_owns Try.cloneM 3 heldR b n D w G.own)
  obtain ⟨lg, mg, fg⟩ := G.blk
  clear G
  go_enter Try.func7, Try.ntmps7
  go_wp2_with fail
  refine KM.out.mono ?_
  rintro e w1 ⟨rfl, hw⟩
  rw [hw]
  clear hw w1 KM
  go_wp2_with fail
  refine KC.out.mono ?_
  rintro e w1 ⟨rfl, ho, _, hb1⟩
  have hb2 := below_one w1 (.cells #[.map (some w.heap.size)] 73)
  have E := hid (show GroveM (w1.alloc (.cells #[.map (some w.heap.size)] 73)) w1.heap.size w.heap.size n D ∧ Below w.heap.size w (w1.alloc (.cells #[.map (some w.heap.size)] 73)) ∧ w.heap.size ≤ w1.heap.size from
    ⟨⟨Blk.new w1 _ _, gmap_sole ho (Sole.made (S := fun _ => False) hb2) (fun h => h), fun e => by have := ho.lt; omega⟩, hb1.trans (hb2.mono hb1.size), hb1.size⟩)
  clear ho hb1 hb2 KC
  go_wp2_with fail
  go_ret
  exact ⟨_, _, rfl, E.out.2.2, Nat.le_refl _, E.out.1, E.out.2.1⟩

theorem glook {w : World} {b n : Nat} {D : DataW Value} (h : w.ownsMap Try.prog 3 heldR b n D) (id : Int) (hw : (Lit.int .i64 id).wf = true) (V : Value) (hV : D.atKey (.int .i64 id) (.held gnode0) = .held V) :
    (Instr.lookup 71 (.map (some b)) (.int .i64 id) true).run Try.prog w = .ok (.tuple #[V, .bool (Maps.has D (.int .i64 id))]) w := by
  obtain ⟨v, ps, hrun, hv⟩ := h.look_ok glawK Try.underlying71 (gzero w) (zd := .held gnode0) (zp := []) rfl (keyOf_int_mk (P := Try.prog) Try.underlying3 hw)
  have : v = V := by
    have h2 : heldR v = some (.held v, []) := rfl
    rw [h2, hV] at hv
    simp only [Option.some.injEq, Prod.mk.injEq, DataW.held.injEq] at hv
    exact hv.1
  subst this
  exact hrun

set_option maxRecDepth 100000 in
set_option maxHeartbeats 4000000 in
theorem gget_any (g b n : Nat) (D : DataW Value) (w : World) (G : GroveM w g b n D) (id : Int) (hw : (Lit.int .i64 id).wf = true) (lf : Bool) (q : Option Addr) (m cap : Nat) (f : Nat → Pt) (hm : m ≤ 1000000) (nx k0 k1 k2 k3 c0 c1 c2 c3 : Int)
    (hV : D.atKey (.int .i64 id) (.held gnode0) = .held (.agg (ndl lf (.slice q m cap) nx k0 k1 k2 k3 c0 c1 c2 c3).toArray)) (HR : RowP w q 4 m (fun i => pcells (f i))) :
    Calls Try.prog 12 #[.pointer (some ⟨g, 0, none⟩), .int .i64 id] w fun e w' => ∃ q' c', e = .returned (.tuple #[.agg (ndl lf (.slice q' m c') nx k0 k1 k2 k3 c0 c1 c2 c3).toArray, .bool (Maps.has D (.int .i64 id))]) ∧ OwnP w' w.heap.size q' m c' f ∧ Below w.heap.size w w' := by
  have hb0 := below_one w (.cells (ndl false (.slice none 0 0) 0 0 0 0 0 0 0 0 0).toArray 29)
  have KA := hid (gallOf g (.map (some b)) _ (G.blk.more hb0))
  have hrun := glook (G.more hb0).own id hw _ hV
  have BX := hid (Blk.new w (ndl false (.slice none 0 0) 0 0 0 0 0 0 0 0 0).toArray 29)
  have hb1 := below_one (w.alloc (.cells (ndl false (.slice none 0 0) 0 0 0 0 0 0 0 0 0).toArray 29)) (.cells (ndl lf (.slice q m cap) nx k0 k1 k2 k3 c0 c1 c2 c3).toArray 29)
  have D0 := hid (below2 hb0 hb1 hb0.size)
  have KC := hid (gcopied_any lf q m cap f hm nx k0 k1 k2 k3 c0 c1 c2 c3 _ (HR.more D0.out))
  have BX1 := hid (BX.out.more hb1)
  have hs1 := hid (show (((w.alloc (.cells (ndl false (.slice none 0 0) 0 0 0 0 0 0 0 0 0).toArray 29)).alloc (.cells (ndl lf (.slice q m cap) nx k0 k1 k2 k3 c0 c1 c2 c3).toArray 29)).heap.size = w.heap.size + 2) by simp)
  generalize Maps.has D (.int .i64 id) = hs at *
  clear G hb0 hb1 BX HR hV
  go_enter Try.func12, Try.ntmps12
  go_wp2_with fail
  refine KA.out.mono ?_
  rintro e w1 ⟨rfl, hw1⟩
  rw [hw1]
  clear hw1 w1 KA
  go_wp2_with fail
  refine KC.out.mono ?_
  rintro e w2 ⟨qq, cc, rfl, O2, hb2⟩
  have B2 := BX1.out.more hb2
  have D2 := hid (below2 D0.out hb2 D0.out.size)
  have O2h := hid O2
  clear hb2 O2 KC BX1
  obtain ⟨l1, m1, f1⟩ := B2
  go_wp2
  have B3 : Blk (setAll w2 w.heap.size 0 (ndl lf (.slice qq m cc) nx k0 k1 k2 k3 c0 c1 c2 c3)) w.heap.size _ := Blk.fill (ndl lf (.slice qq m cc) nx k0 k1 k2 k3 c0 c1 c2 c3) 0 ⟨l1, m1, f1⟩ (by simp)
  have D3 := hid (below_fill (b := w.heap.size) (Nat.le_refl _) (ndl lf (.slice qq m cc) nx k0 k1 k2 k3 c0 c1 c2 c3) 0 D2.out)
  have S3 := sole_setAll (S := fun kk => kk = w.heap.size) rfl (ndl lf (.slice qq m cc) nx k0 k1 k2 k3 c0 c1 c2 c3) 0 w2
  have O3 := hid (RowOwn.mono (O2h.out.sole S3 (fun kk hk e => by have := (RowOwn.within O2h.out kk hk).1; have := hs1.out; omega)) (show w.heap.size ≤ _ by have := hs1.out; omega))
  clear S3 O2h D2 l1 m1 f1
  simp only [setAll, Nat.zero_add, Nat.reduceAdd] at B3 D3 O3
  generalize World.setCell _ _ _ = W3 at *
  obtain ⟨l9, g9, f9⟩ := B3
  refine bodyPost_ret (v := .tuple #[.agg (ndl lf (.slice qq m cc) nx k0 k1 k2 k3 c0 c1 c2 c3).toArray, .bool hs]) (by simp [results, Try.results12, go_sem, g9, fillC]) rfl ⟨qq, cc, rfl, O3.out, D3.out⟩

set_option maxRecDepth 100000 in
set_option maxHeartbeats 4000000 in
theorem gdrop_none (g b n : Nat) (D : DataW Value) (w : World) (G : GroveM w g b n D) (id : Int) (hw : (Lit.int .i64 id).wf = true) (hh : Maps.has D (.int .i64 id) = false) :
    Calls Try.prog 10 #[.pointer (some ⟨g, 0, none⟩), .int .i64 id] w fun e w' => e = .returned (.bool false) ∧ GroveM w' g b n (D.del (.int .i64 id)) ∧ Sole (fun k => k = b) w w' := by
  have KA := hid (gallOf g (.map (some b)) w G.blk)
  have hrun := glook G.own id hw gnode0 (atKey_of_not_has hh _)
  rw [hh] at hrun
  have hb1 := below_one w (.cells (ndl false (.slice none 0 0) 0 0 0 0 0 0 0 0 0).toArray 29)
  have G1 := G.more hb1
  have KA1 := hid (gallOf g (.map (some b)) _ G1.blk)
  have hkey := keyOf_int_mk (P := Try.prog) Try.underlying3 hw
  obtain ⟨w2, hdel, hown2, hturn⟩ := G1.own.drop glawK Try.underlying71 hkey 0
  have S12 := grown_sole hturn.grown
  have E := hid (show GroveM w2 g b n (D.del (.int .i64 id)) ∧ Sole (fun k => k = b) w w2 from ⟨⟨G1.blk.sole S12 G.ne, hown2, G.ne⟩, (Sole.made hb1).trans S12⟩)
  clear G hb1 G1 S12 hturn hown2 hkey
  go_enter Try.func10, Try.ntmps10
  go_wp2_with fail
  refine KA.out.mono ?_
  rintro e w1 ⟨rfl, hw1⟩
  rw [hw1]
  clear hw1 w1 KA
  go_wp2_with fail
  refine KA1.out.mono ?_
  rintro e w1 ⟨rfl, hw1⟩
  rw [hw1]
  clear hw1 w1 KA1
  go_wp2_with fail
  go_ret
  exact ⟨rfl, E.out⟩
end Go.Proofs.Ytghboanmiggcnaa
