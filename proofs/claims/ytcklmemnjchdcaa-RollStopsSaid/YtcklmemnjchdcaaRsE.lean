/-
  Package seglog: Write of sectors, behind many others.
-/
import Derived.Test.YtcklmemnjchdcaaRsA2
import Derived.Test.YtcklmemnjchdcaaRsD
import Derived.Test.YtcklmemnjchdcaaRsC
import Derived.Test.YtcklmemnjchdcaaRsZ
import Derived.LoopTactic
import Derived.Test.YtcklmemnjchdcaaRsB

/-
  Package seglog: of a sector that is none nothing is told.
-/


namespace Go.Proofs.Ytcklmemnjchdcaa
open Go.RowKit Go.Maps
set_option linter.unusedVariables false
set_option linter.unusedSimpArgs false

/-- A summary of none. -/
abbrev summ0 : Value := .agg #[.int .i64 0, .bool false, .slice none 0 0]
theorem open_none (l : List UInt8) (a : Option Addr) (cap : Nat) (h1 : l.length ≤ cap) (h2 : cap ≤ maxLen) (w : World) (O : Octs w a l) (hg : goodB l = false) :
    Calls Try.prog 79 #[.slice a l.length cap] w fun e w' => ∃ q c, e = .returned (.tuple #[.int .i64 0, sval ⟨0, 0, 0⟩, .slice q 0 c, .int .i64 16]) ∧ Below w.heap.size w w' := by
  obtain ⟨eK, eS, eT, eE⟩ := open_bad hg
  refine (fopen_any l a cap h1 h2 w O).mono ?_
  rintro e w' ⟨v, rfl, ⟨q, c, rfl, _⟩, hb⟩
  rw [eK, eS, eE, eT]
  exact ⟨q, c, rfl, hb⟩

set_option maxRecDepth 100000 in
set_option maxHeartbeats 4000000 in
theorem snode_bad (l : List UInt8) (a : Option Addr) (cap : Nat) (h1 : l.length ≤ cap) (h2 : cap ≤ maxLen) (w : World) (O : Octs w a l) (hg : goodB l = false) :
    Calls Try.prog 66 #[.slice a l.length cap] w fun e w' => e = .returned (.tuple #[item0, .int .i64 21]) ∧ Below w.heap.size w w' := by
  obtain ⟨W0, hW0⟩ : ∃ W0, w.alloc (.cells #[.int .i64 0, .bool false, .slice none 0 0, .int .i64 0, .int .i64 0, .int .i64 0, .int .i64 0, .int .i64 0, .int .i64 0, .int .i64 0, .int .i64 0, .int .i64 0] 80) = W0 := ⟨_, rfl⟩
  have hb0 : Below w.heap.size w W0 := by rw [← hW0]; exact (Below.refl _ _).alloc (Nat.le_refl _) _
  have BX : Blk W0 w.heap.size #[.int .i64 0, .bool false, .slice none 0 0, .int .i64 0, .int .i64 0, .int .i64 0, .int .i64 0, .int .i64 0, .int .i64 0, .int .i64 0, .int .i64 0, .int .i64 0] := by rw [← hW0]; exact Blk.new w _ _
  have KO := hid (open_none l a cap h1 h2 W0 (O.more hb0) hg)
  have HBX := hid BX
  have D0 := hid hb0
  clear BX O h1 h2 hg hb0
  generalize l.length = ll at *
  go_enter Try.func66, Try.ntmps66
  go_wp2_with fail
  refine KO.out.mono ?_
  rintro e w1 ⟨q, c, rfl, hb1⟩
  have HB1 := HBX.out.more hb1
  have D1 := hid (below2 D0.out hb1 D0.out.size)
  have HB2 := HB1.more (below_al1 w1 (.cells (scells ⟨0, 0, 0⟩) 116))
  have D2 := hid (D1.out.alloc D1.out.size (.cells (scells ⟨0, 0, 0⟩) 116))
  clear hb1 KO HBX D0 hW0 HB1
  obtain ⟨lx, kx, fx⟩ := HB2
  go_wp2
  have B3 : Blk (setAll (w1.alloc (.cells (scells ⟨0, 0, 0⟩) 116)) w.heap.size 0 [.int .i64 0, .bool false, .slice none 0 0, .int .i64 0, .int .i64 0, .int .i64 0, .int .i64 0, .int .i64 0, .int .i64 0, .int .i64 0, .int .i64 0, .int .i64 0]) w.heap.size _ := Blk.fill [.int .i64 0, .bool false, .slice none 0 0, .int .i64 0, .int .i64 0, .int .i64 0, .int .i64 0, .int .i64 0, .int .i64 0, .int .i64 0, .int .i64 0, .int .i64 0] 0 ⟨lx, kx, fx⟩ (by simp)
  have D3 := hid (below_fill (b := w.heap.size) (Nat.le_refl _) [.int .i64 0, .bool false, .slice none 0 0, .int .i64 0, .int .i64 0, .int .i64 0, .int .i64 0, .int .i64 0, .int .i64 0, .int .i64 0, .int .i64 0, .int .i64 0] 0 D2.out)
  simp only [setAll, Nat.zero_add, Nat.reduceAdd, scells] at B3 D3
  generalize World.setCell _ _ _ = W3 at *
  obtain ⟨l3, k3, f3⟩ := B3
  clear lx kx fx
  refine bodyPost_ret (v := .tuple #[item0, .int .i64 21]) (by simp [results, Try.results66, go_sem, k3, fillC]) rfl ⟨rfl, D3.out⟩
end Go.Proofs.Ytcklmemnjchdcaa

/-
  The example of layer 19.
-/



namespace Go.Proofs.Ytcklmemnjchdcaa
open Go.RowKit Go.Maps
set_option linter.unusedVariables false
set_option linter.unusedSimpArgs false

set_option maxRecDepth 100000 in
set_option maxHeartbeats 4000000 in
theorem ssum_bad (l : List UInt8) (a : Option Addr) (cap : Nat) (t : Stp) (h1 : l.length ≤ cap) (h2 : cap ≤ maxLen) (w : World) (O : Octs w a l) (hg : goodB l = false) :
    Calls Try.prog 65 #[.slice a l.length cap, sval t] w fun e w' => e = .returned (.tuple #[summ0, .bool false]) ∧ Below w.heap.size w w' := by
  obtain ⟨W0, hW0⟩ : ∃ W0, (w.alloc (.cells (scells t) 116)).alloc (.cells #[.int .i64 0, .bool false, .slice none 0 0] 83) = W0 := ⟨_, rfl⟩
  have hb0 : Below w.heap.size w W0 := by rw [← hW0]; exact (below_al1 _ _).trans ((below_al1 _ _).mono (by simp))
  have BX : Blk W0 (w.heap.size + 1) #[.int .i64 0, .bool false, .slice none 0 0] := by
    rw [← hW0]
    have := Blk.new (w.alloc (.cells (scells t) 116)) #[.int .i64 0, .bool false, .slice none 0 0] 83
    simpa using this
  have KO := hid (open_none l a cap h1 h2 W0 (O.more hb0) hg)
  have HBX := hid BX
  have D0 := hid hb0
  clear BX O h1 h2 hg hb0
  generalize l.length = ll at *
  go_enter Try.func65, Try.ntmps65
  go_wp2_with fail
  refine KO.out.mono ?_
  rintro e w1 ⟨q, c, rfl, hb1⟩
  have HB1 := HBX.out.more hb1
  have D1 := hid (below2 D0.out hb1 D0.out.size)
  have HB2 := HB1.more (below_al1 w1 (.cells (scells ⟨0, 0, 0⟩) 116))
  have D2 := hid (D1.out.alloc D1.out.size (.cells (scells ⟨0, 0, 0⟩) 116))
  clear hb1 KO HBX D0 hW0 HB1
  obtain ⟨lx, kx, fx⟩ := HB2
  go_wp2
  have B3 : Blk (setAll (w1.alloc (.cells (scells ⟨0, 0, 0⟩) 116)) (w.heap.size + 1) 0 [.int .i64 0, .bool false, .slice none 0 0]) (w.heap.size + 1) _ := Blk.fill [.int .i64 0, .bool false, .slice none 0 0] 0 ⟨lx, kx, fx⟩ (by simp)
  have D3 := hid (below_fill (b := w.heap.size + 1) (Nat.le_succ _) [.int .i64 0, .bool false, .slice none 0 0] 0 D2.out)
  simp only [setAll, Nat.zero_add, Nat.reduceAdd, scells] at B3 D3
  generalize World.setCell _ _ _ = W3 at *
  obtain ⟨l3, k3, f3⟩ := B3
  clear lx kx fx
  refine bodyPost_ret (v := .tuple #[summ0, .bool false]) (by simp [results, Try.results65, go_sem, k3, fillC]) rfl ⟨rfl, D3.out⟩

theorem goodB_zeros : goodB (zerosN 256) = false := by
  unfold goodB
  rw [decide_eq_false (show ¬ (zerosN 256).take 2 = [67, 82] by decide), Bool.false_and, Bool.and_false]
end Go.Proofs.Ytcklmemnjchdcaa

/-
  Package seglog: items (a node, and its Id) as data; the first of an Id.
-/




namespace Go.Proofs.Ytcklmemnjchdcaa
open Go.RowKit
set_option linter.unusedVariables false
set_option linter.unusedSimpArgs false

/-- A node. -/
structure NdS where
  lf : Bool
  p : Option Addr
  n : Nat
  cap : Nat
  f : Nat → Pt
  nx : Int
  k : Nat → Int
  c : Nat → Int
abbrev NdS.v (d : NdS) : Value := ndval d.lf (.slice d.p d.n d.cap) d.nx d.k d.c
structure NdS.there (w : World) (d : NdS) : Prop where
  row : RowP w d.p 4 d.n (fun i => pcells (d.f i))
  h1 : d.n ≤ d.cap
  h2 : d.cap ≤ maxLen
  ok : ∀ i, i < d.n → (d.f i).ok
theorem NdS.there.more {w w' : World} {d : NdS} (h : d.there w) (hb : Below w.heap.size w w') : d.there w' := ⟨h.row.more hb, h.h1, h.h2, h.ok⟩
/-- An item. -/
structure ItS where
  id : Int
  nd : NdS
def itT : RowT ItS := { ty := 80, sl := 74, sz := 12, bytes := 112, zero := item0, cells := fun x => [.int .i64 x.id, .bool x.nd.lf, .slice x.nd.p x.nd.n x.nd.cap, .int .i64 x.nd.nx, .int .i64 (x.nd.k 0), .int .i64 (x.nd.k 1), .int .i64 (x.nd.k 2), .int .i64 (x.nd.k 3), .int .i64 (x.nd.c 0), .int .i64 (x.nd.c 1), .int .i64 (x.nd.c 2), .int .i64 (x.nd.c 3)], dflt := ⟨0, ⟨false, none, 0, 0, fun _ => ⟨0, 0, 0, ByteArray.empty⟩, 0, fun _ => 0, fun _ => 0⟩⟩ }
abbrev itA (L : List ItS) (i : Nat) : ItS := atR itT L i
theorem itA_eq (L : List ItS) (i : Nat) (h : i < L.length) : itA L i = L[i] := atR_eq L i h
/-- The first of an Id. -/
def fxN (L : List ItS) (id : Int) : Nat := L.findIdx fun x => decide (x.id = id)
def fxI (L : List ItS) (id : Int) : Int := if fxN L id = L.length then -1 else (fxN L id : Int)
theorem fx_at (L : List ItS) (id : Int) (k : Nat) (hk : k < L.length) (h : ∀ j, j < k → (itA L j).id ≠ id) (he : (itA L k).id = id) : fxN L id = k ∧ fxI L id = (k : Int) := by
  have h1 : fxN L id = k := by
    unfold fxN
    rw [List.findIdx_eq hk]
    refine ⟨?_, fun j hj => ?_⟩
    · rw [itA_eq L k hk] at he
      exact decide_eq_true he
    · have := h j hj
      rw [itA_eq L j (by omega)] at this
      exact decide_eq_false this
  exact ⟨h1, by unfold fxI; rw [h1, if_neg (by omega)]⟩
theorem fx_none (L : List ItS) (id : Int) (h : ∀ j, j < L.length → (itA L j).id ≠ id) : fxN L id = L.length ∧ fxI L id = -1 := by
  have h1 : fxN L id = L.length := by
    unfold fxN
    rw [List.findIdx_eq_length]
    intro x hx
    obtain ⟨i, hi, e⟩ := List.getElem_of_mem hx
    have := h i hi
    rw [itA_eq L i hi, e] at this
    exact decide_eq_false this
  exact ⟨h1, by unfold fxI; rw [h1, if_pos rfl]⟩
theorem fx_ways (L : List ItS) (id : Int) : (fxI L id = -1 ∧ fxN L id = L.length ∧ ∀ j, j < L.length → (itA L j).id ≠ id) ∨ ∃ k, k < L.length ∧ fxI L id = (k : Int) ∧ fxN L id = k ∧ (itA L k).id = id := by
  by_cases h : fxN L id = L.length
  · left
    refine ⟨by unfold fxI; rw [if_pos h], h, fun j hj => ?_⟩
    unfold fxN at h
    rw [List.findIdx_eq_length] at h
    have := h (itA L j) (atR_mem L j hj)
    exact of_decide_eq_false this
  · right
    have hl : fxN L id ≤ L.length := List.findIdx_le_length
    have hlt : fxN L id < L.length := by omega
    refine ⟨fxN L id, hlt, by unfold fxI; rw [if_neg h], rfl, ?_⟩
    have := List.findIdx_getElem (xs := L) (p := fun x => decide (x.id = id)) (w := (show L.findIdx (fun x => decide (x.id = id)) < L.length from hlt))
    rw [itA_eq L _ hlt]
    exact of_decide_eq_true this

set_option maxRecDepth 100000 in
theorem sameId_any (x : ItS) (B : Nat) (id : Int) (w : World) (HB : Blk w B #[.int .i64 id]) :
    Calls Try.prog 58 #[.agg (itT.cells x).toArray, .pointer (some ⟨B, 0, none⟩)] w fun e w' => e = .returned (.bool (x.id == id)) ∧ Below w.heap.size w w' := by
  have b1 : Below w.heap.size w (w.alloc (.cells (itT.cells x).toArray 80)) := below_al1 _ _
  have HB1 := HB.more b1
  have HX := Blk.new w (itT.cells x).toArray 80
  have E := hid b1
  unfold itT at HX HB1 E ⊢
  dsimp only at HX HB1 E ⊢
  generalize hW : w.alloc _ = W at *
  obtain ⟨l0, k0, f0⟩ := HB1
  obtain ⟨l1, k1, f1⟩ := HX
  clear b1 HB
  go_enter Try.func58, Try.ntmps58
  go_wp2
  go_ret
  exact ⟨rfl, E.out⟩
set_option maxRecDepth 100000 in
set_option maxHeartbeats 1000000 in
theorem indexId_any (L : List ItS) (p : Option Addr) (cap : Nat) (h1 : L.length ≤ cap) (h2 : cap ≤ maxLen) (id : Int) (B : Nat) (w : World) (HB : Blk w B #[.int .i64 id]) (R : RowOf itT w p L) :
    Calls Try.prog 57 #[.slice p L.length cap, .func (.func 58) #[] #[.pointer (some ⟨B, 0, none⟩)]] w fun e w' => e = .returned (.int .i64 (fxI L id)) ∧ Below w.heap.size w w' := by
  have hn63 : (L.length : Int) ≤ 9223372036854775807 := by unfold maxLen at h2; omega
  have Rh := hid R
  have HBh := hid HB
  clear R h1 h2 HB
  go_enter Try.func57, Try.ntmps57
  go_wp2_with fail
  go_loopw [8] (fun i wr => ∃ k : Nat, k ≤ L.length ∧ i = .int .i64 (k : Int) ∧ Below w.heap.size w wr ∧ ∀ j, j < k → (itA L j).id ≠ id) (fun i _ => L.length - (intOf i).toNat)
  case atStart => exact ⟨0, Nat.zero_le _, rfl, Below.refl _ _, nofun⟩
  case round =>
    obtain ⟨k, hk, rfl, hb, hne⟩ := hrel
    by_cases hlt : k < L.length
    · have hlt' : (k : Int) < (L.length : Int) := by omega
      obtain ⟨b, o, hq, r⟩ := RowP.row (RowOf.more Rh.out hb) (by omega)
      have z0 : wr.cell? ⟨b, o + k * 12, none⟩ = some (.int .i64 (itA L k).id) := r.at0 hlt rfl
      have z1 : wr.cell? ⟨b, o + k * 12 + 1, none⟩ = some (.bool (itA L k).nd.lf) := r.at1 hlt rfl
      have z2 : wr.cell? ⟨b, o + k * 12 + 2, none⟩ = some (.slice (itA L k).nd.p (itA L k).nd.n (itA L k).nd.cap) := r.cell k hlt 2 _ rfl
      have z3 : wr.cell? ⟨b, o + k * 12 + 3, none⟩ = some (.int .i64 (itA L k).nd.nx) := r.cell k hlt 3 _ rfl
      have z4 : wr.cell? ⟨b, o + k * 12 + 4, none⟩ = some (.int .i64 ((itA L k).nd.k 0)) := r.cell k hlt 4 _ rfl
      have z5 : wr.cell? ⟨b, o + k * 12 + 5, none⟩ = some (.int .i64 ((itA L k).nd.k 1)) := r.cell k hlt 5 _ rfl
      have z6 : wr.cell? ⟨b, o + k * 12 + 6, none⟩ = some (.int .i64 ((itA L k).nd.k 2)) := r.cell k hlt 6 _ rfl
      have z7 : wr.cell? ⟨b, o + k * 12 + 7, none⟩ = some (.int .i64 ((itA L k).nd.k 3)) := r.cell k hlt 7 _ rfl
      have z8 : wr.cell? ⟨b, o + k * 12 + 8, none⟩ = some (.int .i64 ((itA L k).nd.c 0)) := r.cell k hlt 8 _ rfl
      have z9 : wr.cell? ⟨b, o + k * 12 + 9, none⟩ = some (.int .i64 ((itA L k).nd.c 1)) := r.cell k hlt 9 _ rfl
      have z10 : wr.cell? ⟨b, o + k * 12 + 10, none⟩ = some (.int .i64 ((itA L k).nd.c 2)) := r.cell k hlt 10 _ rfl
      have z11 : wr.cell? ⟨b, o + k * 12 + 11, none⟩ = some (.int .i64 ((itA L k).nd.c 3)) := r.cell k hlt 11 _ rfl
      subst hq
      have hlth := hid hlt
      have hbh := hid hb
      have hx : ((itA L k).id == id) = true → fxI L id = (k : Int) := fun he => (fx_at L id k hlt hne (by simpa using he)).2
      have hn2 : ((itA L k).id == id) = false → ∀ j, j < k + 1 → (itA L j).id ≠ id := fun he j hj => by
        rcases Nat.lt_succ_iff_lt_or_eq.1 hj with h | rfl
        · exact hne j h
        · rw [beq_eq_false_iff_ne] at he; exact he
      have KC := sameId_any (itA L k) B id wr (HBh.out.more hb)
      clear r hne hlt hb
      generalize itA L k = x at *
      replace KC := hid (show Calls Try.prog 58 #[.agg #[.int .i64 x.id, .bool x.nd.lf, .slice x.nd.p x.nd.n x.nd.cap, .int .i64 x.nd.nx, .int .i64 (x.nd.k 0), .int .i64 (x.nd.k 1), .int .i64 (x.nd.k 2), .int .i64 (x.nd.k 3), .int .i64 (x.nd.c 0), .int .i64 (x.nd.c 1), .int .i64 (x.nd.c 2), .int .i64 (x.nd.c 3)], .pointer (some ⟨B, 0, none⟩)] wr fun e w' => e = .returned (.bool (x.id == id)) ∧ Below wr.heap.size wr w' from KC)
      generalize hbb : (x.id == id) = bb at *
      replace hx := hid hx
      replace hn2 := hid hn2
      clear hbb
      go_wp2_with fail
      refine KC.out.mono ?_
      rintro e w2 ⟨rfl, hb2⟩
      have E := hid (below2 hbh.out hb2 hbh.out.size)
      clear hb2 KC z0 z1 z2 z3 z4 z5 z6 z7 z8 z9 z10 z11
      cases bb with
      | true =>
        have hr : Hid (fxI L id = (k : Int)) := hid (by first | exact hx.out | exact hx.out rfl)
        go_wp2_with fail
        go_ret
        exact ⟨by rw [hr.out]; rfl, E.out⟩
      | false =>
        have hr : Hid (∀ j, j < k + 1 → (itA L j).id ≠ id) := hid (by first | exact hn2.out | exact hn2.out rfl)
        go_wp2_with fail
        go_roundw
        case rel => exact ⟨k + 1, by have := hlth.out; omega, by simp, E.out, hr.out⟩
        case measure => have := hlth.out; simp [intOf]; omega
    · obtain rfl : k = L.length := by omega
      have hr := hid (fx_none L id hne).2
      have hbh := hid hb
      have hlt' : ¬ (L.length : Int) < (L.length : Int) := by omega
      clear hne hlt hb
      go_wp2_with fail
      go_ret
      exact ⟨by rw [hr.out]; rfl, hbh.out⟩
end Go.Proofs.Ytcklmemnjchdcaa

/-
  Package seglog: nodeSector: the sector of a node, whatever is asked for.
-/


namespace Go.Proofs.Ytcklmemnjchdcaa
open Go.RowKit
set_option linter.unusedVariables false
set_option linter.unusedSimpArgs false

abbrev NdS.good (d : NdS) : Bool := nodeB d.lf d.n d.f d.nx d.k d.c
abbrev NdS.oct (d : NdS) : List UInt8 := nodeL d.lf d.n d.f d.nx d.k d.c
/-- The text of a node's sector. -/
def nsT (x : ItS) (id : Int) : List UInt8 := UInt8.ofNat (IntKind.u8.wrap id).toNat :: x.nd.oct
/-- What it answers. -/
def nsC (L : List ItS) (id : Int) (t : Stp) : Int := if fxN L id = L.length then 14 else if (itA L (fxN L id)).nd.good then sealC 5 t (nsT (itA L (fxN L id)) id).length else 9
def nsL (L : List ItS) (id : Int) (t : Stp) : List UInt8 := if fxN L id = L.length then [] else if (itA L (fxN L id)).nd.good then sealL 5 t (nsT (itA L (fxN L id)) id) else []
/-- Items that are there. -/
structure ItsOk (w : World) (p : Option Addr) (cap : Nat) (L : List ItS) : Prop where
  row : RowOf itT w p L
  h1 : L.length ≤ cap
  h2 : cap ≤ maxLen
  nd : ∀ x ∈ L, x.nd.there w
theorem ItsOk.more {w w' : World} {p : Option Addr} {cap : Nat} {L : List ItS} (h : ItsOk w p cap L) (hb : Below w.heap.size w w') : ItsOk w' p cap L := ⟨RowOf.more h.row hb, h.h1, h.h2, fun x hx => (h.nd x hx).more hb⟩
theorem Fresh.over {w w1 w2 : World} {v : Value} {l : List UInt8} (h : Fresh w1 w2 v l) (hb : Below w.heap.size w w1) : Fresh w w2 v l := by
  obtain ⟨a, cap, hv, O, hb2⟩ := h
  refine ⟨a, cap, hv, ⟨O.1, O.2.imp id ?_⟩, below2 hb hb2 hb.size⟩
  rintro ⟨g, cap, cur, e, hg, r⟩
  exact ⟨g, cap, cur, e, Nat.le_trans hb.size hg, r⟩
/-- One octet ahead of others. -/
theorem one_octs (W : World) (s : Nat) (hs : W.heap.size = s) (z : Int) (h0 : 0 ≤ z) (h1 : z ≤ 255) (a : Option Addr) (c : Nat) (l : List UInt8) (hl : Octs W a l) (hn : l.length ≤ 1000000) :
    ∃ g cap w', (∀ ty, (Builtin.append_ #[51, 51] ty #[.slice (some ⟨s, 0, none⟩) 1 1, .slice a l.length c]).run Try.prog (W.alloc (.cells #[.int .u8 z] 5)) = .ok (.slice (some ⟨g, 0, none⟩) (UInt8.ofNat z.toNat :: l).length cap) w') ∧
      Octs w' (some ⟨g, 0, none⟩) (UInt8.ofNat z.toNat :: l) ∧ Below W.heap.size W w' := by
  subst hs
  have hz : ((UInt8.ofNat z.toNat).toNat : Int) = z := by
    rw [UInt8.toNat_ofNat']
    omega
  have hb0 : Below W.heap.size W (W.alloc (.cells #[.int .u8 z] 5)) := Below.alloc (Below.refl _ _) (Nat.le_refl _) _
  have OM := World.ownsRow_lit (size := 1) (e := 5) (base := W.heap.size) W #[.int .u8 z] 1 (Nat.le_refl _) (by unfold maxLen; omega) rfl
  obtain ⟨v', w', hr, O', gr, mv⟩ := append_octs W.heap.size 51 _ _ _ _ OM a c l (hl.more hb0) (by omega) (by simp)
  have hby : Lib.byteCells (UInt8.ofNat z.toNat :: l) = (#[Value.int .u8 z].toList ++ Lib.byteCells l) := by
    show Value.int .u8 ((UInt8.ofNat z.toNat).toNat : Int) :: Lib.byteCells l = _
    rw [hz]; rfl
  have hlen : (UInt8.ofNat z.toNat :: l).length = 1 + l.length := by rw [List.length_cons]; omega
  rw [← hby, ← hlen] at O'
  have hg : ∃ g, v'.ownBlock = some g := by
    rcases mv with e | ⟨g, e, _⟩
    · exact ⟨_, e⟩
    · exact ⟨_, e⟩
  obtain ⟨g, hg⟩ := hg
  rcases O'.2 with ⟨rfl, _⟩ | ⟨g', cap, cur, rfl, _⟩
  · cases hg
  · exact ⟨g', cap, w', fun ty => hr, Octs.of_own O', Below.grown hb0 gr (by simp) fun k hk => (OM.lt k hk).1⟩
set_option maxRecDepth 100000 in
set_option maxHeartbeats 2000000 in
theorem nodesec_any (L : List ItS) (p : Option Addr) (cap : Nat) (id : Int) (hid1 : (Lit.int .i64 id).wf = true) (t : Stp) (w : World) (H : ItsOk w p cap L) :
    Calls Try.prog 45 #[.slice p L.length cap, .int .i64 id, sval t] w fun e w' => ∃ v, e = .returned (.tuple #[v, .int .i64 (nsC L id t)]) ∧ Fresh w w' v (nsL L id t) := by
  obtain ⟨W0, hW0⟩ : ∃ W0, (w.alloc (.cells #[.int .i64 id] 3)).alloc (.cells (scells t) 116) = W0 := ⟨_, rfl⟩
  have hb0 : Below w.heap.size w W0 := by rw [← hW0]; exact ((Below.refl _ _).alloc (Nat.le_refl _) _).alloc (by simp) _
  have B1 : Blk W0 w.heap.size #[.int .i64 id] := by rw [← hW0]; exact (Blk.new w _ _).alloc _
  have B2 : Blk W0 (w.heap.size + 1) (scells t) := by
    rw [← hW0]
    have := Blk.new (w.alloc (.cells #[.int .i64 id] 3)) (scells t) 116
    rwa [World.size_alloc] at this
  have KI := hid (indexId_any L p cap H.h1 H.h2 id w.heap.size W0 B1 (H.more hb0).row)
  have B1h := hid B1
  have B2h := hid B2
  have Hh := hid (H.more hb0)
  have D0 := hid hb0
  have ways := fx_ways L id
  clear H hb0 B1 B2
  go_enter Try.func45, Try.ntmps45
  go_wp2_with fail
  refine KI.out.mono ?_
  rintro e w1 ⟨rfl, hb1⟩
  have B1 := hid (B1h.out.more hb1)
  have B2 := hid (B2h.out.more hb1)
  have H1 := hid (Hh.out.more hb1)
  have D1 := hid (below2 D0.out hb1 D0.out.size)
  clear hb1 KI B1h B2h Hh D0 hW0
  rcases ways with ⟨e1, e2, _⟩ | ⟨k, hk, e1, e2, _⟩
  · rw [e1]
    have hr := hid (show nsC L id t = 14 ∧ nsL L id t = [] from ⟨by unfold nsC; rw [if_pos e2], by unfold nsL; rw [if_pos e2]⟩)
    clear e1 e2
    go_wp2_with fail
    go_ret2
    exact ⟨_, by rw [hr.out.1]; rfl, by rw [hr.out.2]; exact Fresh.none D1.out⟩
  · rw [e1]
    have hkl : (k : Int) < (L.length : Int) := by omega
    have hk0 : decide ((k : Int) < 0) = false := decide_eq_false (by omega)
    obtain ⟨b, o, hq, r⟩ := RowP.row H1.out.row (by omega)
    have z1 : w1.cell? ⟨b, o + k * 12 + 1, none⟩ = some (.bool (itA L k).nd.lf) := r.at1 hk rfl
    have z2 : w1.cell? ⟨b, o + k * 12 + 2, none⟩ = some (.slice (itA L k).nd.p (itA L k).nd.n (itA L k).nd.cap) := r.cell k hk 2 _ rfl
    have z3 : w1.cell? ⟨b, o + k * 12 + 3, none⟩ = some (.int .i64 (itA L k).nd.nx) := r.cell k hk 3 _ rfl
    have z4 : w1.cell? ⟨b, o + k * 12 + 4, none⟩ = some (.int .i64 ((itA L k).nd.k 0)) := r.cell k hk 4 _ rfl
    have z5 : w1.cell? ⟨b, o + k * 12 + 5, none⟩ = some (.int .i64 ((itA L k).nd.k 1)) := r.cell k hk 5 _ rfl
    have z6 : w1.cell? ⟨b, o + k * 12 + 6, none⟩ = some (.int .i64 ((itA L k).nd.k 2)) := r.cell k hk 6 _ rfl
    have z7 : w1.cell? ⟨b, o + k * 12 + 7, none⟩ = some (.int .i64 ((itA L k).nd.k 3)) := r.cell k hk 7 _ rfl
    have z8 : w1.cell? ⟨b, o + k * 12 + 8, none⟩ = some (.int .i64 ((itA L k).nd.c 0)) := r.cell k hk 8 _ rfl
    have z9 : w1.cell? ⟨b, o + k * 12 + 9, none⟩ = some (.int .i64 ((itA L k).nd.c 1)) := r.cell k hk 9 _ rfl
    have z10 : w1.cell? ⟨b, o + k * 12 + 10, none⟩ = some (.int .i64 ((itA L k).nd.c 2)) := r.cell k hk 10 _ rfl
    have z11 : w1.cell? ⟨b, o + k * 12 + 11, none⟩ = some (.int .i64 ((itA L k).nd.c 3)) := r.cell k hk 11 _ rfl
    subst hq
    have hN := H1.out.nd _ (show itA L k ∈ L from atR_mem (T := itT) L k hk)
    have hC : nsC L id t = if (itA L k).nd.good then sealC 5 t (nsT (itA L k) id).length else 9 := by unfold nsC; rw [if_neg (by omega), e2]
    have hL : nsL L id t = if (itA L k).nd.good then sealL 5 t (nsT (itA L k) id) else [] := by unfold nsL; rw [if_neg (by omega), e2]
    generalize itA L k = x at *
    have KP := hid (nput_any x.nd.lf x.nd.p x.nd.n x.nd.cap x.nd.f hN.ok x.nd.nx x.nd.k x.nd.c hN.h1 hN.h2 w1 hN.row)
    replace hC := hid hC
    replace hL := hid hL
    clear r hN e1 e2 H1
    go_wp2_with fail
    refine KP.out.mono ?_
    rintro e w2 ⟨v2, rfl, hF⟩
    clear z1 z2 z3 z4 z5 z6 z7 z8 z9 z10 z11 KP
    cases hg : nodeB x.nd.lf x.nd.n x.nd.f x.nd.nx x.nd.k x.nd.c with
    | false =>
      have hr := hid (show nsC L id t = 9 ∧ nsL L id t = [] from ⟨by rw [hC.out]; show (if nodeB x.nd.lf x.nd.n x.nd.f x.nd.nx x.nd.k x.nd.c then _ else _) = _; rw [hg]; rfl, by rw [hL.out]; show (if nodeB x.nd.lf x.nd.n x.nd.f x.nd.nx x.nd.k x.nd.c then _ else _) = _; rw [hg]; rfl⟩)
      have E := hid (below2 D1.out hF.below D1.out.size)
      rw [show nodeC false = 9 from rfl]
      clear hF hg
      go_wp2_with fail
      go_ret2
      exact ⟨_, by rw [hr.out.1]; rfl, by rw [hr.out.2]; exact Fresh.none E.out⟩
    | true =>
      obtain ⟨a2, c2, rfl, O2, hb2⟩ := hF
      have hlen : x.nd.oct.length ≤ 119 := by
        show (nodeL x.nd.lf x.nd.n x.nd.f x.nd.nx x.nd.k x.nd.c).length ≤ 119
        unfold nodeL
        rw [hg, if_pos rfl]
        exact (nodeO_length hg).1
      have hr := hid (show nsC L id t = sealC 5 t (nsT x id).length ∧ nsL L id t = sealL 5 t (nsT x id) from ⟨by rw [hC.out]; show (if nodeB x.nd.lf x.nd.n x.nd.f x.nd.nx x.nd.k x.nd.c then _ else _) = _; rw [hg, if_pos rfl], by rw [hL.out]; show (if nodeB x.nd.lf x.nd.n x.nd.f x.nd.nx x.nd.k x.nd.c then _ else _) = _; rw [hg, if_pos rfl]⟩)
      have hwz : 0 ≤ IntKind.u8.wrap id ∧ IntKind.u8.wrap id ≤ 255 := by
        rw [IntKind.wrap_u8]
        omega
      have D2 := hid (below2 D1.out hb2 D1.out.size)
      have B1b := B1.out.more hb2
      have B2b := B2.out.more hb2
      have hO2 := Octs.of_own O2
      rw [show nodeC true = 0 from rfl]
      unfold nsT NdS.oct at hr
      unfold NdS.oct at hlen
      generalize hzz : IntKind.u8.wrap id = z at *
      generalize nodeL x.nd.lf x.nd.n x.nd.f x.nd.nx x.nd.k x.nd.c = lo at *
      obtain ⟨g5, c5, w5, hr5, O5, b5⟩ := one_octs w2.drew w2.heap.size rfl z hwz.1 hwz.2 a2 c2 lo (hO2.more (Below.refl _ _).drew) (by omega)
      have KS := hid (seal_any 5 t (UInt8.ofNat z.toNat :: lo) (some ⟨g5, 0, none⟩) c5 (by rw [List.length_cons]; omega) w5 O5)
      have hr5' := fun ty => show (Builtin.append_ #[51, 51] ty #[.slice (some ⟨w2.heap.size, 0, none⟩) 1 1, .slice a2 lo.length c2]).run Try.prog (w2.alloc (.cells #[.int .u8 z] 5)).drew = .ok (.slice (some ⟨g5, 0, none⟩) (UInt8.ofNat z.toNat :: lo).length c5) w5 from hr5 ty
      have D5 := hid (D2.out.trans (((Below.refl w2.heap.size w2).drew.trans b5).mono D2.out.size))
      have B1c := B1b.alloc (.cells #[.int .u8 z] 5)
      have B2c := B2b.alloc (.cells #[.int .u8 z] 5)
      have B1d := (B1b.more (Below.refl _ _).drew).more b5
      have B2d := (B2b.more (Below.refl _ _).drew).more b5
      generalize (UInt8.ofNat z.toNat :: lo) = l5 at *
      replace hwz := hid hwz
      replace hlen := hid hlen
      clear hr5 O5 b5 hO2 O2 hb2 hg B1 B2
      obtain ⟨la, ma, fa⟩ := B1b
      obtain ⟨lb, mb, fb⟩ := B2b
      obtain ⟨lc, mc, fc⟩ := B1c
      obtain ⟨ld, md, fd⟩ := B2c
      obtain ⟨le, me, fe⟩ := B1d
      obtain ⟨lf, mf, ff⟩ := B2d
      go_wp2_with fail
      go_region_law (first
        | (refine step_append_run (by rfl) _ _ _ (by rfl) _ _ (by rfl) (by rfl) _ _ hr5' ?_)
        | (go_simp; (with_reducible refine KS.out.mono ?_); rintro e w9 ⟨v9, rfl, hF9⟩; have E9 := hid hF9; clear hF9))
      all_goals
        go_wp2_with fail
        go_ret2
        exact ⟨v9, by rw [hr.out.1]; rfl, by rw [hr.out.2]; exact E9.out.over D5.out⟩
end Go.Proofs.Ytcklmemnjchdcaa

/-
  Package seglog: Sectors: what it answers where it answers well.
-/




namespace Go.Proofs.Ytcklmemnjchdcaa
open Go.RowKit
set_option linter.unusedVariables false
set_option linter.unusedSimpArgs false

/-- The texts of the nodes' sectors of the first k entries. -/
def nodesL (L : List ItS) (f : Nat → En) (ep sq : Int) : Nat → List (List UInt8)
  | 0 => []
  | k + 1 => if (f k).k = 1 then nodesL L f ep sq k ++ [nsL L (f k).i ⟨ep, sq, ((1 + cntW f k : Nat) : Int)⟩] else nodesL L f ep sq k
theorem nodesL_len (L : List ItS) (f : Nat → En) (ep sq : Int) : ∀ k, (nodesL L f ep sq k).length = cntW f k
  | 0 => rfl
  | k + 1 => by
    have ih := nodesL_len L f ep sq k
    unfold nodesL cntW
    split
    · rw [List.length_append, ih]; rfl
    · exact ih
/-- All of the first k entries' nodes can be written. -/
def nodesOk (L : List ItS) (f : Nat → En) (ep sq : Int) (k : Nat) : Prop := ∀ j, j < k → (f j).k = 1 → nsC L (f j).i ⟨ep, sq, ((1 + cntW f j : Nat) : Int)⟩ = 0
/-- As the loop goes. -/
structure SecAt (w W : World) (g c : Nat) (Xs : List OcS) (T : List (List UInt8)) : Prop where
  row : RowOwn ocT W w.heap.size (.slice (some ⟨g, 0, none⟩) (Xs.length + 1) c) (emptyO :: Xs)
  txt : Xs.map OcS.l = T
  oc : ∀ x ∈ Xs, x.there W ∧ ∀ b o, x.a = some ⟨b, o, none⟩ → w.heap.size ≤ b ∧ b < W.heap.size ∧ b ≠ g
  D : Below w.heap.size w W
theorem SecAt.more {w W W' : World} {g c : Nat} {Xs : List OcS} {T : List (List UInt8)} (h : SecAt w W g c Xs T) (hb : Below W.heap.size W W') : SecAt w W' g c Xs T :=
  ⟨h.row.more hb, h.txt, fun x hx => ⟨(h.oc x hx).1.more hb, fun b o e => by have := (h.oc x hx).2 b o e; have := hb.size; omega⟩, below2 h.D hb h.D.size⟩
theorem SecAt.start {w W : World} (hb : Below w.heap.size w W) : SecAt w (W.alloc (.cells (madeCells #[.slice none 0 0] 1) 51)) W.heap.size 1 [] [] := by
  refine ⟨?_, rfl, nofun, hb.alloc hb.size _⟩
  have := World.ownsRow_lit (size := 1) (e := 51) (base := w.heap.size) W (madeCells #[.slice none 0 0] 1) 1 hb.size (by unfold maxLen; omega) (by rw [size_madeCells])
  unfold RowOwn
  rw [show flatR ocT [emptyO] = (madeCells #[.slice none 0 0] 1).toList from (made_nils 1).symm]
  exact this
/-- One sector more. -/
theorem SecAt.next {w W W1 : World} {g c : Nat} {Xs : List OcS} {T : List (List UInt8)} (h : SecAt w W g c Xs T) (hn : Xs.length ≤ 1000000) (y : OcS) (hb : Below W.heap.size W W1) (hy : y.there W1) (hyb : ∀ b o, y.a = some ⟨b, o, none⟩ → W.heap.size ≤ b ∧ b < W1.heap.size) :
    ∃ g' c' W3, (∀ ty, (Builtin.append_ #[53, 53] ty #[.slice (some ⟨g, 0, none⟩) (Xs.length + 1) c, .slice (some ⟨W1.heap.size, 0, none⟩) 1 1]).run Try.prog (W1.alloc (.cells #[.slice y.a y.l.length y.cap] 51)) = .ok (.slice (some ⟨g', 0, none⟩) (Xs.length + 1 + 1) c') W3) ∧ SecAt w W3 g' c' (Xs ++ [y]) (T ++ [y.l]) ∧ Sole (fun k => k = g) W1 W3 ∧ (g' = g ∨ W1.heap.size ≤ g') := by
  have H1 := h.more hb
  have b2 : Below W1.heap.size W1 (W1.alloc (.cells #[.slice y.a y.l.length y.cap] 51)) := below_al1 _ _
  have H2 := H1.more b2
  have B2 := Blk.new W1 #[.slice y.a y.l.length y.cap] 51
  have hy2 := hy.more b2
  have s2 : (W1.alloc (.cells #[.slice y.a y.l.length y.cap] 51)).heap.size = W1.heap.size + 1 := by simp
  generalize hW2 : W1.alloc (.cells #[.slice y.a y.l.length y.cap] 51) = W2 at *
  have hD := H1.D.size
  obtain ⟨v', W3, hr, O3, gr, mv⟩ := append_row ocOk w.heap.size ocT.sl W2 _ (emptyO :: Xs) H2.row (some ⟨W1.heap.size, 0, none⟩) 1 [y] (rowOf_one ocOk B2 rfl) (by show (Xs.length + 1 + 1) * 24 ≤ _; omega) (by show Xs.length + 1 + 1 ≤ _; unfold maxLen; omega) (by omega)
  have hv : ∃ g' c', v' = .slice (some ⟨g', 0, none⟩) (Xs.length + 1 + 1) c' := by
    rcases O3.form with ⟨_, e⟩ | ⟨g', cap, e, _⟩
    · cases e
    · exact ⟨g', cap, by simpa using e⟩
  obtain ⟨g', c', rfl⟩ := hv
  have S23 : Sole (fun k => k = g) W2 W3 := Sole.grown gr fun k e => own_g e
  have hg := H1.row.within g rfl
  have hg' : g' = g ∨ g' = W2.heap.size := by
    rcases mv with e | e
    · exact .inl (own_g e.symm)
    · right; have e' := e; simp only [Value.ownBlock] at e'; cases e'; rfl
  refine ⟨g', c', W3, fun ty => hr, ⟨?_, ?_, fun x hx => ?_, H2.D.trans (S23.below (B := w.heap.size) H2.D.size fun k e => e ▸ hg.1)⟩, ?_⟩
  · rw [List.length_append]
    exact O3
  · rw [List.map_append, h.txt]; rfl
  · have s3 := S23.size
    have s1 := hb.size
    have hg0 := h.row.within g rfl
    rcases List.mem_append.1 hx with hx | hx
    · obtain ⟨h1, h2⟩ := H2.oc x hx
      obtain ⟨_, h4⟩ := h.oc x hx
      exact ⟨oc_sole h1 S23 fun b o e e' => (h2 b o e).2.2 e', fun b o e => ⟨(h2 b o e).1, by have := (h2 b o e).2.1; omega, by have := h4 b o e; rcases hg' with r | r <;> omega⟩⟩
    · rw [List.mem_singleton.1 hx]
      exact ⟨oc_sole hy2 S23 fun b o e e' => by have := hyb b o e; omega, fun b o e => by have := hyb b o e; refine ⟨by omega, by omega, ?_⟩; rcases hg' with r | r <;> omega⟩
  · have : Sole (fun k => k = g) W1 W2 := by rw [← hW2]; exact Sole.alloc _ _
    exact ⟨this.trans S23, by rcases hg' with r | r; exact .inl r; exact .inr (by omega)⟩
/-- The head is put ahead. -/
theorem SecAt.head {w W : World} {g c : Nat} {Xs : List OcS} {T : List (List UInt8)} (h : SecAt w W g c Xs T) (y : OcS) (hy : y.there W) (hyb : ∀ b o, y.a = some ⟨b, o, none⟩ → w.heap.size ≤ b ∧ b < W.heap.size ∧ b ≠ g) :
    RowOwn ocT (W.setCell ⟨g, 0, none⟩ (.slice y.a y.l.length y.cap)) w.heap.size (.slice (some ⟨g, 0, none⟩) (Xs.length + 1) c) (y :: Xs) ∧ (∀ x ∈ y :: Xs, x.there (W.setCell ⟨g, 0, none⟩ (.slice y.a y.l.length y.cap)) ∧ ∀ b o, x.a = some ⟨b, o, none⟩ → w.heap.size ≤ b) ∧ Below w.heap.size w (W.setCell ⟨g, 0, none⟩ (.slice y.a y.l.length y.cap)) := by
  have S : Sole (fun k => k = g) W (W.setCell ⟨g, 0, none⟩ (.slice y.a y.l.length y.cap)) := Sole.setCell W _ rfl
  have hg := h.row.within g rfl
  refine ⟨row_set1 rfl ocOk (fun y => .slice y.a y.l.length y.cap) (fun _ => rfl) h.row 0 y, fun x hx => ?_, h.D.trans (S.below (B := w.heap.size) h.D.size fun k e => e ▸ hg.1)⟩
  rcases List.mem_cons.1 hx with rfl | hx
  · exact ⟨oc_sole hy S fun b o e e' => (hyb b o e).2.2 e', fun b o e => (hyb b o e).1⟩
  · exact ⟨oc_sole (h.oc x hx).1 S fun b o e e' => ((h.oc x hx).2 b o e).2.2 e', fun b o e => ((h.oc x hx).2 b o e).1⟩
theorem sealC_zero {kind : Int} {t : Stp} {n : Nat} (h : sealC kind t n = 0) : stFits kind t ∧ n ≤ 238 := by
  unfold sealC at h
  by_cases h1 : stFits kind t
  · rw [if_pos h1] at h
    by_cases h2 : n ≤ 238
    · exact ⟨h1, h2⟩
    · rw [if_neg h2] at h; cases h
  · rw [if_neg h1] at h; cases h
theorem sealL_ok {kind : Int} {t : Stp} {l : List UInt8} (h : sealC kind t l.length = 0) : sealL kind t l = sealB kind t l ∧ (sealB kind t l).length = 256 := by
  have h2 := sealC_zero h
  exact ⟨by unfold sealL; rw [if_pos h2], sealB_length kind t l h2.2⟩
theorem nsL_len {L : List ItS} {id : Int} {t : Stp} (h : nsC L id t = 0) : (nsL L id t).length = 256 := by
  unfold nsC at h
  unfold nsL
  by_cases h1 : fxN L id = L.length
  · rw [if_pos h1] at h; cases h
  · rw [if_neg h1] at h ⊢
    by_cases h2 : (itA L (fxN L id)).nd.good = true
    · rw [if_pos h2] at h ⊢
      rw [(sealL_ok h).1]
      exact (sealL_ok h).2
    · rw [if_neg h2] at h; cases h
theorem below_sole {B : Nat} {a b : World} (h : Below B a b) : Sole (fun k => B ≤ k) a b := ⟨h.os, h.tape, h.output, h.size, fun k hk hn => h.block k (by omega)⟩
/-- What Sectors leaves where it answers well. -/
structure SectsOk (w w' : World) (v : Value) (nx : Int) (la : Bool) (n : Nat) (f : Nat → En) (ep sq : Int) (L : List ItS) : Prop where
  good : bCk nx n f = 0
  nodes : nodesOk L f ep sq n
  fits : stFits 4 ⟨ep, sq, 0⟩
  room : (smB nx la n f).length ≤ 238
  ex : ∃ (g c : Nat) (Xs : List OcS), v = .slice (some ⟨g, 0, none⟩) Xs.length c ∧ RowOwn ocT w' w.heap.size v Xs ∧ Xs.map OcS.l = sealB 4 ⟨ep, sq, 0⟩ (smB nx la n f) :: nodesL L f ep sq n ∧ ∀ x ∈ Xs, x.there w' ∧ ∀ b o, x.a = some ⟨b, o, none⟩ → w.heap.size ≤ b
theorem fresh_oc2 {w w' : World} {v : Value} {l : List UInt8} (h : Fresh w w' v l) : ∃ y : OcS, v = .slice y.a y.l.length y.cap ∧ y.l = l ∧ (l ≠ [] → y.there w') ∧ (∀ b o, y.a = some ⟨b, o, none⟩ → w.heap.size ≤ b ∧ b < w'.heap.size) := by
  obtain ⟨a, cap, hv, O, hb⟩ := h
  refine ⟨⟨a, cap, l⟩, hv, rfl, fun hn => ?_, fun b o e => ?_⟩
  · rcases O.2 with ⟨_, h0⟩ | ⟨g, cap', cur, e, _, _, h1, h2, _⟩
    · exact absurd (List.eq_nil_of_length_eq_zero h0) hn
    · simp only [Value.slice.injEq] at e
      obtain ⟨_, _, rfl⟩ := e
      exact ⟨Octs.of_own O, h1, h2⟩
  · rcases O.2 with ⟨e', h0⟩ | ⟨g, cap', cur, e', _⟩
    · simp only [Value.slice.injEq] at e'
      dsimp only at e
      rw [e'.1] at e; cases e
    · simp only [Value.slice.injEq] at e'
      dsimp only at e
      have hlt := O.lt g (by rw [e'.1]; rfl)
      rw [e'.1] at e
      cases e
      exact hlt
end Go.Proofs.Ytcklmemnjchdcaa

/-
  Package seglog: Node: of a sector that is a node's.
-/


namespace Go.Proofs.Ytcklmemnjchdcaa
open Go.RowKit
set_option linter.unusedVariables false
set_option linter.unusedSimpArgs false

theorem NdS.there.sole {S : Nat → Prop} {w w' : World} {d : NdS} (h : d.there w) (hs : Sole S w w') (hn : ∀ b o, d.p = some ⟨b, o, none⟩ → d.n ≠ 0 → ¬ S b) : d.there w' := ⟨RowP.apart h.row hs hn, h.h1, h.h2, h.ok⟩
abbrev ItS.v (x : ItS) : Value := .agg #[.int .i64 x.id, .bool x.nd.lf, .slice x.nd.p x.nd.n x.nd.cap, .int .i64 x.nd.nx, .int .i64 (x.nd.k 0), .int .i64 (x.nd.k 1), .int .i64 (x.nd.k 2), .int .i64 (x.nd.k 3), .int .i64 (x.nd.c 0), .int .i64 (x.nd.c 1), .int .i64 (x.nd.c 2), .int .i64 (x.nd.c 3)]
set_option maxRecDepth 100000 in
set_option maxHeartbeats 4000000 in
theorem snode_good (l : List UInt8) (a : Option Addr) (cap : Nat) (h1 : l.length ≤ cap) (h2 : cap ≤ maxLen) (w : World) (O : Octs w a l) (hg : goodB l = true) (hk : openK l = 5) (c : UInt8) (T : List UInt8) (hT : openT l = c :: T) (hT0 : T ≠ []) (hc : c.toNat ≠ 0) (Q : NdS → Prop)
    (KR : ∀ a cap W, Octs W a T → Calls Try.prog 81 #[.slice a T.length cap] W fun e w' => ∃ d : NdS, e = .returned (.tuple #[d.v, .int .i64 0]) ∧ d.there w' ∧ Q d ∧ Below W.heap.size W w' ∧ ∀ b o, d.p = some ⟨b, o, none⟩ → d.n ≠ 0 → W.heap.size ≤ b) :
    Calls Try.prog 66 #[.slice a l.length cap] w fun e w' => ∃ x : ItS, e = .returned (.tuple #[x.v, .int .i64 0]) ∧ x.id = (c.toNat : Int) ∧ x.nd.there w' ∧ Q x.nd ∧ Below w.heap.size w w' ∧ ∀ b o, x.nd.p = some ⟨b, o, none⟩ → x.nd.n ≠ 0 → w.heap.size < b := by
  obtain ⟨W0, hW0⟩ : ∃ W0, w.alloc (.cells #[.int .i64 0, .bool false, .slice none 0 0, .int .i64 0, .int .i64 0, .int .i64 0, .int .i64 0, .int .i64 0, .int .i64 0, .int .i64 0, .int .i64 0, .int .i64 0] 80) = W0 := ⟨_, rfl⟩
  have hb0 : Below w.heap.size w W0 := by rw [← hW0]; exact (Below.refl _ _).alloc (Nat.le_refl _) _
  have BX : Blk W0 w.heap.size #[.int .i64 0, .bool false, .slice none 0 0, .int .i64 0, .int .i64 0, .int .i64 0, .int .i64 0, .int .i64 0, .int .i64 0, .int .i64 0, .int .i64 0, .int .i64 0] := by rw [← hW0]; exact Blk.new w _ _
  have KO := fopen_any l a cap h1 h2 W0 (O.more hb0)
  unfold OpenPost at KO
  have eE := (open_good hg).2.2.2
  rw [hk, hT, eE] at KO
  replace KO := hid KO
  have HBX := hid BX
  have D0 := hid hb0
  have hTl : 0 < T.length := List.length_pos_iff.2 hT0
  have hcn : (c.toNat : Int) ≠ 0 := by omega
  have hc0 : ((c.toNat : Int) == 0) = false := by rw [beq_eq_false_iff_ne]; exact hcn
  generalize openS l = st at *
  have KRh := hid KR
  clear BX O h1 h2 hg hb0 hk hT hT0 hc eE KR hcn
  generalize l.length = ll at *
  go_enter Try.func66, Try.ntmps66
  go_wp2_with fail
  refine KO.out.mono ?_
  rintro e w1 ⟨v1, rfl, ⟨qa, qc, rfl, OT, hlc, _⟩, hb1⟩
  have HB1 := HBX.out.more hb1
  have D1 := hid (below2 D0.out hb1 D0.out.size)
  have b2 : Below w1.heap.size w1 (w1.alloc (.cells (scells st) 116)) := below_al1 _ _
  have HB2 := HB1.more b2
  have D2 := hid (D1.out.alloc D1.out.size (.cells (scells st) 116))
  have OT2 := OT.more b2
  have hl0 : (c :: T).length = T.length + 1 := rfl
  obtain ⟨bt, ot, hqa, hbt, hoc⟩ := OT2.resolve_left (by simp)
  have zc : (w1.alloc (.cells (scells st) 116)).cell? ⟨bt, ot, none⟩ = some (.int .u8 (c.toNat : Int)) := by
    have := hoc 0 (by simp)
    simpa using this
  have OTT : Octs (w1.alloc (.cells (scells st) 116)) (some ⟨bt, ot + 1, none⟩) T := .inr ⟨bt, ot + 1, rfl, hbt, fun i hi => by
    have := hoc (i + 1) (by simp; omega)
    rw [show ot + 1 + i = ot + (i + 1) by omega, this]
    rfl⟩
  have KN := hid (KRh.out (some ⟨bt, ot + 1, none⟩) (qc - 1) _ OTT)
  rw [hl0] at hlc
  clear hb1 KO HBX D0 hW0 HB1 OT OT2 hoc OTT KRh
  subst hqa
  have HB2h := hid HB2
  obtain ⟨lx, kx, fx⟩ := HB2
  generalize hW2 : w1.alloc (.cells (scells st) 116) = W2 at *
  simp only [hl0]
  go_wp2_with fail
  refine KN.out.mono ?_
  rintro e W3 ⟨d, rfl, hd, hQ, hb3, hdp⟩
  have HB3 := HB2h.out.more hb3
  have D3 := hid (below2 D2.out hb3 D2.out.size)
  have zc3 : W3.cell? ⟨bt, ot, none⟩ = some (.int .u8 (c.toNat : Int)) := (hb3.cell (p := ⟨bt, ot, none⟩) hbt).trans zc
  have hbt3 := Nat.lt_of_lt_of_le hbt hb3.size
  have b4 : Below W3.heap.size W3 (W3.alloc (.cells (ndcells d.lf (.slice d.p d.n d.cap) d.nx d.k d.c) 78)) := below_al1 _ _
  have HB4 := HB3.more b4
  have D4 := hid (below2 D3.out b4 D3.out.size)
  have B4 := Blk.new W3 (ndcells d.lf (.slice d.p d.n d.cap) d.nx d.k d.c) 78
  have zc4 : (W3.alloc (.cells (ndcells d.lf (.slice d.p d.n d.cap) d.nx d.k d.c) 78)).cell? ⟨bt, ot, none⟩ = some (.int .u8 (c.toNat : Int)) := (b4.cell (p := ⟨bt, ot, none⟩) hbt3).trans zc3
  have hbt4 := Nat.lt_of_lt_of_le hbt3 b4.size
  have E := hid (And.intro (hd.more b4) hQ)
  have hdph := hid (fun b o (e : d.p = some ⟨b, o, none⟩) hn => show w.heap.size < b from by have := hdp b o e hn; have := HB2h.out.lt; have h9 : W2.heap.size ≤ b := hdp b o e hn; omega)
  generalize hW4 : W3.alloc (.cells (ndcells d.lf (.slice d.p d.n d.cap) d.nx d.k d.c) 78) = W4 at *
  have HB4h := hid HB4
  have B4h := hid B4
  clear KN hb3 HB2h HB3 zc hbt zc3 hbt3 b4 hd hQ hdp lx kx fx
  obtain ⟨lx, kx, fx⟩ := HB4
  obtain ⟨ly, ky, fy⟩ := B4
  go_wp2_with fail
  have hcw : wrap64 (c.toNat : Int) = (c.toNat : Int) := IntWalk.wrap64_in _ ⟨by omega, by have := c.toNat_lt; omega⟩
  have q0 := fun u : Later W4 => u.blk B4h.out
  have q1 : ∀ u : Later W4, u.val.cell? ⟨bt, ot, none⟩ = some (.int .u8 (c.toNat : Int)) := fun u => (u.cell bt ot hbt4).trans zc4
  refine wp_region_late 6 (by kernel_rfl) (by kernel_rfl) ?_
  simp only [List.take_succ_cons, List.take_zero, List.drop_succ_cons, List.drop_zero]
  iterate 6 (go_big_quiet_step (fail))
  refine wpQuiet_nil ?_
  intro w5 h5'
  have h5 := late_out h5'
  have HB5 := HB4h.out.more h5
  have D5 := hid (below2 D4.out h5 D4.out.size)
  have hd5 := hid (E.out.1.more h5)
  clear h5 h5' q0 q1 lx kx fx ly ky fy HB4h B4h zc4 hbt4
  have HB5h := hid HB5
  obtain ⟨lx, kx, fx⟩ := HB5
  go_wp2_with fail
  have B6 := Blk.fill [.int .i64 (c.toNat : Int), .bool d.lf, .slice d.p d.n d.cap, .int .i64 d.nx, .int .i64 (d.k 0), .int .i64 (d.k 1), .int .i64 (d.k 2), .int .i64 (d.k 3), .int .i64 (d.c 0), .int .i64 (d.c 1), .int .i64 (d.c 2), .int .i64 (d.c 3)] 0 HB5h.out (by simp)
  have D6 := hid (below_fill (b := w.heap.size) (Nat.le_refl _) [.int .i64 (c.toNat : Int), .bool d.lf, .slice d.p d.n d.cap, .int .i64 d.nx, .int .i64 (d.k 0), .int .i64 (d.k 1), .int .i64 (d.k 2), .int .i64 (d.k 3), .int .i64 (d.c 0), .int .i64 (d.c 1), .int .i64 (d.c 2), .int .i64 (d.c 3)] 0 D5.out)
  have S6 := sole_setAll (S := fun k => k = w.heap.size) (b := w.heap.size) rfl [.int .i64 (c.toNat : Int), .bool d.lf, .slice d.p d.n d.cap, .int .i64 d.nx, .int .i64 (d.k 0), .int .i64 (d.k 1), .int .i64 (d.k 2), .int .i64 (d.k 3), .int .i64 (d.c 0), .int .i64 (d.c 1), .int .i64 (d.c 2), .int .i64 (d.c 3)] 0 w5
  have hd6 := hid (hd5.out.sole S6 fun b o e hn h => by have := hdph.out b o e hn; omega)
  simp only [setAll, Nat.zero_add, Nat.reduceAdd] at B6 D6 hd6
  clear S6 lx kx fx
  generalize World.setCell _ _ _ = W6 at *
  obtain ⟨l6, k6, f6⟩ := B6
  refine bodyPost_ret (v := .tuple #[ItS.v ⟨(c.toNat : Int), d⟩, .int .i64 0]) (by simp [results, Try.results66, go_sem, k6, fillC]) rfl ⟨⟨(c.toNat : Int), d⟩, rfl, rfl, hd6.out, E.out.2, D6.out, hdph.out⟩
end Go.Proofs.Ytcklmemnjchdcaa

/-
  Package seglog: a disk that tells nothing but what stands there; Write of sectors; Load.
-/


namespace Go.Proofs.Ytcklmemnjchdcaa
open Go.RowKit Go.Maps
set_option linter.unusedVariables false
set_option linter.unusedSimpArgs false

/-- A disk without trouble, and what is read there. -/
structure Quiet (m : DM) (N : Nat) (R : Int → List UInt8) : Prop where
  off : m.off = false
  tf : m.tf = false
  len : m.Ls.length = N
  cur : ∀ z : Int, (m.cur z).l = R z
theorem Quiet.trb {m : DM} {N : Nat} {R : Int → List UInt8} (h : Quiet m N R) : m.trb = false := by
  unfold DM.trb
  rw [h.off, h.tf]
  rfl
theorem Quiet.after {m : DM} {N : Nat} {R : Int → List UInt8} (h : Quiet m N R) : Quiet m.after N R := by
  refine ⟨h.off, ?_, h.len, h.cur⟩
  show (if m.off then m.tf else if m.tf && decide (m.fl ≤ 0) then false else m.tf) = false
  rw [h.off, h.tf]
  rfl
theorem cur_wrote (m : DM) (z : Int) (y : OcS) (q : Option Addr) (c : Nat) (z' : Int) : ((m.wrote z y q c).cur z').l = if z = z' then y.l else (m.cur z').l := by
  unfold DM.cur DM.wrote
  dsimp only
  rw [List.map_append, List.map_cons, List.map_nil, lastI_snoc]
  by_cases h : z = z'
  · rw [if_pos h, if_pos h]
    dsimp only
    rw [List.length_map, atR_eq _ m.Qs.length (by simp)]
    simp
  · rw [if_neg h, if_neg h]
    cases hl : lastI (m.Qs.map (·.at_)) z' with
    | none => rfl
    | some i =>
      have := lastI_lt _ _ _ hl
      rw [List.length_map] at this
      dsimp only
      rw [atR_eq _ i (by simp; omega), atR_eq _ i this, List.getElem_append_left this]
/-- What is read behind a write of sectors. -/
def wrote (R : Int → List UInt8) (z : Int) (Xs : List OcS) (k : Nat) : Int → List UInt8 := fun z' => if z ≤ z' ∧ z' < z + (k : Int) then (ocA Xs (z' - z).toNat).l else R z'
theorem wrote_zero (R : Int → List UInt8) (z : Int) (Xs : List OcS) : wrote R z Xs 0 = R := by
  funext z'
  unfold wrote
  rw [if_neg (by omega)]
theorem wrote_succ (R : Int → List UInt8) (z : Int) (Xs : List OcS) (k : Nat) (z' : Int) : wrote R z Xs (k + 1) z' = if z + (k : Int) = z' then (ocA Xs k).l else wrote R z Xs k z' := by
  unfold wrote
  by_cases h : z + (k : Int) = z'
  · rw [if_pos h, if_pos (by omega), show (z' - z).toNat = k by omega]
  · rw [if_neg h]
    by_cases h2 : z ≤ z' ∧ z' < z + (k : Int)
    · rw [if_pos h2, if_pos (by omega)]
    · rw [if_neg h2, if_neg (by omega)]
/-- A disk that lets itself be written. -/
structure Soft (m : DM) (c : Nat) : Prop where
  tl : m.tl = false
  n : m.n ≤ c
  q : m.Qs.length ≤ c
/-- One write that is done. -/
theorem wr_done (m : DM) (b : Nat) (z : Int) (K : Nat → Prop) (w : World) (D : DiskM w b m K) {N : Nat} {R : Int → List UInt8} (Q : Quiet m N R) {c : Nat} (S : Soft m c) (hc : c ≤ 1000) (hz : (Lit.int .i64 z).wf = true) (h0 : 0 ≤ z) (h1 : z < (N : Int)) (x : OcS) (hx : x.there w) (hxK : ∀ b' o, x.a = some ⟨b', o, none⟩ → ¬ K b') (hxl : x.l.length = 256) :
    Calls Try.prog 14 #[.pointer (some ⟨b, 0, none⟩), .int .i64 z, .slice x.a x.l.length x.cap] w fun e w' => e = .returned (.int .i64 0) ∧ ∃ m' K', DiskM w' b m' K' ∧ Sole K w w' ∧ (∀ k, K' k → K k ∨ w.heap.size ≤ k) ∧ Quiet m' N (fun z' => if z = z' then x.l else R z') ∧ Soft m' (c + 1) := by
  rw [hxl]
  refine (write_any (G := fun _ _ w1 w' => w' = w1) m b z K w D x hx hxK hxl hz h0 (by rw [Q.len]; exact h1) Q.trb (by have := S.n; omega) (by have := S.q; omega) (fun y q c w1 K1 Dx => goz_off _ _ _ Dx.blk S.tl)).mono ?_
  rintro e w' ⟨rfl, y, q, cc, w1, K1, hy, D1, S1, hK, rfl⟩
  refine ⟨rfl, _, K1, D1, S1, hK, ⟨Q.off, Q.after.tf, Q.len, fun z' => ?_⟩, ⟨S.tl, Nat.succ_le_succ S.n, ?_⟩⟩
  · have := cur_wrote m.after z y q cc z'
    refine Eq.trans (show _ = ((m.after.wrote z y q cc).cur z').l from rfl) ?_
    rw [this, hy, Q.after.cur z']
  · show (m.Qs ++ [(⟨z, y⟩ : WtS)]).length ≤ c + 1
    rw [List.length_append, List.length_singleton]
    exact Nat.succ_le_succ S.q
end Go.Proofs.Ytcklmemnjchdcaa

/-
  Package seglog: summary: of a summary's sector, with its stamp or another.
-/


namespace Go.Proofs.Ytcklmemnjchdcaa
open Go.RowKit
set_option linter.unusedVariables false
set_option linter.unusedSimpArgs false

@[go_sem high] theorem neq_stp (a b c a' b' c' : Int) (w : World) : (binOp .neq 116 (.agg #[.int .i64 a, .int .i64 b, .int .i64 c]) (.agg #[.int .i64 a', .int .i64 b', .int .i64 c'])).run Try.prog w = .ok (.bool (!stEq a b c a' b' c')) w := by
  rw [run_neq_struct]
  by_cases h1 : a = a' <;> by_cases h2 : b = b' <;> by_cases h3 : c = c' <;> simp [go_sem, stEq, h1, h2, h3]
/-- What summary answers. -/
def SumPost (t0 t : Stp) (nx : Int) (la : Bool) (n : Nat) (f : Nat → En) (w : World) (e : Ending) (w' : World) : Prop :=
  (t0 = t ∧ ∃ q c, e = .returned (.tuple #[smval nx la q n c, .bool true]) ∧ n ≤ c ∧ c ≤ maxLen ∧ RowP w' q 2 n (fun i => ecells (f i)) ∧ (∀ b o, q = some ⟨b, o, none⟩ → n ≠ 0 → w.heap.size + 1 < b) ∧ Below w.heap.size w w') ∨
    (t0 ≠ t ∧ e = .returned (.tuple #[summ0, .bool false]) ∧ Below w.heap.size w w')
end Go.Proofs.Ytcklmemnjchdcaa

/-
  Package seglog: Load of a good node's sector.
-/

namespace Go.Proofs.Ytcklmemnjchdcaa
open Go.RowKit Go.Maps
set_option linter.unusedVariables false
set_option linter.unusedSimpArgs false

/-- A node's sector. -/
structure NodeSec (l : List UInt8) (t : Stp) (id : Int) (d : NdS) : Prop where
  len : l.length = 256
  good : goodB l = true
  kind : openK l = 5
  st : openS l = t
  id0 : 1 ≤ id
  id1 : id ≤ 255
  ok : ∀ i, i < d.n → (d.f i).ok
  nd : d.good = true
  txt : openT l = UInt8.ofNat id.toNat :: d.oct
/-- Is it the node that was written. -/
abbrev NdS.same (y d : NdS) : Prop := nSame y.lf d.lf y.n d.n y.f d.f y.nx d.nx y.k d.k y.c d.c = true
theorem newO_oc {w w' : World} {v : Value} {l : List UInt8} (h : NewO w w' v l) (hn : l ≠ []) : ∃ y : OcS, v = .slice y.a y.l.length y.cap ∧ y.l = l ∧ y.there w' := by
  obtain ⟨a, cap, hv, O⟩ := h
  rcases O.2 with ⟨_, h0⟩ | ⟨g, cap', cur, e, _, _, h1, h2, _⟩
  · exact absurd (List.eq_nil_of_length_eq_zero h0) hn
  · simp only [Value.slice.injEq] at e
    obtain ⟨_, _, rfl⟩ := e
    exact ⟨⟨a, cap, l⟩, hv, rfl, Octs.of_own O, h1, h2⟩
end Go.Proofs.Ytcklmemnjchdcaa

/-
  Package seglog: Batch of a disk where a part stands, whole or with a sector that is not its own.
-/


namespace Go.Proofs.Ytcklmemnjchdcaa
open Go.RowKit Go.Maps
set_option linter.unusedVariables false
set_option linter.unusedSimpArgs false

theorem cntW_succ (f : Nat → En) (k : Nat) : cntW f (k + 1) = cntW f k + if (f k).k = 1 then 1 else 0 := rfl
theorem cntW_mono (f : Nat → En) {a b : Nat} (h : a ≤ b) : cntW f a ≤ cntW f b := by
  induction h with
  | refl => exact Nat.le_refl _
  | step _ ih => rw [cntW_succ]; omega
abbrev s0c : Array Value := #[.int .i64 0, .bool false, .slice none 0 0]
/-- As Batch's loop goes. -/
structure BatAt (w W : World) (b : Nat) (K : Nat → Prop) (N : Nat) (R : Int → List UInt8) (c0 B16 B18 : Nat) (ep sq : Int) (nx : Int) (la : Bool) (q : Option Addr) (n c : Nat) (f : Nat → En) (a : Int) : Prop where
  d : ∃ m', DiskM W b m' K ∧ Quiet m' N R ∧ Soft m' c0
  s : Sole K w W
  b10 : Blk W w.heap.size s0c
  b13 : Blk W (w.heap.size + 1) s0c
  b16 : Blk W B16 (smcells nx la q n c)
  b18 : Blk W B18 #[.int .i64 ep, .int .i64 sq, .int .i64 a]
  row : RowP W q 2 n (fun i => ecells (f i))
  kl : ∀ k, K k → k < w.heap.size
  lo : w.heap.size + 1 < B16 ∧ w.heap.size + 1 < B18 ∧ B16 ≠ B18
  q : ∀ b' o, q = some ⟨b', o, none⟩ → n ≠ 0 → w.heap.size + 1 < b' ∧ b' ≠ B18
theorem BatAt.read {w W W' : World} {b : Nat} {K : Nat → Prop} {N : Nat} {R : Int → List UInt8} {c0 B16 B18 : Nat} {ep sq nx : Int} {la : Bool} {q : Option Addr} {n c : Nat} {f : Nat → En} {a : Int} (h : BatAt w W b K N R c0 B16 B18 ep sq nx la q n c f a) (S : Sole K W W') (d : ∃ m', DiskM W' b m' K ∧ Quiet m' N R ∧ Soft m' c0) :
    BatAt w W' b K N R c0 B16 B18 ep sq nx la q n c f a :=
  ⟨d, h.s.trans S, h.b10.sole S (fun e => by have := h.kl _ e; omega), h.b13.sole S (fun e => by have := h.kl _ e; omega), h.b16.sole S (fun e => by have := h.kl _ e; have := h.lo; omega), h.b18.sole S (fun e => by have := h.kl _ e; have := h.lo; omega),
    RowP.apart h.row S (fun b' o e hn hk => by have := h.kl _ hk; have := h.q b' o e hn; omega), h.kl, h.lo, h.q⟩
theorem BatAt.more {w W W' : World} {b : Nat} {K : Nat → Prop} {N : Nat} {R : Int → List UInt8} {c0 B16 B18 : Nat} {ep sq nx : Int} {la : Bool} {q : Option Addr} {n c : Nat} {f : Nat → En} {a : Int} (h : BatAt w W b K N R c0 B16 B18 ep sq nx la q n c f a) (hb : Below W.heap.size W W') :
    BatAt w W' b K N R c0 B16 B18 ep sq nx la q n c f a :=
  h.read (Sole.made hb) (h.d.elim fun m' hd => ⟨m', hd.1.more hb, hd.2⟩)
/-- One sector on. -/
theorem BatAt.on {w W : World} {b : Nat} {K : Nat → Prop} {N : Nat} {R : Int → List UInt8} {c0 B16 B18 : Nat} {ep sq nx : Int} {la : Bool} {q : Option Addr} {n c : Nat} {f : Nat → En} {a : Int} (h : BatAt w W b K N R c0 B16 B18 ep sq nx la q n c f a) (a' : Int) :
    BatAt w (W.setCell ⟨B18, 2, none⟩ (.int .i64 a')) b K N R c0 B16 B18 ep sq nx la q n c f a' := by
  have S : Sole (fun k => k = B18) W (W.setCell ⟨B18, 2, none⟩ (.int .i64 a')) := Sole.setCell W _ rfl
  obtain ⟨lo1, lo2, lo3⟩ := h.lo
  obtain ⟨m', D', Q', T'⟩ := h.d
  have := h.b18.set 2 (.int .i64 a') (by simp)
  exact ⟨⟨m', D'.kept S (fun k hk e => by have := h.kl k hk; omega), Q', T'⟩, h.s.trans' S (fun k hk e => absurd hk (by omega)), h.b10.sole S (by omega), h.b13.sole S (by omega), h.b16.sole S (fun e => lo3 e), by simpa using this, RowP.apart h.row S (fun b' o e hn hk => (h.q b' o e hn).2 hk), h.kl, h.lo, h.q⟩
/-- What Batch answers. -/
def BatPost (w w' : World) (e : Ending) (b : Nat) (K : Nat → Prop) (N : Nat) (R : Int → List UInt8) (c0 : Nat) (ok : Prop) (nx : Int) (la : Bool) (n : Nat) (f : Nat → En) : Prop :=
  (∃ m', DiskM w' b m' K ∧ Quiet m' N R ∧ Soft m' c0) ∧ Sole K w w' ∧ ((ok ∧ ∃ q c, e = .returned (.tuple #[smval nx la q n c, .bool true, .int .i64 0]) ∧ n ≤ c ∧ c ≤ maxLen ∧ RowP w' q 2 n (fun i => ecells (f i))) ∨ (¬ ok ∧ e = .returned (.tuple #[smval 0 false none 0 0, .bool false, .int .i64 0])))
theorem bat_none {w W : World} {b : Nat} {K : Nat → Prop} {N : Nat} {R : Int → List UInt8} {c0 : Nat} (kl : ∀ k, K k → k < w.heap.size) (b10 : Blk W w.heap.size s0c) (s : Sole K w W) (d : ∃ m', DiskM W b m' K ∧ Quiet m' N R ∧ Soft m' c0) (vs : List Value) (hv : vs.length = 3) :
    Blk (setAll W w.heap.size 0 vs) w.heap.size (fillC s0c 0 vs) ∧ Sole K w (setAll W w.heap.size 0 vs) ∧ (∃ m', DiskM (setAll W w.heap.size 0 vs) b m' K ∧ Quiet m' N R ∧ Soft m' c0) ∧ Sole (fun k => k = w.heap.size) W (setAll W w.heap.size 0 vs) := by
  have S : Sole (fun k => k = w.heap.size) W (setAll W w.heap.size 0 vs) := sole_setAll (S := fun k => k = w.heap.size) rfl vs 0 W
  obtain ⟨m', D', Q', T'⟩ := d
  exact ⟨Blk.fill vs 0 b10 (by simp [hv]), s.trans' S (fun k hk e => absurd hk (by omega)), ⟨m', D'.kept S (fun k hk e => by have := kl k hk; omega), Q', T'⟩, S⟩
theorem Soft.after {m : DM} {c : Nat} (h : Soft m c) : Soft m.after c := ⟨h.tl, h.n, h.q⟩
/-- What stands in a part's sectors. -/
structure Part (R : Int → List UInt8) (at_ : Int) (t0 : Stp) (nx : Int) (la : Bool) (n : Nat) (f : Nat → En) (bad : Nat → Bool) : Prop where
  head : R at_ = sealB 4 t0 (smB nx la n f)
  good : bCk nx n f = 0
  fits : stFits 4 t0
  room : (smB nx la n f).length ≤ 238
  t0a : t0.a = 0
  hurt : ∀ k, k < n → (f k).k = 1 → bad (cntW f k + 1) = true → goodB (R (at_ + (cntW f k + 1 : Nat))) = false ∧ (R (at_ + (cntW f k + 1 : Nat))).length = 256
  node : ∀ k, k < n → (f k).k = 1 → bad (cntW f k + 1) = false → ∃ d, NodeSec (R (at_ + (cntW f k + 1 : Nat))) ⟨t0.e, t0.s, ((cntW f k + 1 : Nat) : Int)⟩ (f k).i d
/-- None of the first ones is hurt. -/
def allOk (bad : Nat → Bool) (k : Nat) : Prop := ∀ j, 1 ≤ j → j ≤ k → bad j = false
/-- Does the part stand there, whole, with these numbers, in so many sectors? -/
def BatOk (t0 : Stp) (ep sq left : Int) (n : Nat) (f : Nat → En) (bad : Nat → Bool) : Prop := t0 = ⟨ep, sq, 0⟩ ∧ 1 + (cntW f n : Int) ≤ left ∧ allOk bad (cntW f n)
theorem wrap_small (x : Int) (h0 : -2000000 ≤ x) (h1 : x ≤ 2000000) : wrap64 x = x := IntWalk.wrap64_in _ ⟨by omega, by omega⟩
theorem wf_small (x : Int) (h0 : -2000000 ≤ x) (h1 : x ≤ 2000000) : (Lit.int .i64 x).wf = true := by
  rw [← wrap_small x h0 h1]
  exact wrap64_wf _
theorem bat_nums (z : Int) (ck cn N : Nat) (hz0 : 0 ≤ z) (hz1 : z ≤ 1000) (h1 : ck + 1 ≤ cn) (h2 : cn ≤ 64) (h3 : z + 1 + (cn : Int) ≤ (N : Int)) : (0 ≤ z + ((ck : Int) + 1) ∧ z + ((ck : Int) + 1) < (N : Int)) ∧ (Lit.int .i64 (z + ((ck : Int) + 1))).wf = true ∧ wrap64 ((ck : Int) + 1) = (ck : Int) + 1 ∧ wrap64 (z + ((ck : Int) + 1)) = z + ((ck : Int) + 1) :=
  ⟨⟨by omega, by omega⟩, wf_small _ (by omega) (by omega), wrap_small _ (by omega) (by omega), wrap_small _ (by omega) (by omega)⟩
end Go.Proofs.Ytcklmemnjchdcaa

/-
  Package seglog: Node of any sector.
-/


namespace Go.Proofs.Ytcklmemnjchdcaa
open Go.RowKit Go.Maps
set_option linter.unusedVariables false
set_option linter.unusedSimpArgs false

set_option maxRecDepth 100000 in
set_option maxHeartbeats 4000000 in
/-- Of another kind. -/
theorem snode_kind (l : List UInt8) (a : Option Addr) (cap : Nat) (h1 : l.length ≤ cap) (h2 : cap ≤ maxLen) (w : World) (O : Octs w a l) (hg : goodB l = true) (hk : openK l ≠ 5) :
    Calls Try.prog 66 #[.slice a l.length cap] w fun e w' => e = .returned (.tuple #[item0, .int .i64 21]) ∧ Below w.heap.size w w' := by
  obtain ⟨W0, hW0⟩ : ∃ W0, w.alloc (.cells #[.int .i64 0, .bool false, .slice none 0 0, .int .i64 0, .int .i64 0, .int .i64 0, .int .i64 0, .int .i64 0, .int .i64 0, .int .i64 0, .int .i64 0, .int .i64 0] 80) = W0 := ⟨_, rfl⟩
  have hb0 : Below w.heap.size w W0 := by rw [← hW0]; exact (Below.refl _ _).alloc (Nat.le_refl _) _
  have BX : Blk W0 w.heap.size #[.int .i64 0, .bool false, .slice none 0 0, .int .i64 0, .int .i64 0, .int .i64 0, .int .i64 0, .int .i64 0, .int .i64 0, .int .i64 0, .int .i64 0, .int .i64 0] := by rw [← hW0]; exact Blk.new w _ _
  have KO := fopen_any l a cap h1 h2 W0 (O.more hb0)
  unfold OpenPost at KO
  rw [(open_good hg).2.2.2] at KO
  generalize openK l = kk at *
  generalize openT l = tt at *
  replace KO := hid KO
  have HBX := hid BX
  have D0 := hid hb0
  clear BX O h1 h2 hg hb0
  generalize openS l = st at *
  generalize l.length = ll at *
  go_enter Try.func66, Try.ntmps66
  go_wp2_with fail
  refine KO.out.mono ?_
  rintro e w1 ⟨v1, rfl, ⟨qa, qc, rfl, OT, hlc, _⟩, hb1⟩
  have HB1 := HBX.out.more hb1
  have D1 := hid (below2 D0.out hb1 D0.out.size)
  have b2 : Below w1.heap.size w1 (w1.alloc (.cells (scells st) 116)) := below_al1 _ _
  have HBX2 := hid (HB1.more b2)
  have D2 := hid (D1.out.alloc D1.out.size (.cells (scells st) 116))
  clear hb1 KO HBX D0 hW0 HB1 OT b2
  obtain ⟨lx, kx, fx⟩ := HBX2.out
  go_wp2
  have B3 := Blk.fill [.int .i64 0, .bool false, .slice none 0 0, .int .i64 0, .int .i64 0, .int .i64 0, .int .i64 0, .int .i64 0, .int .i64 0, .int .i64 0, .int .i64 0, .int .i64 0] 0 HBX2.out (by simp)
  have D3 := hid (below_fill (b := w.heap.size) (Nat.le_refl _) [.int .i64 0, .bool false, .slice none 0 0, .int .i64 0, .int .i64 0, .int .i64 0, .int .i64 0, .int .i64 0, .int .i64 0, .int .i64 0, .int .i64 0, .int .i64 0] 0 D2.out)
  simp only [setAll, Nat.zero_add, Nat.reduceAdd] at B3 D3
  clear lx kx fx
  generalize World.setCell _ _ _ = W3 at *
  obtain ⟨l3, k3, f3⟩ := B3
  refine bodyPost_ret (v := .tuple #[item0, .int .i64 21]) (by simp [results, Try.results66, go_sem, k3, fillC]) rfl ⟨rfl, D3.out⟩

set_option maxRecDepth 100000 in
set_option maxHeartbeats 4000000 in
/-- Without a text. -/
theorem snode_empty (l : List UInt8) (a : Option Addr) (cap : Nat) (h1 : l.length ≤ cap) (h2 : cap ≤ maxLen) (w : World) (O : Octs w a l) (hg : goodB l = true) (hk : openK l = 5) (hT : openT l = []) :
    Calls Try.prog 66 #[.slice a l.length cap] w fun e w' => e = .returned (.tuple #[item0, .int .i64 21]) ∧ Below w.heap.size w w' := by
  obtain ⟨W0, hW0⟩ : ∃ W0, w.alloc (.cells #[.int .i64 0, .bool false, .slice none 0 0, .int .i64 0, .int .i64 0, .int .i64 0, .int .i64 0, .int .i64 0, .int .i64 0, .int .i64 0, .int .i64 0, .int .i64 0] 80) = W0 := ⟨_, rfl⟩
  have hb0 : Below w.heap.size w W0 := by rw [← hW0]; exact (Below.refl _ _).alloc (Nat.le_refl _) _
  have BX : Blk W0 w.heap.size #[.int .i64 0, .bool false, .slice none 0 0, .int .i64 0, .int .i64 0, .int .i64 0, .int .i64 0, .int .i64 0, .int .i64 0, .int .i64 0, .int .i64 0, .int .i64 0] := by rw [← hW0]; exact Blk.new w _ _
  have KO := fopen_any l a cap h1 h2 W0 (O.more hb0)
  unfold OpenPost at KO
  rw [(open_good hg).2.2.2] at KO
  rw [hk, hT] at KO
  clear hk hT
  replace KO := hid KO
  have HBX := hid BX
  have D0 := hid hb0
  clear BX O h1 h2 hg hb0
  generalize openS l = st at *
  generalize l.length = ll at *
  go_enter Try.func66, Try.ntmps66
  go_wp2_with fail
  refine KO.out.mono ?_
  rintro e w1 ⟨v1, rfl, ⟨qa, qc, rfl, OT, hlc, _⟩, hb1⟩
  have HB1 := HBX.out.more hb1
  have D1 := hid (below2 D0.out hb1 D0.out.size)
  have b2 : Below w1.heap.size w1 (w1.alloc (.cells (scells st) 116)) := below_al1 _ _
  have HBX2 := hid (HB1.more b2)
  have D2 := hid (D1.out.alloc D1.out.size (.cells (scells st) 116))
  simp only [List.length_nil]
  clear hb1 KO HBX D0 hW0 HB1 OT b2
  obtain ⟨lx, kx, fx⟩ := HBX2.out
  go_wp2
  have B3 := Blk.fill [.int .i64 0, .bool false, .slice none 0 0, .int .i64 0, .int .i64 0, .int .i64 0, .int .i64 0, .int .i64 0, .int .i64 0, .int .i64 0, .int .i64 0, .int .i64 0] 0 HBX2.out (by simp)
  have D3 := hid (below_fill (b := w.heap.size) (Nat.le_refl _) [.int .i64 0, .bool false, .slice none 0 0, .int .i64 0, .int .i64 0, .int .i64 0, .int .i64 0, .int .i64 0, .int .i64 0, .int .i64 0, .int .i64 0, .int .i64 0] 0 D2.out)
  simp only [setAll, Nat.zero_add, Nat.reduceAdd] at B3 D3
  clear lx kx fx
  generalize World.setCell _ _ _ = W3 at *
  obtain ⟨l3, k3, f3⟩ := B3
  refine bodyPost_ret (v := .tuple #[item0, .int .i64 21]) (by simp [results, Try.results66, go_sem, k3, fillC]) rfl ⟨rfl, D3.out⟩

set_option maxRecDepth 100000 in
set_option maxHeartbeats 4000000 in
/-- Of no Id. -/
theorem snode_zero (l : List UInt8) (a : Option Addr) (cap : Nat) (h1 : l.length ≤ cap) (h2 : cap ≤ maxLen) (w : World) (O : Octs w a l) (hg : goodB l = true) (hk : openK l = 5) (c : UInt8) (T : List UInt8) (hT : openT l = c :: T) (hc : c.toNat = 0) :
    Calls Try.prog 66 #[.slice a l.length cap] w fun e w' => e = .returned (.tuple #[item0, .int .i64 21]) ∧ Below w.heap.size w w' := by
  obtain ⟨W0, hW0⟩ : ∃ W0, w.alloc (.cells #[.int .i64 0, .bool false, .slice none 0 0, .int .i64 0, .int .i64 0, .int .i64 0, .int .i64 0, .int .i64 0, .int .i64 0, .int .i64 0, .int .i64 0, .int .i64 0] 80) = W0 := ⟨_, rfl⟩
  have hb0 : Below w.heap.size w W0 := by rw [← hW0]; exact (Below.refl _ _).alloc (Nat.le_refl _) _
  have BX : Blk W0 w.heap.size #[.int .i64 0, .bool false, .slice none 0 0, .int .i64 0, .int .i64 0, .int .i64 0, .int .i64 0, .int .i64 0, .int .i64 0, .int .i64 0, .int .i64 0, .int .i64 0] := by rw [← hW0]; exact Blk.new w _ _
  have KO := fopen_any l a cap h1 h2 W0 (O.more hb0)
  unfold OpenPost at KO
  rw [(open_good hg).2.2.2] at KO
  rw [hk, hT] at KO
  clear hk hT
  replace KO := hid KO
  have HBX := hid BX
  have D0 := hid hb0
  clear BX O h1 h2 hg hb0
  generalize openS l = st at *
  generalize l.length = ll at *
  go_enter Try.func66, Try.ntmps66
  go_wp2_with fail
  refine KO.out.mono ?_
  rintro e w1 ⟨v1, rfl, ⟨qa, qc, rfl, OT, hlc, _⟩, hb1⟩
  have HB1 := HBX.out.more hb1
  have D1 := hid (below2 D0.out hb1 D0.out.size)
  have b2 : Below w1.heap.size w1 (w1.alloc (.cells (scells st) 116)) := below_al1 _ _
  have HBX2 := hid (HB1.more b2)
  have D2 := hid (D1.out.alloc D1.out.size (.cells (scells st) 116))
  have OT2 := OT.more b2
  have hl0 : (c :: T).length = T.length + 1 := rfl
  obtain ⟨bt, ot, hqa, hbt, hoc⟩ := OT2.resolve_left (by simp)
  have zc : (w1.alloc (.cells (scells st) 116)).cell? ⟨bt, ot, none⟩ = some (.int .u8 0) := by
    have := hoc 0 (by simp)
    simpa [hc] using this
  clear hb1 KO HBX D0 hW0 HB1 OT b2 OT2 hoc hc
  subst hqa
  simp only [hl0]
  obtain ⟨lx, kx, fx⟩ := HBX2.out
  generalize hW2 : w1.alloc (.cells (scells st) 116) = W2 at *
  go_wp2
  have B3 := Blk.fill [.int .i64 0, .bool false, .slice none 0 0, .int .i64 0, .int .i64 0, .int .i64 0, .int .i64 0, .int .i64 0, .int .i64 0, .int .i64 0, .int .i64 0, .int .i64 0] 0 HBX2.out (by simp)
  have D3 := hid (below_fill (b := w.heap.size) (Nat.le_refl _) [.int .i64 0, .bool false, .slice none 0 0, .int .i64 0, .int .i64 0, .int .i64 0, .int .i64 0, .int .i64 0, .int .i64 0, .int .i64 0, .int .i64 0, .int .i64 0] 0 D2.out)
  simp only [setAll, Nat.zero_add, Nat.reduceAdd] at B3 D3
  clear lx kx fx zc hbt
  generalize World.setCell _ _ _ = W3 at *
  obtain ⟨l3, k3, f3⟩ := B3
  refine bodyPost_ret (v := .tuple #[item0, .int .i64 21]) (by simp [results, Try.results66, go_sem, k3, fillC]) rfl ⟨rfl, D3.out⟩

set_option maxRecDepth 100000 in
set_option maxHeartbeats 4000000 in
/-- With octets behind its Id that are no node's. -/
theorem snode_rd (l : List UInt8) (a : Option Addr) (cap : Nat) (h1 : l.length ≤ cap) (h2 : cap ≤ maxLen) (w : World) (O : Octs w a l) (hg : goodB l = true) (hk : openK l = 5) (c : UInt8) (T : List UInt8) (hT : openT l = c :: T) (hc : c.toNat ≠ 0)
    (KR : ∀ a cap W, Octs W a T → Calls Try.prog 81 #[.slice a T.length cap] W fun e w' => e = .returned (.tuple #[lfval false (.slice none 0 0) 0, .int .i64 16]) ∧ Below W.heap.size W w') :
    Calls Try.prog 66 #[.slice a l.length cap] w fun e w' => e = .returned (.tuple #[item0, .int .i64 21]) ∧ Below w.heap.size w w' := by
  obtain ⟨W0, hW0⟩ : ∃ W0, w.alloc (.cells #[.int .i64 0, .bool false, .slice none 0 0, .int .i64 0, .int .i64 0, .int .i64 0, .int .i64 0, .int .i64 0, .int .i64 0, .int .i64 0, .int .i64 0, .int .i64 0] 80) = W0 := ⟨_, rfl⟩
  have hb0 : Below w.heap.size w W0 := by rw [← hW0]; exact (Below.refl _ _).alloc (Nat.le_refl _) _
  have BX : Blk W0 w.heap.size #[.int .i64 0, .bool false, .slice none 0 0, .int .i64 0, .int .i64 0, .int .i64 0, .int .i64 0, .int .i64 0, .int .i64 0, .int .i64 0, .int .i64 0, .int .i64 0] := by rw [← hW0]; exact Blk.new w _ _
  have KO := fopen_any l a cap h1 h2 W0 (O.more hb0)
  unfold OpenPost at KO
  rw [(open_good hg).2.2.2] at KO
  rw [hk, hT] at KO
  have hcn : (c.toNat : Int) ≠ 0 := by omega
  have hc0 : ((c.toNat : Int) == 0) = false := by rw [beq_eq_false_iff_ne]; exact hcn
  have KRh := hid KR
  clear hk hT hc hcn KR
  replace KO := hid KO
  have HBX := hid BX
  have D0 := hid hb0
  clear BX O h1 h2 hg hb0
  generalize openS l = st at *
  generalize l.length = ll at *
  go_enter Try.func66, Try.ntmps66
  go_wp2_with fail
  refine KO.out.mono ?_
  rintro e w1 ⟨v1, rfl, ⟨qa, qc, rfl, OT, hlc, _⟩, hb1⟩
  have HB1 := HBX.out.more hb1
  have D1 := hid (below2 D0.out hb1 D0.out.size)
  have b2 : Below w1.heap.size w1 (w1.alloc (.cells (scells st) 116)) := below_al1 _ _
  have HBX2 := hid (HB1.more b2)
  have D2 := hid (D1.out.alloc D1.out.size (.cells (scells st) 116))
  have OT2 := OT.more b2
  have hl0 : (c :: T).length = T.length + 1 := rfl
  obtain ⟨bt, ot, hqa, hbt, hoc⟩ := OT2.resolve_left (by simp)
  have zc : (w1.alloc (.cells (scells st) 116)).cell? ⟨bt, ot, none⟩ = some (.int .u8 (c.toNat : Int)) := by
    have := hoc 0 (by simp)
    simpa using this
  have OTT : Octs (w1.alloc (.cells (scells st) 116)) (some ⟨bt, ot + 1, none⟩) T := .inr ⟨bt, ot + 1, rfl, hbt, fun i hi => by
    have := hoc (i + 1) (by simp; omega)
    rw [show ot + 1 + i = ot + (i + 1) by omega, this]
    rfl⟩
  rw [hl0] at hlc
  subst hqa
  simp only [hl0]
  obtain ⟨lx, kx, fx⟩ := HBX2.out
  by_cases hq1 : qc = 1
  · have hT0 : T = [] := List.eq_nil_of_length_eq_zero (by omega)
    subst hq1
    subst hT0
    have KN := hid (KRh.out (some ⟨bt, ot, none⟩) 0 _ (Octs.nil (w1.alloc (.cells (scells st) 116)) _))
    simp only [List.length_nil] at KN ⊢
    clear hb1 KO HBX D0 hW0 HB1 OT b2 OT2 hoc OTT KRh
    generalize hW2 : w1.alloc (.cells (scells st) 116) = W2 at *
    go_wp2_with fail
    refine KN.out.mono ?_
    rintro e W3 ⟨rfl, hb3⟩
    have HB3 := HBX2.out.more hb3
    have b4 : Below W3.heap.size W3 (W3.alloc (.cells (lfcells false (.slice none 0 0) 0) 78)) := below_al1 _ _
    have HB4 := hid (HB3.more b4)
    have D4 := hid (below2 (below2 D2.out hb3 D2.out.size) b4 (Nat.le_trans D2.out.size hb3.size))
    clear HB3 KN hb3 b4 zc hbt lx kx fx
    obtain ⟨lx, kx, fx⟩ := HB4.out
    go_wp2
    have B3 := Blk.fill [.int .i64 0, .bool false, .slice none 0 0, .int .i64 0, .int .i64 0, .int .i64 0, .int .i64 0, .int .i64 0, .int .i64 0, .int .i64 0, .int .i64 0, .int .i64 0] 0 HB4.out (by simp)
    have D3 := hid (below_fill (b := w.heap.size) (Nat.le_refl _) [.int .i64 0, .bool false, .slice none 0 0, .int .i64 0, .int .i64 0, .int .i64 0, .int .i64 0, .int .i64 0, .int .i64 0, .int .i64 0, .int .i64 0, .int .i64 0] 0 D4.out)
    simp only [setAll, Nat.zero_add, Nat.reduceAdd] at B3 D3
    clear lx kx fx
    generalize World.setCell _ _ _ = W3 at *
    obtain ⟨l3, k3, f3⟩ := B3
    refine bodyPost_ret (v := .tuple #[item0, .int .i64 21]) (by simp [results, Try.results66, go_sem, k3, fillC]) rfl ⟨rfl, D3.out⟩
  · have KN := hid (KRh.out (some ⟨bt, ot + 1, none⟩) (qc - 1) _ OTT)
    have hq2 : 1 < qc := by omega
    clear hb1 KO HBX D0 hW0 HB1 OT b2 OT2 hoc OTT KRh hq1
    generalize hW2 : w1.alloc (.cells (scells st) 116) = W2 at *
    go_wp2_with fail
    refine KN.out.mono ?_
    rintro e W3 ⟨rfl, hb3⟩
    have HB3 := HBX2.out.more hb3
    have b4 : Below W3.heap.size W3 (W3.alloc (.cells (lfcells false (.slice none 0 0) 0) 78)) := below_al1 _ _
    have HB4 := hid (HB3.more b4)
    have D4 := hid (below2 (below2 D2.out hb3 D2.out.size) b4 (Nat.le_trans D2.out.size hb3.size))
    clear HB3 KN hb3 b4 zc hbt lx kx fx
    obtain ⟨lx, kx, fx⟩ := HB4.out
    go_wp2
    have B3 := Blk.fill [.int .i64 0, .bool false, .slice none 0 0, .int .i64 0, .int .i64 0, .int .i64 0, .int .i64 0, .int .i64 0, .int .i64 0, .int .i64 0, .int .i64 0, .int .i64 0] 0 HB4.out (by simp)
    have D3 := hid (below_fill (b := w.heap.size) (Nat.le_refl _) [.int .i64 0, .bool false, .slice none 0 0, .int .i64 0, .int .i64 0, .int .i64 0, .int .i64 0, .int .i64 0, .int .i64 0, .int .i64 0, .int .i64 0, .int .i64 0] 0 D4.out)
    simp only [setAll, Nat.zero_add, Nat.reduceAdd] at B3 D3
    clear lx kx fx
    generalize World.setCell _ _ _ = W3 at *
    obtain ⟨l3, k3, f3⟩ := B3
    refine bodyPost_ret (v := .tuple #[item0, .int .i64 21]) (by simp [results, Try.results66, go_sem, k3, fillC]) rfl ⟨rfl, D3.out⟩

/-- Is it a node's sector, and whose? -/
def nodeG (l : List UInt8) : Bool := goodB l && ((openK l == 5) && (match openT l with | [] => false | c :: T => decide (c.toNat ≠ 0) && ((leafR T).isSome || otherR T)))
def nodeI (l : List UInt8) : Int := byteAt (openT l) 0
theorem nread_true (T : List UInt8) (hT : T.length ≤ 1000) (hB : ((leafR T).isSome || otherR T) = true) (a : Option Addr) (cap : Nat) (W : World) (O : Octs W a T) :
    Calls Try.prog 81 #[.slice a T.length cap] W fun e w' => ∃ d : NdS, e = .returned (.tuple #[d.v, .int .i64 0]) ∧ d.there w' ∧ True ∧ Below W.heap.size W w' ∧ ∀ b o, d.p = some ⟨b, o, none⟩ → d.n ≠ 0 → W.heap.size ≤ b := by
  refine (nread_any T a cap (by omega) W O).mono ?_
  intro e w' hP
  rcases hP with ⟨L, v, q1, rfl, OV, hb⟩ | ⟨q1, q2, rfl, hb⟩ | ⟨q1, q2, _⟩
  · have hin := World.ownsRow.lt OV
    obtain ⟨pv, cv, rfl, d1, d2, R⟩ := OV.open
    refine ⟨⟨true, pv, L.length, cv, ptAt L, byteAt T 1, zf, zf⟩, rfl, ⟨R, d1, d2, (leaf_put _ L q1).2.2⟩, trivial, hb, fun b o e hn => ?_⟩
    dsimp only at e hn
    rcases OV.2 with ⟨e', h0⟩ | ⟨g, cap', cur, e', _⟩
    · exact absurd h0 hn
    · simp only [Value.slice.injEq] at e'
      have hlt := (hin g (by rw [e'.1]; rfl)).1
      rw [e'.1] at e; cases e
      exact hlt
  · exact ⟨⟨false, none, 0, 0, ptAt [], 0, kidsR T, cntsR T⟩, rfl, ⟨.inl rfl, Nat.le_refl _, Nat.zero_le _, fun i hi => absurd hi (Nat.not_lt_zero _)⟩, trivial, hb, fun b o e hn => by cases e⟩
  · rw [q1, q2] at hB; cases hB
theorem nread_false (T : List UInt8) (hT : T.length ≤ 1000) (hB : ((leafR T).isSome || otherR T) = false) (a : Option Addr) (cap : Nat) (W : World) (O : Octs W a T) :
    Calls Try.prog 81 #[.slice a T.length cap] W fun e w' => e = .returned (.tuple #[lfval false (.slice none 0 0) 0, .int .i64 16]) ∧ Below W.heap.size W w' := by
  refine (nread_any T a cap (by omega) W O).mono ?_
  intro e w' hP
  rcases hP with ⟨L, v, q1, rfl, OV, hb⟩ | ⟨q1, q2, rfl, hb⟩ | ⟨q1, q2, rfl, hb⟩
  · rw [q1] at hB; cases hB
  · rw [q2, Bool.or_true] at hB; cases hB
  · exact ⟨rfl, hb⟩
/-- Node, of any sector. -/
theorem snode_fun (l : List UInt8) (hl : l.length ≤ 1000) (a : Option Addr) (cap : Nat) (h1 : l.length ≤ cap) (h2 : cap ≤ maxLen) (w : World) (O : Octs w a l) :
    Calls Try.prog 66 #[.slice a l.length cap] w fun e w' => Below w.heap.size w w' ∧ ((nodeG l = true ∧ ∃ x : ItS, e = .returned (.tuple #[x.v, .int .i64 0]) ∧ x.id = nodeI l) ∨ (nodeG l = false ∧ e = .returned (.tuple #[item0, .int .i64 21]))) := by
  have bad : nodeG l = false → (Calls Try.prog 66 #[.slice a l.length cap] w fun e w' => e = .returned (.tuple #[item0, .int .i64 21]) ∧ Below w.heap.size w w') → Calls Try.prog 66 #[.slice a l.length cap] w fun e w' => Below w.heap.size w w' ∧ ((nodeG l = true ∧ ∃ x : ItS, e = .returned (.tuple #[x.v, .int .i64 0]) ∧ x.id = nodeI l) ∨ (nodeG l = false ∧ e = .returned (.tuple #[item0, .int .i64 21]))) := fun hn h => h.mono fun e w' hh => ⟨hh.2, .inr ⟨hn, hh.1⟩⟩
  cases hg : goodB l with
  | false => exact bad (by unfold nodeG; rw [hg]; rfl) (snode_bad l a cap h1 h2 w O hg)
  | true =>
    cases hk : openK l == 5 with
    | false => exact bad (by unfold nodeG; rw [hg, hk]; rfl) (snode_kind l a cap h1 h2 w O hg (by simpa using hk))
    | true =>
      have hk5 : openK l = 5 := by simpa using hk
      cases hT : openT l with
      | nil => exact bad (by unfold nodeG; rw [hg, hk, hT]; rfl) (snode_empty l a cap h1 h2 w O hg hk5 hT)
      | cons c T =>
        have hTl : T.length ≤ 1000 := by
          have h3 := congrArg List.length hT
          rw [(open_good hg).2.2.1, List.length_take, List.length_drop, List.length_cons] at h3
          omega
        by_cases hc : c.toNat = 0
        · exact bad (by unfold nodeG; rw [hg, hk, hT]; simp [hc]) (snode_zero l a cap h1 h2 w O hg hk5 c T hT hc)
        · cases hB : ((leafR T).isSome || otherR T) with
          | false => exact bad (by unfold nodeG; rw [hg, hk, hT]; simp only [hB, Bool.and_false, Bool.and_true]) (snode_rd l a cap h1 h2 w O hg hk5 c T hT hc (fun a cap W O => nread_false T hTl hB a cap W O))
          | true =>
            have hT0 : T ≠ [] := fun h => by rw [h] at hB; revert hB; decide
            refine (snode_good l a cap h1 h2 w O hg hk5 c T hT hT0 hc (fun _ => True) (fun a cap W O => nread_true T hTl hB a cap W O)).mono ?_
            rintro e w' ⟨x, rfl, hx, _, _, hb, _⟩
            refine ⟨hb, .inl ⟨by unfold nodeG; rw [hg, hk, hT]; simp [hB, hc], x, rfl, ?_⟩⟩
            rw [hx]
            unfold nodeI
            rw [hT]
            rfl
end Go.Proofs.Ytcklmemnjchdcaa

/-
  Package seglog: summary of any sector.
-/



namespace Go.Proofs.Ytcklmemnjchdcaa
open Go.RowKit Go.Maps
set_option linter.unusedVariables false
set_option linter.unusedSimpArgs false

set_option maxRecDepth 100000 in
set_option maxHeartbeats 4000000 in
/-- Of another kind. -/
theorem ssum_kind (l : List UInt8) (a : Option Addr) (cap : Nat) (t : Stp) (h1 : l.length ≤ cap) (h2 : cap ≤ maxLen) (w : World) (O : Octs w a l) (hg : goodB l = true) (hk : openK l ≠ 4) :
    Calls Try.prog 65 #[.slice a l.length cap, sval t] w fun e w' => e = .returned (.tuple #[summ0, .bool false]) ∧ Below w.heap.size w w' := by
  obtain ⟨W0, hW0⟩ : ∃ W0, (w.alloc (.cells (scells t) 116)).alloc (.cells #[.int .i64 0, .bool false, .slice none 0 0] 83) = W0 := ⟨_, rfl⟩
  have hb0 : Below w.heap.size w W0 := by rw [← hW0]; exact (below_al1 _ _).trans ((below_al1 _ _).mono (by simp))
  have hs0 : W0.heap.size = w.heap.size + 2 := by rw [← hW0]; simp
  have BT : Blk W0 w.heap.size (scells t) := by rw [← hW0]; exact (Blk.new w _ _).alloc _
  have BX : Blk W0 (w.heap.size + 1) #[.int .i64 0, .bool false, .slice none 0 0] := by
    rw [← hW0]
    have := Blk.new (w.alloc (.cells (scells t) 116)) #[.int .i64 0, .bool false, .slice none 0 0] 83
    simpa using this
  have KO := fopen_any l a cap h1 h2 W0 (O.more hb0)
  unfold OpenPost at KO
  rw [(open_good hg).2.2.2] at KO
  obtain ⟨t0, ht0⟩ : ∃ t0, openS l = t0 := ⟨_, rfl⟩
  rw [ht0] at KO
  generalize openK l = kk at *
  generalize openT l = tt at *
  clear ht0
  replace KO := hid KO
  have HBX := hid BX
  have HBT := hid BT
  have D0 := hid hb0
  have hs0h := hid hs0
  clear BX BT O h1 h2 hb0 hs0 hg
  generalize l.length = ll at *
  go_enter Try.func65, Try.ntmps65
  go_wp2_with fail
  refine KO.out.mono ?_
  rintro e w1 ⟨v1, rfl, ⟨qa, qc, rfl, OT, hlc, _⟩, hb1⟩
  have D1 := hid (below2 D0.out hb1 D0.out.size)
  have b2 : Below w1.heap.size w1 (w1.alloc (.cells (scells t0) 116)) := below_al1 _ _
  have HX2 := HBX.out.more (below2 hb1 b2 hb1.size)
  have HT2 := HBT.out.more (below2 hb1 b2 hb1.size)
  have HS2 := Blk.new w1 (scells t0) 116
  have D2 := hid (D1.out.alloc D1.out.size (.cells (scells t0) 116))
  have OT2 := hid (OT.more b2)
  have hW1 := hid (show w.heap.size + 2 ≤ w1.heap.size from by have := hb1.size; have := hs0h.out; omega)
  have hs2 := hid (show w.heap.size + 2 ≤ (w1.alloc (.cells (scells t0) 116)).heap.size from by simp; have := hW1.out; omega)
  generalize hW2 : w1.alloc (.cells (scells t0) 116) = W2 at *
  have HX2h := hid HX2
  clear hb1 KO HBX HBT D0 hW0 OT b2 hlc
  obtain ⟨lx, kx, fx⟩ := HX2
  obtain ⟨lt, kt, ft⟩ := HT2
  obtain ⟨ls, ks, fs⟩ := HS2
  go_wp2
  have B3 := Blk.fill [.int .i64 0, .bool false, .slice none 0 0] 0 HX2h.out (by simp)
  have D3 := hid (below_fill (b := w.heap.size + 1) (Nat.le_succ _) [.int .i64 0, .bool false, .slice none 0 0] 0 D2.out)
  simp only [setAll, Nat.zero_add, Nat.reduceAdd] at B3 D3
  clear lx kx fx lt kt ft ls ks fs
  generalize World.setCell _ _ _ = W3 at *
  obtain ⟨l3, k3, f3⟩ := B3
  refine bodyPost_ret (v := .tuple #[summ0, .bool false]) (by simp [results, Try.results65, go_sem, k3, fillC]) rfl ⟨rfl, D3.out⟩

set_option maxRecDepth 100000 in
set_option maxHeartbeats 4000000 in
/-- Of another stamp. -/
theorem ssum_stamp (l : List UInt8) (a : Option Addr) (cap : Nat) (t : Stp) (h1 : l.length ≤ cap) (h2 : cap ≤ maxLen) (w : World) (O : Octs w a l) (hg : goodB l = true) (hk : openK l = 4) (hs : stEq (openS l).e (openS l).s (openS l).a t.e t.s t.a = false) :
    Calls Try.prog 65 #[.slice a l.length cap, sval t] w fun e w' => e = .returned (.tuple #[summ0, .bool false]) ∧ Below w.heap.size w w' := by
  obtain ⟨W0, hW0⟩ : ∃ W0, (w.alloc (.cells (scells t) 116)).alloc (.cells #[.int .i64 0, .bool false, .slice none 0 0] 83) = W0 := ⟨_, rfl⟩
  have hb0 : Below w.heap.size w W0 := by rw [← hW0]; exact (below_al1 _ _).trans ((below_al1 _ _).mono (by simp))
  have hs0 : W0.heap.size = w.heap.size + 2 := by rw [← hW0]; simp
  have BT : Blk W0 w.heap.size (scells t) := by rw [← hW0]; exact (Blk.new w _ _).alloc _
  have BX : Blk W0 (w.heap.size + 1) #[.int .i64 0, .bool false, .slice none 0 0] := by
    rw [← hW0]
    have := Blk.new (w.alloc (.cells (scells t) 116)) #[.int .i64 0, .bool false, .slice none 0 0] 83
    simpa using this
  have KO := fopen_any l a cap h1 h2 W0 (O.more hb0)
  unfold OpenPost at KO
  rw [(open_good hg).2.2.2] at KO
  obtain ⟨t0, ht0⟩ : ∃ t0, openS l = t0 := ⟨_, rfl⟩
  rw [ht0] at KO hs
  rw [hk] at KO
  generalize openT l = tt at *
  clear ht0 hk
  replace KO := hid KO
  have HBX := hid BX
  have HBT := hid BT
  have D0 := hid hb0
  have hs0h := hid hs0
  clear BX BT O h1 h2 hb0 hs0 hg
  generalize l.length = ll at *
  go_enter Try.func65, Try.ntmps65
  go_wp2_with fail
  refine KO.out.mono ?_
  rintro e w1 ⟨v1, rfl, ⟨qa, qc, rfl, OT, hlc, _⟩, hb1⟩
  have D1 := hid (below2 D0.out hb1 D0.out.size)
  have b2 : Below w1.heap.size w1 (w1.alloc (.cells (scells t0) 116)) := below_al1 _ _
  have HX2 := HBX.out.more (below2 hb1 b2 hb1.size)
  have HT2 := HBT.out.more (below2 hb1 b2 hb1.size)
  have HS2 := Blk.new w1 (scells t0) 116
  have D2 := hid (D1.out.alloc D1.out.size (.cells (scells t0) 116))
  have OT2 := hid (OT.more b2)
  have hW1 := hid (show w.heap.size + 2 ≤ w1.heap.size from by have := hb1.size; have := hs0h.out; omega)
  have hs2 := hid (show w.heap.size + 2 ≤ (w1.alloc (.cells (scells t0) 116)).heap.size from by simp; have := hW1.out; omega)
  generalize hW2 : w1.alloc (.cells (scells t0) 116) = W2 at *
  have HX2h := hid HX2
  clear hb1 KO HBX HBT D0 hW0 OT b2 hlc
  obtain ⟨lx, kx, fx⟩ := HX2
  obtain ⟨lt, kt, ft⟩ := HT2
  obtain ⟨ls, ks, fs⟩ := HS2
  go_wp2
  have B3 := Blk.fill [.int .i64 0, .bool false, .slice none 0 0] 0 HX2h.out (by simp)
  have D3 := hid (below_fill (b := w.heap.size + 1) (Nat.le_succ _) [.int .i64 0, .bool false, .slice none 0 0] 0 D2.out)
  simp only [setAll, Nat.zero_add, Nat.reduceAdd] at B3 D3
  clear lx kx fx lt kt ft ls ks fs
  generalize World.setCell _ _ _ = W3 at *
  obtain ⟨l3, k3, f3⟩ := B3
  refine bodyPost_ret (v := .tuple #[summ0, .bool false]) (by simp [results, Try.results65, go_sem, k3, fillC]) rfl ⟨rfl, D3.out⟩

/-- Is it a summary's sector, of this stamp? -/
def sumG (l : List UInt8) (t : Stp) : Bool := isB l 4 t && readG (openT l)
def smNx (l : List UInt8) : Int := byteAt (openT l) 0
def smLa (l : List UInt8) : Bool := (byteAt (openT l) 1 : Int) == 1
def smN (l : List UInt8) : Nat := byteAt (openT l) 2
def smF (l : List UInt8) : Nat → En := rdE (openT l)
def SumF (l : List UInt8) (t : Stp) (w : World) (e : Ending) (w' : World) : Prop :=
  Below w.heap.size w w' ∧ ((sumG l t = true ∧ ∃ q c, e = .returned (.tuple #[smval (smNx l) (smLa l) q (smN l) c, .bool true]) ∧ smN l ≤ c ∧ c ≤ maxLen ∧ RowP w' q 2 (smN l) (fun i => ecells (smF l i)) ∧ (∀ b o, q = some ⟨b, o, none⟩ → smN l ≠ 0 → w.heap.size + 1 < b)) ∨
    (sumG l t = false ∧ e = .returned (.tuple #[summ0, .bool false])))
set_option maxRecDepth 100000 in
set_option maxHeartbeats 4000000 in
/-- Of the kind and the stamp. -/
theorem ssum_read (l : List UInt8) (hl : l.length ≤ 1000) (a : Option Addr) (cap : Nat) (t : Stp) (h1 : l.length ≤ cap) (h2 : cap ≤ maxLen) (w : World) (O : Octs w a l) (hg : goodB l = true) (hk : openK l = 4) (hs : stEq (openS l).e (openS l).s (openS l).a t.e t.s t.a = true) :
    Calls Try.prog 65 #[.slice a l.length cap, sval t] w (SumF l t w) := by
  have hsum : sumG l t = readG (openT l) := by unfold sumG isB; rw [hg, hk, hs]; rfl
  have hTl : (openT l).length ≤ 1000 := by
    rw [(open_good hg).2.2.1, List.length_take, List.length_drop]
    omega
  obtain ⟨W0, hW0⟩ : ∃ W0, (w.alloc (.cells (scells t) 116)).alloc (.cells #[.int .i64 0, .bool false, .slice none 0 0] 83) = W0 := ⟨_, rfl⟩
  have hb0 : Below w.heap.size w W0 := by rw [← hW0]; exact (below_al1 _ _).trans ((below_al1 _ _).mono (by simp))
  have hs0 : W0.heap.size = w.heap.size + 2 := by rw [← hW0]; simp
  have BT : Blk W0 w.heap.size (scells t) := by rw [← hW0]; exact (Blk.new w _ _).alloc _
  have BX : Blk W0 (w.heap.size + 1) #[.int .i64 0, .bool false, .slice none 0 0] := by
    rw [← hW0]
    have := Blk.new (w.alloc (.cells (scells t) 116)) #[.int .i64 0, .bool false, .slice none 0 0] 83
    simpa using this
  have KO := fopen_any l a cap h1 h2 W0 (O.more hb0)
  unfold OpenPost at KO
  rw [(open_good hg).2.2.2] at KO
  obtain ⟨t0, ht0⟩ : ∃ t0, openS l = t0 := ⟨_, rfl⟩
  rw [ht0] at KO hs
  rw [hk] at KO
  have KB := hid (fun a cap W O => bread_any (openT l) a cap (by omega) W O)
  have EG : Hid (∀ w' q c, readG (openT l) = true → smN l ≤ c → c ≤ maxLen → RowP w' q 2 (smN l) (fun i => ecells (smF l i)) → (∀ b o, q = some ⟨b, o, none⟩ → smN l ≠ 0 → w.heap.size + 1 < b) → Below w.heap.size w w' → SumF l t w (.returned (.tuple #[smval (smNx l) (smLa l) q (smN l) c, .bool true])) w') := hid (fun w' q c g1 g2 g3 g4 g5 g6 => ⟨g6, .inl ⟨by rw [hsum]; exact g1, q, c, rfl, g2, g3, g4, g5⟩⟩)
  have EB : Hid (∀ w', readG (openT l) = false → Below w.heap.size w w' → SumF l t w (.returned (.tuple #[summ0, .bool false])) w') := hid (fun w' g1 g6 => ⟨g6, .inr ⟨by rw [hsum]; exact g1, rfl⟩⟩)
  clear ht0 hk hsum hTl
  obtain ⟨P, hP⟩ : ∃ P, P = SumF l t w := ⟨_, rfl⟩
  rw [← hP] at EG EB ⊢
  clear hP
  have fold : ∀ (e : Ending) (W w' : World), RdPost (openT l) W e w' → (readG (openT l) = true ∧ ∃ q c, e = .returned (.tuple #[smval (smNx l) (smLa l) q (smN l) c, .int .i64 0]) ∧ smN l ≤ c ∧ c ≤ maxLen ∧ RowP w' q 2 (smN l) (fun i => ecells (smF l i)) ∧ Below W.heap.size W w' ∧ ∀ b o, q = some ⟨b, o, none⟩ → smN l ≠ 0 → W.heap.size ≤ b) ∨ (readG (openT l) = false ∧ e = .returned (.tuple #[smval 0 false none 0 0, .int .i64 16]) ∧ Below W.heap.size W w') := fun e W w' h => h
  replace fold := hid fold
  generalize smNx l = nx at *
  generalize smLa l = la at *
  generalize smN l = n at *
  generalize smF l = f at *
  generalize hrg : readG (openT l) = rg at *
  clear hrg
  generalize openT l = tt at *
  replace KO := hid KO
  have HBX := hid BX
  have HBT := hid BT
  have D0 := hid hb0
  have hs0h := hid hs0
  clear BX BT O h1 h2 hb0 hs0 hg
  generalize l.length = ll at *
  go_enter Try.func65, Try.ntmps65
  go_wp2_with fail
  refine KO.out.mono ?_
  rintro e w1 ⟨v1, rfl, ⟨qa, qc, rfl, OT, hlc, _⟩, hb1⟩
  have D1 := hid (below2 D0.out hb1 D0.out.size)
  have b2 : Below w1.heap.size w1 (w1.alloc (.cells (scells t0) 116)) := below_al1 _ _
  have HX2 := HBX.out.more (below2 hb1 b2 hb1.size)
  have HT2 := HBT.out.more (below2 hb1 b2 hb1.size)
  have HS2 := Blk.new w1 (scells t0) 116
  have D2 := hid (D1.out.alloc D1.out.size (.cells (scells t0) 116))
  have OT2 := hid (OT.more b2)
  have hW1 := hid (show w.heap.size + 2 ≤ w1.heap.size from by have := hb1.size; have := hs0h.out; omega)
  have hs2 := hid (show w.heap.size + 2 ≤ (w1.alloc (.cells (scells t0) 116)).heap.size from by simp; have := hW1.out; omega)
  generalize hW2 : w1.alloc (.cells (scells t0) 116) = W2 at *
  have HX2h := hid HX2
  clear hb1 KO HBX HBT D0 hW0 OT b2 hlc
  obtain ⟨lx, kx, fx⟩ := HX2
  obtain ⟨lt, kt, ft⟩ := HT2
  obtain ⟨ls, ks, fs⟩ := HS2
  have KR := hid (KB.out qa qc W2 OT2.out)
  clear KB OT2
  generalize tt.length = tn at *
  go_wp2_with fail
  refine KR.out.mono ?_
  intro e w3 hRd
  rcases fold.out e W2 w3 hRd with ⟨g1, q, c, rfl, c1, c2, RQ, hb3, hq⟩ | ⟨g1, rfl, hb3⟩
  · have b4 : Below w3.heap.size w3 (w3.alloc (.cells (smcells nx la q n c) 83)) := below_al1 _ _
    have HX4 := (HX2h.out.more hb3).more b4
    have BS4 := Blk.new w3 (smcells nx la q n c) 83
    have D4 := hid (below2 (below2 D2.out hb3 D2.out.size) b4 (Nat.le_trans D2.out.size hb3.size))
    have RQ4 := hid (RQ.more b4)
    have hqh := hid (fun b o (e : q = some ⟨b, o, none⟩) hn => show w.heap.size + 1 < b from by have := hq b o e hn; have := hs2.out; omega)
    have cc := hid (And.intro c1 c2)
    have g1h := hid g1
    generalize hW4 : w3.alloc (.cells (smcells nx la q n c) 83) = W4 at *
    have HX4h := hid HX4
    clear KR hb3 hq b4 RQ c1 c2 lx kx fx lt kt ft ls ks fs g1 hRd fold
    obtain ⟨lx, kx, fx⟩ := HX4
    obtain ⟨ls, ks, fs⟩ := BS4
    go_wp2_with fail
    have B5 := Blk.fill [.int .i64 nx, .bool la, .slice q n c] 0 HX4h.out (by simp)
    have D5 := hid (below_fill (b := w.heap.size + 1) (Nat.le_succ _) [.int .i64 nx, .bool la, .slice q n c] 0 D4.out)
    have S5 := sole_setAll (S := fun k => k = w.heap.size + 1) (b := w.heap.size + 1) rfl [.int .i64 nx, .bool la, .slice q n c] 0 W4
    have RQ5 := hid (RowP.apart RQ4.out S5 fun b o e hn h => by have := hqh.out b o e hn; omega)
    simp only [setAll, Nat.zero_add, Nat.reduceAdd] at B5 D5 RQ5
    clear S5 lx kx fx ls ks fs
    generalize World.setCell _ _ _ = W5 at *
    obtain ⟨l5, k5, f5⟩ := B5
    refine bodyPost_ret (v := .tuple #[smval nx la q n c, .bool true]) (by simp [results, Try.results65, go_sem, k5, fillC]) rfl (EG.out _ q c g1h.out cc.out.1 cc.out.2 RQ5.out hqh.out D5.out)
  · have b4 : Below w3.heap.size w3 (w3.alloc (.cells #[.int .i64 0, .bool false, .slice none 0 0] 83)) := below_al1 _ _
    have HX4 := (HX2h.out.more hb3).more b4
    have BS4 := Blk.new w3 #[.int .i64 0, .bool false, .slice none 0 0] 83
    have D4 := hid (below2 (below2 D2.out hb3 D2.out.size) b4 (Nat.le_trans D2.out.size hb3.size))
    have g1h := hid g1
    have HX4h := hid HX4
    clear KR hb3 b4 lx kx fx lt kt ft ls ks fs g1 hRd fold
    obtain ⟨lx, kx, fx⟩ := HX4
    obtain ⟨ls, ks, fs⟩ := BS4
    go_wp2_with fail
    have B5 := Blk.fill [.int .i64 0, .bool false, .slice none 0 0] 0 HX4h.out (by simp)
    have D5 := hid (below_fill (b := w.heap.size + 1) (Nat.le_succ _) [.int .i64 0, .bool false, .slice none 0 0] 0 D4.out)
    simp only [setAll, Nat.zero_add, Nat.reduceAdd] at B5 D5
    clear lx kx fx ls ks fs
    generalize World.setCell _ _ _ = W5 at *
    obtain ⟨l5, k5, f5⟩ := B5
    refine bodyPost_ret (v := .tuple #[summ0, .bool false]) (by simp [results, Try.results65, go_sem, k5, fillC]) rfl (EB.out _ g1h.out D5.out)
/-- summary, of any sector. -/
theorem ssum_fun (l : List UInt8) (hl : l.length ≤ 1000) (a : Option Addr) (cap : Nat) (t : Stp) (h1 : l.length ≤ cap) (h2 : cap ≤ maxLen) (w : World) (O : Octs w a l) :
    Calls Try.prog 65 #[.slice a l.length cap, sval t] w (SumF l t w) := by
  have bad : sumG l t = false → (Calls Try.prog 65 #[.slice a l.length cap, sval t] w fun e w' => e = .returned (.tuple #[summ0, .bool false]) ∧ Below w.heap.size w w') → Calls Try.prog 65 #[.slice a l.length cap, sval t] w (SumF l t w) := fun hn h => h.mono fun e w' hh => ⟨hh.2, .inr ⟨hn, hh.1⟩⟩
  cases hg : goodB l with
  | false => exact bad (by unfold sumG isB; rw [hg]; rfl) (ssum_bad l a cap t h1 h2 w O hg)
  | true =>
    cases hk : openK l == 4 with
    | false => exact bad (by unfold sumG isB; rw [hg, hk]; rfl) (ssum_kind l a cap t h1 h2 w O hg (by simpa using hk))
    | true =>
      have hk4 : openK l = 4 := by simpa using hk
      cases hs : stEq (openS l).e (openS l).s (openS l).a t.e t.s t.a with
      | false => exact bad (by unfold sumG isB; rw [hg, hk, hs]; rfl) (ssum_stamp l a cap t h1 h2 w O hg hk4 hs)
      | true => exact ssum_read l hl a cap t h1 h2 w O hg hk4 hs
end Go.Proofs.Ytcklmemnjchdcaa

/-
  Package seglog: what stands on a disk where a part was written.
-/

namespace Go.Proofs.Ytcklmemnjchdcaa
open Go.RowKit Go.Maps
set_option linter.unusedVariables false
set_option linter.unusedSimpArgs false

theorem nodesL_get (L : List ItS) (f : Nat → En) (ep sq : Int) : ∀ n k, k < n → (f k).k = 1 → (nodesL L f ep sq n)[cntW f k]? = some (nsL L (f k).i ⟨ep, sq, ((1 + cntW f k : Nat) : Int)⟩)
  | 0, k, h, _ => absurd h (Nat.not_lt_zero _)
  | n + 1, k, h, hk => by
    have hlen := nodesL_len L f ep sq n
    rcases Nat.lt_succ_iff_lt_or_eq.1 h with h1 | rfl
    · have ih := nodesL_get L f ep sq n k h1 hk
      unfold nodesL
      split
      · rw [List.getElem?_append_left (List.getElem?_eq_some_iff.1 ih).1]; exact ih
      · exact ih
    · unfold nodesL
      rw [if_pos hk, List.getElem?_append_right (by omega), hlen, Nat.sub_self]
      rfl
theorem cntW_inv (f : Nat → En) : ∀ n j, 1 ≤ j → j ≤ cntW f n → ∃ k, k < n ∧ (f k).k = 1 ∧ cntW f k + 1 = j
  | 0, j, h1, h2 => by have : cntW f 0 = 0 := rfl; omega
  | n + 1, j, h1, h2 => by
    rw [cntW_succ] at h2
    by_cases hk : (f n).k = 1
    · rw [if_pos hk] at h2
      by_cases hj : j ≤ cntW f n
      · obtain ⟨k, a, b, c⟩ := cntW_inv f n j h1 hj
        exact ⟨k, by omega, b, c⟩
      · exact ⟨n, by omega, hk, by omega⟩
    · rw [if_neg hk] at h2
      obtain ⟨k, a, b, c⟩ := cntW_inv f n j h1 (by omega)
      exact ⟨k, by omega, b, c⟩
/-- A node's sector, as it was written. -/
theorem sec_of {w : World} {p : Option Addr} {cap : Nat} {L : List ItS} (H : ItsOk w p cap L) (id : Int) (t : Stp) (h0 : 1 ≤ id) (h1 : id ≤ 255) (hC : nsC L id t = 0) : fxN L id < L.length ∧ fxI L id = (fxN L id : Int) ∧ NodeSec (nsL L id t) t id (itA L (fxN L id)).nd := by
  unfold nsC at hC
  by_cases e1 : fxN L id = L.length
  · rw [if_pos e1] at hC; cases hC
  · rw [if_neg e1] at hC
    have hl : fxN L id ≤ L.length := List.findIdx_le_length
    have hlt : fxN L id < L.length := by omega
    by_cases e2 : (itA L (fxN L id)).nd.good = true
    · rw [if_pos e2] at hC
      have hs := sealL_ok hC
      have hz := sealC_zero hC
      have hL : nsL L id t = sealB 5 t (nsT (itA L (fxN L id)) id) := by unfold nsL; rw [if_neg e1, if_pos e2]; exact hs.1
      obtain ⟨_, g1, g2, g3, g4, _⟩ := seal_good 5 t _ hz.1 hz.2
      refine ⟨hlt, by unfold fxI; rw [if_neg e1], ?_⟩
      rw [hL]
      refine ⟨hs.2, g1, g2, g3, h0, h1, (H.nd _ (show itA L (fxN L id) ∈ L from atR_mem (T := itT) L _ hlt)).ok, e2, ?_⟩
      rw [g4]
      unfold nsT
      rw [show IntKind.u8.wrap id = id from IntWalk.u8_in _ ⟨by omega, h1⟩]
    · rw [if_neg e2] at hC; cases hC
/-- What stands there. -/
structure Stands (R : Int → List UInt8) (z ep sq : Int) (nx : Int) (la : Bool) (n : Nat) (f : Nat → En) (L : List ItS) : Prop where
  head : R z = sealB 4 ⟨ep, sq, 0⟩ (smB nx la n f)
  node : ∀ k, k < n → (f k).k = 1 → R (z + ((cntW f k : Int) + 1)) = nsL L (f k).i ⟨ep, sq, ((1 + cntW f k : Nat) : Int)⟩
theorem stands_of (R : Int → List UInt8) (z ep sq nx : Int) (la : Bool) (n : Nat) (f : Nat → En) (L : List ItS) (Xs : List OcS) (hX : Xs.map OcS.l = sealB 4 ⟨ep, sq, 0⟩ (smB nx la n f) :: nodesL L f ep sq n) : Stands (wrote R z Xs Xs.length) z ep sq nx la n f L := by
  have hlen : Xs.length = cntW f n + 1 := by
    have := congrArg List.length hX
    simpa [nodesL_len] using this
  have hat : ∀ j, j < Xs.length → wrote R z Xs Xs.length (z + (j : Int)) = (Xs.map OcS.l).getD j [] := fun j hj => by
    unfold wrote
    rw [if_pos ⟨by omega, by omega⟩, show (z + (j : Int) - z).toNat = j by omega, ocA_eq Xs j hj]
    simp [List.getD_eq_getElem?_getD, hj]
  refine ⟨?_, fun k hk h1 => ?_⟩
  · have := hat 0 (by omega)
    rw [hX] at this
    simpa using this
  · have hm := cntW_mono f (show k + 1 ≤ n by omega)
    rw [cntW_succ, if_pos h1] at hm
    have := hat (cntW f k + 1) (by omega)
    rw [hX, List.getD_cons_succ, List.getD_eq_getElem?_getD, nodesL_get L f ep sq n k hk h1] at this
    rw [show z + ((cntW f k : Int) + 1) = z + ((cntW f k + 1 : Nat) : Int) by omega]
    exact this
/-- A part, whole. -/
theorem part_whole {w w' wz : World} {v : Value} {R : Int → List UInt8} {z ep sq nx : Int} {la : Bool} {n : Nat} {f : Nat → En} {L : List ItS} {p : Option Addr} {cap : Nat} (S : Stands R z ep sq nx la n f L) (O : SectsOk w w' v nx la n f ep sq L) (H : ItsOk wz p cap L) : Part R z ⟨ep, sq, 0⟩ nx la n f (fun _ => false) := by
  refine ⟨S.head, O.good, O.fits, O.room, rfl, fun k _ _ h => (by cases h), fun k hk h1 _ => ?_⟩
  have hb := (bCk_zero O.good).2.2.2 k hk
  have := (sec_of H (f k).i _ hb.2.1 hb.2.2 (O.nodes k hk h1)).2.2
  refine ⟨(itA L (fxN L (f k).i)).nd, ?_⟩
  rw [show z + ((cntW f k + 1 : Nat) : Int) = z + ((cntW f k : Int) + 1) by omega, S.node k hk h1, show ((cntW f k + 1 : Nat) : Int) = ((1 + cntW f k : Nat) : Int) by omega]
  exact this
end Go.Proofs.Ytcklmemnjchdcaa

/-
  Package seglog: Sectors, and when it answers well.
-/

namespace Go.Proofs.Ytcklmemnjchdcaa
open Go.RowKit
set_option linter.unusedVariables false
set_option linter.unusedSimpArgs false

/-- All can be written. -/
structure SectsCan (nx : Int) (la : Bool) (n : Nat) (f : Nat → En) (ep sq : Int) (L : List ItS) : Prop where
  good : bCk nx n f = 0
  nodes : nodesOk L f ep sq n
  fits : stFits 4 ⟨ep, sq, 0⟩
  room : (smB nx la n f).length ≤ 238
theorem sealC_ok {kind : Int} {t : Stp} {n : Nat} (h1 : stFits kind t) (h2 : n ≤ 238) : sealC kind t n = 0 := by
  unfold sealC
  rw [if_pos h1, if_pos h2]
set_option maxRecDepth 100000 in
set_option maxHeartbeats 4000000 in
theorem sectors_can (nx : Int) (la : Bool) (p : Option Addr) (n cap : Nat) (f : Nat → En) (h1 : n ≤ cap) (h2 : cap ≤ maxLen) (hfw : ∀ i, i < n → (Lit.int .i64 (f i).i).wf = true) (ep sq : Int) (L : List ItS) (lp : Option Addr) (lc : Nat) (w : World) (HR : RowP w p 2 n (fun i => ecells (f i))) (HL : ItsOk w lp lc L) :
    Calls Try.prog 21 #[smval nx la p n cap, .int .i64 ep, .int .i64 sq, .slice lp L.length lc] w fun e w' => ∃ v C, e = .returned (.tuple #[v, .int .i64 C]) ∧ Below w.heap.size w w' ∧ (C = 0 → SectsOk w w' v nx la n f ep sq L) ∧ (SectsCan nx la n f ep sq L → C = 0) := by
  have hb0 : Below w.heap.size w (w.alloc (.cells (smcells nx la p n cap) 83)) := below_al1 _ _
  have B0 := Blk.new w (smcells nx la p n cap) 83
  have HR0 := hid (HR.more hb0)
  have HL0 := hid (HL.more hb0)
  have KP := hid (bput_any nx la p n cap f h1 h2 _ (HR.more hb0))
  have D0 := hid hb0
  generalize hW0 : w.alloc (.cells (smcells nx la p n cap) 83) = W0 at *
  have B0h := hid B0
  have hn63 : (n : Int) ≤ 9223372036854775807 := by unfold maxLen at h2; omega
  have hfwh := hid hfw
  have HRo := hid HR
  have HLo := hid HL
  clear hb0 HR HL h1 h2 hfw
  obtain ⟨l0, m0, f0⟩ := B0
  go_enter Try.func21, Try.ntmps21
  go_wp2_with fail
  refine KP.out.mono ?_
  rintro e w1 ⟨v1, rfl, hF⟩
  have hb1 := hF.below
  have D1 := hid (below2 D0.out hb1 D0.out.size)
  obtain ⟨y1, rfl, hy1, hy1t, hy1b⟩ := fresh_oc2 hF
  have B1 := B0h.out.more hb1
  have HR1 := hid (HR0.out.more hb1)
  have HL1 := hid (HL0.out.more hb1)
  have hyb := hid (fun b o e => show w.heap.size ≤ b from by have := hy1b b o e; have := D0.out.size; omega)
  clear KP HR0 HL0 B0h l0 m0 f0 hF hb1 hy1b hW0
  by_cases hC : bCk nx n f = 0
  · have hy1' := hid (show y1.l = smB nx la n f from by rw [hy1]; unfold smL; rw [if_pos hC])
    have hyt := hid (show y1.there w1 from hy1t (by unfold smL; rw [if_pos hC]; intro h; have := congrArg List.length h; simp [smB, sheadB_length] at this))
    have hbk := bCk_zero hC
    have hn64 : n ≤ 64 := hbk.2.2.1
    rw [hC]
    replace hC := hid hC
    replace hbk := hid hbk
    have S1 := hid (SecAt.start (w := w) (W := w1) D1.out)
    have mk : ∀ w, (Instr.makeSlice 53 (.int .i64 1) (.int .i64 1)).run Try.prog w = .ok (.slice (some ⟨w.heap.size, 0, none⟩) 1 1) (w.alloc (.cells (madeCells #[.slice none 0 0] 1) 51)) := fun w => run_nils 1 (by omega) w
    have b2 : Below w1.heap.size w1 (w1.alloc (.cells (madeCells #[.slice none 0 0] 1) 51)) := below_al1 _ _
    have B2 := B1.more b2
    have B2h := hid B2
    have HR2 := hid (HR1.out.more b2)
    have HL2 := hid (HL1.out.more b2)
    have hyt2 := hid (hyt.out.more b2)
    have hs1 : w1.heap.size < (w1.alloc (.cells (madeCells #[.slice none 0 0] 1) 51)).heap.size := by simp
    have hyg := hid (fun b o (e : y1.a = some ⟨b, o, none⟩) => show b < w1.heap.size from by
      rcases hyt.out.1 with h | ⟨b', o', e', h, _⟩
      · have : y1.l = [] := h
        rw [hy1'.out] at this
        have := congrArg List.length this
        simp [smB, sheadB_length] at this
      · rw [e] at e'; cases e'; exact h)
    clear b2 HR1 HL1 hy1 hy1t B2
    obtain ⟨l0, m0, f0⟩ := B1
    go_wp2_with fail
    clear l0 m0 f0
    generalize hgw : w1.heap.size = gw at *
    generalize w1.alloc (.cells (madeCells #[.slice none 0 0] 1) 51) = w2 at *
    go_loopw [12, 29] (fun v i wr => ∃ k : Nat, k ≤ n ∧ i = .int .i64 (k : Int) ∧ ∃ g c Xs, v = .slice (some ⟨g, 0, none⟩) (Xs.length + 1) c ∧ SecAt w wr g c Xs (nodesL L f ep sq k) ∧ nodesOk L f ep sq k ∧ gw ≤ g ∧ Below gw w2 wr) (fun _ i _ => n - (intOf i).toNat)
    case atStart => exact ⟨0, Nat.zero_le _, rfl, gw, 1, [], rfl, S1.out, nofun, Nat.le_refl _, Below.refl _ _⟩
    case round =>
      obtain ⟨k, hk, rfl, g, c, Xs, rfl, SA, hok, hgg, hbr⟩ := hrel
      by_cases hlt : k < n
      · have hlt' : (k : Int) < (n : Int) := by omega
        obtain ⟨be, oe, hqe, re⟩ := RowP.row (HRo.out.more SA.D) (by omega)
        have z0 : wr.cell? ⟨be, oe + k * 2, none⟩ = some (.int .i64 (f k).k) := re.at0 hlt rfl
        have z1 : wr.cell? ⟨be, oe + k * 2 + 1, none⟩ = some (.int .i64 (f k).i) := re.at1 hlt rfl
        subst hqe
        have hlth := hid hlt
        have b3 : Below wr.heap.size wr (wr.alloc (.cells #[.int .i64 (f k).k, .int .i64 (f k).i] 70)) := below_al1 _ _
        have BE := Blk.new wr #[.int .i64 (f k).k, .int .i64 (f k).i] 70
        have hnl := hid (show nodesL L f ep sq (k + 1) = if (f k).k = 1 then nodesL L f ep sq k ++ [nsL L (f k).i ⟨ep, sq, ((1 + cntW f k : Nat) : Int)⟩] else nodesL L f ep sq k from rfl)
        have hXn : Xs.length = cntW f k := by rw [← nodesL_len L f ep sq k, ← SA.txt, List.length_map]
        have hX64 : Xs.length ≤ 64 := by have := cntW_le f k; omega
        have SA3 := hid (SA.more b3)
        have HL3 := hid (HLo.out.more (SA.more b3).D)
        have hrb := hid (hbr.trans (b3.mono (show gw ≤ wr.heap.size by have := SA.row.within g rfl; omega)))
        by_cases hk1 : (f k).k = 1
        · have KS := hid (nodesec_any L lp lc (f k).i (hfwh.out k hlt) ⟨ep, sq, ((Xs.length : Int) + 1)⟩ _ HL3.out)
          have hst : ((1 + cntW f k : Nat) : Int) = ((Xs.length : Int) + 1) := by omega
          rw [if_pos hk1, hst] at hnl
          have hok2 := hid (fun (hz : nsC L (f k).i ⟨ep, sq, ((Xs.length : Int) + 1)⟩ = 0) => show nodesOk L f ep sq (k + 1) from fun j hj e => by
            rcases Nat.lt_succ_iff_lt_or_eq.1 hj with h | rfl
            · exact hok j h e
            · rw [hst]; exact hz)
          have hcb := hid (fun (hc : SectsCan nx la n f ep sq L) => (show nsC L (f k).i ⟨ep, sq, ((Xs.length : Int) + 1)⟩ = 0 from by rw [← hst]; exact hc.nodes k hlt hk1))
          have hl256 := hid (fun (hz : nsC L (f k).i ⟨ep, sq, ((Xs.length : Int) + 1)⟩ = 0) => nsL_len hz)
          generalize (f k).k = ek at *
          subst hk1
          have BEh := hid BE
          replace hX64 := hid hX64
          have hsz : wr.heap.size < (wr.alloc (.cells #[.int .i64 1, .int .i64 (f k).i] 70)).heap.size := by simp
          clear re SA hok hst hXn b3 hbr hlt
          obtain ⟨le, me, fe⟩ := BE
          generalize hW3 : wr.alloc (.cells #[.int .i64 1, .int .i64 (f k).i] 70) = W3 at *
          go_wp2_with fail
          refine KS.out.mono ?_
          rintro e W4 ⟨v4, rfl, hF⟩
          have hb4 := hF.below
          obtain ⟨y4, rfl, hy4, hy4t, hy4b⟩ := fresh_oc2 hF
          have D4 := hid (below2 SA3.out.D hb4 SA3.out.D.size)
          have hfr := hid (hrb.out.trans (hb4.mono (show gw ≤ W3.heap.size by have := SA3.out.row.within g rfl; omega)))
          clear KS hF le me fe z0 z1 hW3
          generalize nsC L (f k).i ⟨ep, sq, ((Xs.length : Int) + 1)⟩ = C at *
          generalize nsL L (f k).i ⟨ep, sq, ((Xs.length : Int) + 1)⟩ = lz at *
          by_cases hC0 : C = 0
          · subst hC0
            have hl : Hid (lz.length = 256) := hid (by first | exact hl256.out | exact hl256.out rfl)
            have hok3 : Hid (nodesOk L f ep sq (k + 1)) := hid (by first | exact hok2.out | exact hok2.out rfl)
            obtain ⟨g5, c5, W5, hr5, SA5, S5, hg5⟩ := SA3.out.next (by have := hX64.out; omega) y4 hb4 (hy4t (by intro h; have := hl.out; rw [h] at this; cases this)) hy4b
            have E5 := hid (And.intro SA5 (And.intro (show gw ≤ g5 from by rcases hg5 with r | r; omega; (have := SA3.out.row.within g rfl; have := hb4.size; omega)) (hfr.out.trans (S5.below (B := gw) (Nat.le_trans (show gw ≤ W3.heap.size by have := SA3.out.row.within g rfl; omega) hb4.size) fun j e => by omega))))
            rw [hy4] at E5 hr5
            have hr5h := hid hr5
            clear hr5 SA5 S5 hg5 hy4t hy4b hb4
            go_wp2_with (at_builtin; refine Lib.wpList_append_run _ rfl _ _ _ _ rfl _ _ rfl rfl _ _ (hr5h.out _) ?_)
            go_roundw
            case rel => exact ⟨k + 1, by have := hlth.out; omega, by simp, g5, c5, Xs ++ [y4], by rw [List.length_append]; rfl, by rw [hnl.out]; exact E5.out.1, hok3.out, E5.out.2.1, E5.out.2.2⟩
            case measure => have := hlth.out; simp [intOf]; omega
          · have hC1 : (C == 0) = false := by rw [beq_eq_false_iff_ne]; exact hC0
            have hC0h := hid hC0
            clear hC0 hl256 hok2 hy4t hy4b hb4
            go_wp2_with fail
            go_ret2
            exact ⟨_, C, rfl, D4.out, fun h => absurd h hC0h.out, fun hc => hcb.out hc⟩
        · have hk1' : ((f k).k == 1) = false := by rw [beq_eq_false_iff_ne]; exact hk1
          rw [if_neg hk1] at hnl
          have hok2 := hid (show nodesOk L f ep sq (k + 1) from fun j hj e => by
            rcases Nat.lt_succ_iff_lt_or_eq.1 hj with h | rfl
            · exact hok j h e
            · exact absurd e hk1)
          clear re SA hok hXn hX64 b3 hbr hlt hk1 HL3
          generalize (f k).k = ek at *
          generalize (f k).i = ei at *
          obtain ⟨le, me, fe⟩ := BE
          go_wp2_with fail
          go_roundw
          case rel => exact ⟨k + 1, by have := hlth.out; omega, by simp, g, c, Xs, rfl, by rw [hnl.out]; exact SA3.out, hok2.out, hgg, hrb.out⟩
          case measure => have := hlth.out; simp [intOf]; omega
      · obtain rfl : k = n := by omega
        have hlt' : ¬ (k : Int) < (k : Int) := by omega
        have SAh := hid SA
        have yw : y1.there wr := oc_sole hyt2.out (below_sole hbr) fun b o e h => by have := hyg.out b o e; omega
        have KS := hid (seal_any 4 ⟨ep, sq, 0⟩ y1.l y1.a y1.cap (by have := yw.2.1; have := yw.2.2; unfold maxLen at this; omega) wr yw.1)
        have hokh := hid hok
        have hygr := hid (fun b o (e : y1.a = some ⟨b, o, none⟩) => show b ≠ g from by have := hyg.out b o e; omega)
        clear SA hok hbr hlt hk
        go_wp2_with fail
        refine KS.out.mono ?_
        rintro e W4 ⟨v4, rfl, hF⟩
        have hb4 := hF.below
        obtain ⟨y4, rfl, hy4, hy4t, hy4b⟩ := fresh_oc2 hF
        have SA4 := SAh.out.more hb4
        have hgw := hid (show ∀ b o, y4.a = some ⟨b, o, none⟩ → w.heap.size ≤ b ∧ b < W4.heap.size ∧ b ≠ g from fun b o e => by have := hy4b b o e; have := SAh.out.row.within g rfl; omega)
        obtain ⟨cur, BG, hcg⟩ := row_blk1 rfl SA4.row (by simp)
        have D9 := hid (show Below w.heap.size w (W4.setCell ⟨g, 0, none⟩ (.slice y4.a y4.l.length y4.cap)) from Below.setCell (p := ⟨g, 0, none⟩) SA4.D (SAh.out.row.within g rfl).1 _)
        have SA4h := hid SA4
        obtain ⟨u0, hu0⟩ : ∃ u, cur[0]? = some u := ⟨_, Array.getElem?_eq_getElem (by simp at hcg; omega)⟩
        replace hcg := hid hcg
        clear KS hF SA4 hb4 hy4b
        obtain ⟨lg, mg, fg⟩ := BG
        by_cases hC0 : sealC 4 ⟨ep, sq, 0⟩ y1.l.length = 0
        · have hz := sealC_zero hC0
          have h4l : y4.l = sealB 4 ⟨ep, sq, 0⟩ (smB nx la k f) := by rw [hy4, (sealL_ok hC0).1, hy1'.out]
          have h4t : y4.there W4 := hy4t (by rw [(sealL_ok hC0).1]; intro h; have := (sealL_ok hC0).2; rw [h] at this; cases this)
          have E := hid (SA4h.out.head y4 h4t hgw.out)
          have EE : Hid (SectsOk w (W4.setCell ⟨g, 0, none⟩ (.slice y4.a y4.l.length y4.cap)) (.slice (some ⟨g, 0, none⟩) (Xs.length + 1) c) nx la k f ep sq L) := hid ⟨hC.out, hokh.out, hz.1, by rw [← hy1'.out]; exact hz.2, g, c, y4 :: Xs, rfl, E.out.1, by rw [List.map_cons, h4l, SA4h.out.txt], E.out.2.1⟩
          rw [hC0]
          clear hC0 hz h4l h4t hy4t hy4 E
          go_wp2_with fail
          go_ret2
          exact ⟨_, 0, rfl, D9.out, fun _ => EE.out, fun _ => rfl⟩
        · have hcb2 := hid (fun (hc : SectsCan nx la k f ep sq L) => (show sealC 4 ⟨ep, sq, 0⟩ y1.l.length = 0 from sealC_ok hc.fits (by rw [hy1'.out]; exact hc.room)))
          generalize sealC 4 ⟨ep, sq, 0⟩ y1.l.length = C at *
          have hC1 : (C == 0) = false := by rw [beq_eq_false_iff_ne]; exact hC0
          have hC0h := hid hC0
          clear hC0 hy4t hy4
          go_wp2_with fail
          go_ret2
          exact ⟨_, C, rfl, D9.out, fun h => absurd h hC0h.out, fun hc => hcb2.out hc⟩
  · have hC' : (bCk nx n f == 0) = false := by rw [beq_eq_false_iff_ne]; exact hC
    replace hC := hid hC
    have hcg := hid (fun (hc : SectsCan nx la n f ep sq L) => hc.good)
    generalize bCk nx n f = C at *
    go_wp2_with fail
    go_ret2
    exact ⟨_, C, rfl, D1.out, fun h => absurd h hC.out, fun hc => hcg.out hc⟩
end Go.Proofs.Ytcklmemnjchdcaa

namespace Go.Proofs.Ytcklmemnjchdcaa
open Go.RowKit Go.Maps
set_option linter.unusedVariables false
set_option linter.unusedSimpArgs false

set_option maxRecDepth 100000 in
set_option maxHeartbeats 2000000 in
theorem segwrite_far (m : DM) (b : Nat) (K : Nat → Prop) (w : World) (D : DiskM w b m K) {N : Nat} {R : Int → List UInt8} (Q : Quiet m N R) {c : Nat} (S : Soft m c) (hc : c ≤ 900) (z : Int) (h0 : 0 ≤ z) (xp : Option Addr) (xc : Nat) (Xs : List OcS) (hxn : Xs.length ≤ 100) (h1 : z + (Xs.length : Int) ≤ (N : Int)) (hN : N ≤ 4096) (RX : RowOf ocT w xp Xs) (hxp : ∀ b' o, xp = some ⟨b', o, none⟩ → Xs.length ≠ 0 → ¬ K b')
    (hX : ∀ x ∈ Xs, x.there w ∧ x.l.length = 256 ∧ ∀ b' o, x.a = some ⟨b', o, none⟩ → ¬ K b') :
    Calls Try.prog 23 #[.pointer (some ⟨b, 0, none⟩), .int .i64 z, .slice xp Xs.length xc] w fun e w' => e = .returned (.int .i64 0) ∧ ∃ m' K', DiskM w' b m' K' ∧ Sole K w w' ∧ (∀ k, K' k → K k ∨ w.heap.size ≤ k) ∧ Quiet m' N (wrote R z Xs Xs.length) ∧ Soft m' (c + Xs.length) := by
  have hz : (Lit.int .i64 z).wf = true := by
    rw [show z = wrap64 z by unfold wrap64; omega]
    exact wrap64_wf _
  have Dh := hid D
  have Qh := hid Q
  have Sh := hid S
  have RXh := hid RX
  have hXh := hid hX
  have hxph := hid hxp
  have hxlt := hid (fun b' o (e : xp = some ⟨b', o, none⟩) (hn : Xs.length ≠ 0) => show b' < w.heap.size from by
    rcases RX with h | ⟨b9, o9, e9, R9⟩
    · exact absurd h hn
    · rw [e9] at e; cases e; exact R9.lt)
  clear D Q S RX hX hxp
  go_enter Try.func23, Try.ntmps23
  go_wp2_with fail
  go_loopw [12] (fun i wr => ∃ k : Nat, k ≤ Xs.length ∧ i = .int .i64 (k : Int) ∧ ∃ m' K', DiskM wr b m' K' ∧ Sole K w wr ∧ (∀ k, K' k → K k ∨ w.heap.size ≤ k) ∧ Quiet m' N (wrote R z Xs k) ∧ Soft m' (c + k)) (fun i _ => Xs.length - (intOf i).toNat)
  case atStart => exact ⟨0, Nat.zero_le _, rfl, m, K, Dh.out, Sole.refl _ _, fun k h => .inl h, by rw [wrote_zero]; exact Qh.out, Sh.out⟩
  case round =>
    obtain ⟨k, hk, rfl, m1, K1, D1, S1, hK1, Q1, T1⟩ := hrel
    by_cases hlt : k < Xs.length
    · have hlt' : (k : Int) < (Xs.length : Int) := by omega
      have RXr : RowOf ocT wr xp Xs := r_rowp_sole RXh.out S1 fun b' o e => by
        by_cases hn : Xs.length = 0
        · omega
        · exact hxph.out b' o e hn
      obtain ⟨bx, ox, hq, r⟩ := RowP.row RXr (by omega)
      have z0 : wr.cell? ⟨bx, ox + k, none⟩ = some (.slice (ocA Xs k).a (ocA Xs k).l.length (ocA Xs k).cap) := by
        have := r.at0 hlt (v := .slice (ocA Xs k).a (ocA Xs k).l.length (ocA Xs k).cap) rfl
        simpa [ocT] using this
      subst hq
      obtain ⟨hx1, hx2, hx3⟩ := hXh.out _ (ocA_mem Xs k hlt)
      have hxw : (ocA Xs k).there wr := oc_sole hx1 S1 fun b' o e => hx3 b' o e
      have hzk : wrap64 (z + (k : Int)) = z + (k : Int) := IntWalk.wrap64_in _ ⟨by omega, by omega⟩
      have hzw : (Lit.int .i64 (z + (k : Int))).wf = true := by rw [← hzk]; exact wrap64_wf _
      have hxb : ∀ b' o, (ocA Xs k).a = some ⟨b', o, none⟩ → b' < w.heap.size := fun b' o e => by
        rcases hx1.1 with h | ⟨b9, o9, e9, h9, _⟩
        · rw [h] at hx2; cases hx2
        · rw [e9] at e; cases e; exact h9
      have KW := hid (wr_done m1 b (z + (k : Int)) K1 wr D1 Q1 T1 (by omega) hzw (by omega) (by omega) (ocA Xs k) hxw (fun b' o e h => (hK1 b' h).elim (hx3 b' o e) (fun h' => by have := hxb b' o e; omega)) hx2)
      have E1 := hid (And.intro S1 hK1)
      have hlth := hid hlt
      have hst := hid (fun z' => wrote_succ R z Xs k z')
      clear r RXr hx1 hx2 hx3 hxw hzw hxb D1 S1 hK1 Q1 T1 hlt
      generalize ocA Xs k = x at *
      go_wp2_with fail
      refine KW.out.mono ?_
      rintro e w2 ⟨rfl, m2, K2, D2, S2, hK2, Q2, T2⟩
      have E2 := hid (show ∃ m' K', DiskM w2 b m' K' ∧ Sole K w w2 ∧ (∀ k, K' k → K k ∨ w.heap.size ≤ k) ∧ Quiet m' N (wrote R z Xs (k + 1)) ∧ Soft m' (c + (k + 1)) from ⟨m2, K2, D2, E1.out.1.trans' S2 (fun j hj e => (E1.out.2 j e).resolve_right (by omega)), fun j hj => (hK2 j hj).elim (E1.out.2 j) (fun h => .inr (Nat.le_trans E1.out.1.size h)),
        ⟨Q2.off, Q2.tf, Q2.len, fun z' => by rw [Q2.cur, hst.out z']⟩, T2⟩)
      clear D2 S2 hK2 Q2 T2 KW z0
      go_wp2_with fail
      go_roundw
      case rel => exact ⟨k + 1, by have := hlth.out; omega, by simp, E2.out⟩
      case measure => have := hlth.out; simp [intOf]; omega
    · obtain rfl : k = Xs.length := by omega
      have hlt' : ¬ (Xs.length : Int) < (Xs.length : Int) := by omega
      have E := hid (show ∃ m' K', DiskM wr b m' K' ∧ Sole K w wr ∧ (∀ k, K' k → K k ∨ w.heap.size ≤ k) ∧ Quiet m' N (wrote R z Xs Xs.length) ∧ Soft m' (c + Xs.length) from ⟨m1, K1, D1, S1, hK1, Q1, T1⟩)
      clear D1 S1 hK1 Q1 T1 hlt
      go_wp2_with fail
      go_ret
      exact ⟨rfl, E.out⟩
end Go.Proofs.Ytcklmemnjchdcaa
