/-
  Layer 22: a clone, changed, changes nothing.
-/
import Derived.Test.YtpgibngohbohdaaGroveIds
import Derived.Test.YtpgibngohbohdaaNodeSame
namespace Go.Proofs.Ytpgibngohbohdaa
open Go.RowKit Go.Maps
set_option linter.unusedVariables false
set_option linter.unusedSimpArgs false

theorem own_any {w : World} {base : Nat} {e : TypeId} {size : Nat} {v : Value} {n : Nat} {xs : List Value} (h : w.ownsRow base e size v n xs) (hn : n ≠ 0) : ∃ g cap cur, v = .slice (some ⟨g, 0, none⟩) n cap ∧ base ≤ g ∧ n ≤ cap ∧ Blk w g cur ∧ cur.size = cap * size := by
  rcases h.2 with ⟨_, h0⟩ | ⟨g, cap, cur, rfl, hb, hg, h1, h2, h3, h4⟩
  · exact absurd h0 hn
  · exact ⟨g, cap, cur, rfl, hb, h1, ⟨(h.lt g rfl).2, fun o => by simp [World.cell?, hg], fun o => by simp [World.frozen?, hg]⟩, by simpa using h3⟩
theorem row_apart9 {w w' : World} {p : Option Addr} {sz n : Nat} {f : Nat → List Value} {b2 : Nat} (h : RowP w p sz n f) (hs : Sole (fun k => k = b2) w w') (hn : ∀ b o, p = some ⟨b, o, none⟩ → n ≠ 0 → b ≠ b2) : RowP w' p sz n f := by
  rcases h with h | ⟨b, o, e, R⟩
  · exact .inl h
  · by_cases h0 : n = 0
    · exact .inl h0
    · exact .inr ⟨b, o, e, Nat.lt_of_lt_of_le R.lt hs.size, fun i hi j v hv => (hs.cell R.lt (hn b o e h0)).trans (R.cell i hi j v hv)⟩
theorem meas_up9 (N k : Nat) (h : k < N) (z : Int) (hz : z = ((k + 1 : Nat) : Int)) : N - (intOf (.int .i64 z)).toNat < N - (intOf (.int .i64 (k : Int))).toNat := by
  subst hz
  show N - (((k + 1 : Nat) : Int)).toNat < N - ((k : Int)).toNat
  rw [Int.toNat_natCast, Int.toNat_natCast]
  omega
theorem nSame_one (lf : Bool) (n : Nat) (f : Nat → Pt) (nx : Int) (k c : Nat → Int) : nSame lf lf n n f f nx nx k k c c = true := by
  unfold nSame
  simp [eqA_self, allP_self f f n (fun _ _ => rfl)]
theorem gnew_m (w : World) : Calls Try.prog 26 #[] w fun e w' => ∃ g b, e = .returned (.pointer (some ⟨g, 0, none⟩)) ∧ w.heap.size ≤ g ∧ w.heap.size ≤ b ∧ GroveM w' g b 0 (.map []) ∧ Below w.heap.size w w' :=
  (gnew w).mono fun e w' ⟨he, hw⟩ => by
    have b1 := below_one w (.map #[] 0)
    have b2 := below_one (w.alloc (.map #[] 0)) (.cells #[.map (some w.heap.size)] 123)
    have M1 := World.ownsMap_made (H := Value) w Try.prog 3 heldR
    have hs : (w.alloc (.map #[] 0)).heap.size = w.heap.size + 1 := by simp
    refine ⟨w.heap.size + 1, w.heap.size, he, by omega, Nat.le_refl _, ?_, ?_⟩
    · rw [hw]
      refine ⟨?_, gmap_sole M1 (Sole.made (S := fun _ => False) b2) (fun h => h), by omega⟩
      have := Blk.new (w.alloc (.map #[] 0)) #[.map (some w.heap.size)] 123
      rwa [hs] at this
    · rw [hw]
      exact below2 b1 b2 b1.size
/-- A second Put at one and the same Id. -/
theorem gput_again (g b : Nat) (D : DataW Value) (w : World) (G : GroveM w g b 1 D) (hI : IsMap D) (id : Int) (hw : (Lit.int .i64 id).wf = true) (hD : ∀ z : Int, Maps.has D (.int .i64 z) = decide (z = id)) (lf : Bool) (q : Option Addr) (m cap : Nat) (f : Nat → Pt) (hf : ∀ i, i < m → (f i).ok) (nx : Int) (k c : Nat → Int) (h1 : m ≤ cap) (h2 : cap ≤ maxLen)
    (HR : RowP w q 4 m (fun i => pcells (f i))) :
    Calls Try.prog 27 #[.pointer (some ⟨g, 0, none⟩), .int .i64 id, ndval lf (.slice q m cap) nx k c] w fun e w' => ∃ (x : Int) (n' : Nat) (D' : DataW Value), e = .returned (.int .i64 x) ∧ n' ≤ 2 ∧ GroveM w' g b n' D' ∧ Sole (fun k => k = b) w w' ∧ ∀ z : Int, Maps.has D' (.int .i64 z) = decide (z = id) := by
  by_cases h : nodeB lf m f nx k c = true ∧ (1 ≤ id ∧ id < 256)
  · refine (gput_ok g b 1 D w G (by omega) id h.2.1 h.2.2 lf q m cap f hf nx k c h1 h2 HR h.1).mono ?_
    rintro e w' ⟨rfl, q', c', _, G', S⟩
    refine ⟨0, 2, _, rfl, Nat.le_refl _, G', S, fun z => ?_⟩
    by_cases hz : z = id
    · subst hz
      rw [has_put_same hI (glawK.key (keyOf_int_mk (P := Try.prog) Try.underlying3 hw))]
      simp
    · rw [has_put_other (fun e => hz (by cases e; rfl)), hD z]
  · refine (gput_bad g b 1 D w G id lf q m cap f hf nx k c h1 h2 HR ?_).mono ?_
    · cases hB : nodeB lf m f nx k c with
      | false => exact .inl rfl
      | true => exact .inr fun h' => h ⟨hB, h'⟩
    · rintro e w' ⟨⟨x, rfl, _⟩, hb⟩
      exact ⟨x, 1, D, rfl, by omega, G.more hb, Sole.made hb, hD⟩

set_option maxRecDepth 100000 in
set_option maxHeartbeats 8000000 in
theorem groveApart (id : Int) (i0 : 0 ≤ id) (i1 : id ≤ 255) (lf : Bool) (q : Option Addr) (m cap : Nat) (f : Nat → Pt) (hf : ∀ i, i < m → (f i).ok) (nx : Int) (k c : Nat → Int) (h1 : m ≤ cap) (h2 : cap ≤ maxLen)
    (lf' : Bool) (q' : Option Addr) (m' cap' : Nat) (f' : Nat → Pt) (hf' : ∀ i, i < m' → (f' i).ok) (nx' : Int) (k' c' : Nat → Int) (h1' : m' ≤ cap') (h2' : cap' ≤ maxLen) (w : World) (HR : RowP w q 4 m (fun i => pcells (f i))) (HR' : RowP w q' 4 m' (fun i => pcells (f' i))) :
    Calls Try.prog 6 #[.int .u8 id, ndval lf (.slice q m cap) nx k c, ndval lf' (.slice q' m' cap') nx' k' c'] w fun e w' => e = .returned (.bool true) ∧ Below w.heap.size w w' := by
  have hw : (Lit.int .i64 id).wf = true := by rw [show id = wrap64 id by unfold wrap64; omega]; exact wrap64_wf _
  have hwn : (Lit.int .i64 (id + 1)).wf = true := by rw [show id + 1 = wrap64 (id + 1) by unfold wrap64; omega]; exact wrap64_wf _
  have hadd : wrap64 (id + 1) = id + 1 := IntWalk.wrap64_in _ ⟨by omega, by omega⟩
  have b0 := below_one w (.cells (ndl lf (.slice q m cap) nx (k 0) (k 1) (k 2) (k 3) (c 0) (c 1) (c 2) (c 3)).toArray 56)
  have b1 := below_one (w.alloc (.cells (ndl lf (.slice q m cap) nx (k 0) (k 1) (k 2) (k 3) (c 0) (c 1) (c 2) (c 3)).toArray 56)) (.cells (ndl lf' (.slice q' m' cap') nx' (k' 0) (k' 1) (k' 2) (k' 3) (c' 0) (c' 1) (c' 2) (c' 3)).toArray 56)
  have B0 := (Blk.new w (ndl lf (.slice q m cap) nx (k 0) (k 1) (k 2) (k 3) (c 0) (c 1) (c 2) (c 3)).toArray 56).more b1
  have B1 := Blk.new (w.alloc (.cells (ndl lf (.slice q m cap) nx (k 0) (k 1) (k 2) (k 3) (c 0) (c 1) (c 2) (c 3)).toArray 56)) (ndl lf' (.slice q' m' cap') nx' (k' 0) (k' 1) (k' 2) (k' 3) (c' 0) (c' 1) (c' 2) (c' 3)).toArray 56
  have D0 := below2 b0 b1 b0.size
  rw [show (w.alloc (.cells (ndl lf (.slice q m cap) nx (k 0) (k 1) (k 2) (k 3) (c 0) (c 1) (c 2) (c 3)).toArray 56)).heap.size = w.heap.size + 1 by simp] at B1
  have HRh := hid HR
  have HRh' := hid HR'
  have KA := hid (fun w => alive22 w)
  have KN := hid (fun w => gnew_m w)
  have KX := fun g b D w G hI hD HRw => gput_again g b D w G hI id hw hD lf' q' m' cap' f' hf' nx' k' c' h1' h2' HRw
  have KS := fun q9 c9 w hc9 hc9' HR9 HRw => refSame_any lf lf q9 q m m c9 cap f f nx nx k k c c hc9 hc9' h1 h2 w HR9 HRw
  have KG := fun g b D w G q9 c9 hV HR9 hm => gget_any g b 1 D w G id hw lf q9 m c9 f hm nx (k 0) (k 1) (k 2) (k 3) (c 0) (c 1) (c 2) (c 3) hV HR9
  have hsame := nSame_one lf m f nx k c
  by_cases hA : nodeB lf m f nx k c = true ∧ 1 ≤ id
  · have hm4 := nodeB_few hA.1
    have KP := fun g b D w G HRw => gput_ok g b 0 D w G (by omega) id hA.2 (by omega) lf q m cap f hf nx k c h1 h2 HRw hA.1
    rw [hsame] at KS
    dsimp only [ndval] at KP KX KS KG ⊢
    clear hf hf' HR HR' h1 h2 h1' h2' hA hsame
    generalize k 0 = k0 at *
    generalize k 1 = k1 at *
    generalize k 2 = k2 at *
    generalize k 3 = k3 at *
    generalize c 0 = c0 at *
    generalize c 1 = c1 at *
    generalize c 2 = c2 at *
    generalize c 3 = c3 at *
    generalize k' 0 = k0' at *
    generalize k' 1 = k1' at *
    generalize k' 2 = k2' at *
    generalize k' 3 = k3' at *
    generalize c' 0 = c0' at *
    generalize c' 1 = c1' at *
    generalize c' 2 = c2' at *
    generalize c' 3 = c3' at *
    replace KP := hid KP
    replace KX := hid KX
    replace KS := hid KS
    replace KG := hid KG
    have HB0 := hid B0
    have HB1 := hid B1
    have D0h := hid D0
    clear B0 B1 b0 b1 D0
    have haddh := hid hadd
    clear hadd
    go_enter Try.func6, Try.ntmps6
    go_wp2_with fail
    refine (KA.out _).mono ?_
    rintro e w1 ⟨rfl, hb1⟩
    have D1 := hid (below2 D0h.out hb1 D0h.out.size)
    have HC0 := hid (HB0.out.more hb1)
    have HC1 := hid (HB1.out.more hb1)
    clear hb1 KA HB0 HB1 D0h
    go_wp2_with fail
    refine (KN.out _).mono ?_
    rintro e w2 ⟨g, b, rfl, hg, hb, G2, hb2⟩
    have hs2 := hid (show w.heap.size + 1 < g ∧ w.heap.size + 1 < b from ⟨Nat.lt_of_lt_of_le HC1.out.lt hg, Nat.lt_of_lt_of_le HC1.out.lt hb⟩)
    have D2 := hid (below2 D1.out hb2 D1.out.size)
    have HE0 := hid (HC0.out.more hb2)
    have HE1 := hid (HC1.out.more hb2)
    have G2h := hid G2
    clear hb2 KN HC0 HC1 D1 hg hb G2
    obtain ⟨l0, m0, f0⟩ := HE0.out
    go_wp2_with fail
    refine (KP.out g b _ w2 G2h.out (HRh.out.more D2.out)).mono ?_
    rintro e w3 ⟨rfl, q1, e1, O3, G3, S3⟩
    have D3 := hid (D2.out.trans (S3.below (B := w.heap.size) D2.out.size fun k e => by have := hs2.out; omega))
    have HF0 := hid (HE0.out.sole S3 (by have := hs2.out; omega))
    have HF1 := hid (HE1.out.sole S3 (by have := hs2.out; omega))
    have hr1 := RowOwn.within O3
    have R1 := hid (OwnP.row O3)
    have hI := hid (show IsMap ((DataW.map []).put (.int .i64 id) (.held (.agg (ndl lf (.slice q1 m e1) nx k0 k1 k2 k3 c0 c1 c2 c3).toArray)) : DataW Value) from isMap_empty.put _ _)
    have hat := hid (show ((DataW.map []).put (.int .i64 id) (.held (.agg (ndl lf (.slice q1 m e1) nx k0 k1 k2 k3 c0 c1 c2 c3).toArray)) : DataW Value).atKey (.int .i64 id) (.held gnode0) = .held (.agg (ndl lf (.slice q1 m e1) nx k0 k1 k2 k3 c0 c1 c2 c3).toArray) from atKey_put_same isMap_empty (glawK.key (keyOf_int_mk (P := Try.prog) Try.underlying3 hw)) _ _)
    have hhas := hid (fun z : Int => show Maps.has ((DataW.map []).put (.int .i64 id) (.held (.agg (ndl lf (.slice q1 m e1) nx k0 k1 k2 k3 c0 c1 c2 c3).toArray)) : DataW Value) (.int .i64 z) = decide (z = id) from by
      by_cases hz : z = id
      · subst hz
        rw [has_put_same isMap_empty (glawK.key (keyOf_int_mk (P := Try.prog) Try.underlying3 hw))]
        simp
      · rw [has_put_other (fun e => hz (by cases e; rfl)), decide_eq_false hz]
        rfl)
    generalize ((DataW.map []).put (.int .i64 id) (.held (.agg (ndl lf (.slice q1 m e1) nx k0 k1 k2 k3 c0 c1 c2 c3).toArray)) : DataW Value) = D at G3 hI hat hhas
    have G3h := hid G3
    have hq1 := hid (show ∀ bb o, q1 = some ⟨bb, o, none⟩ → m ≠ 0 → w2.heap.size ≤ bb ∧ bb ≠ b from fun bb o e hm => by
      subst e
      rcases O3.2 with ⟨e, _⟩ | ⟨g', cp, cur, e, hb', _⟩
      · cases e
      · simp only [Value.slice.injEq, Option.some.injEq, Addr.mk.injEq] at e
        obtain ⟨⟨rfl, _⟩, _⟩ := e
        have := G2h.out.own.lt
        omega)
    have h23 := hid S3.size
    clear KP O3 S3 G3 hr1 HE0 HE1 G2h l0 m0 f0
    go_wp2_with fail
    refine (gclone_any g b 1 D w3 G3h.out).mono ?_
    rintro e w4 ⟨g2, b2, rfl, hg2, hb2, G4, hb4⟩
    have D4 := hid (below2 D3.out hb4 D3.out.size)
    have HG0 := hid (HF0.out.more hb4)
    have HG1 := hid (HF1.out.more hb4)
    have hne := hid (show g ≠ b2 ∧ b ≠ b2 ∧ w.heap.size + 1 < b2 from ⟨fun e => by have := G3h.out.blk.lt; omega, fun e => by have := G3h.out.own.lt; omega, by have := HF1.out.lt; omega⟩)
    have G34 := hid (G3h.out.more hb4)
    have R4 := hid (R1.out.2.2.more hb4)
    have hq4 := hid (show ∀ bb o, q1 = some ⟨bb, o, none⟩ → m ≠ 0 → bb ≠ b2 from fun bb o e hm e2 => by
      rcases R1.out.2.2 with h | ⟨b8, o8, e8, R8⟩
      · exact hm h
      · rw [e] at e8; cases e8; have := R8.lt; omega)
    have G4h := hid G4
    clear hb4 hg2 hb2 G3h G4 HF0 HF1 D3
    obtain ⟨l1, m1, f1⟩ := HG1.out
    go_wp2_with fail
    refine (KX.out g2 b2 D w4 G4h.out hI.out hhas.out (HRh'.out.more D4.out)).mono ?_
    rintro e w5 ⟨x5, n5, D5, rfl, hn5, G5, S5, hh5⟩
    have E5 := hid (D4.out.trans (S5.below (B := w.heap.size) D4.out.size fun k e => by have := hne.out; omega))
    have HH0 := hid (HG0.out.sole S5 (by have := hne.out; omega))
    have G35 := hid (G34.out.kept S5 hne.out.1 hne.out.2.1)
    have G5h := hid G5
    have hh5h := hid hh5
    have R5 := hid (row_apart9 R4.out S5 hq4.out)
    clear KX G4h G5 hh5 S5 HG0 HG1 G34 R4 D4 l1 m1 f1
    have hadd := haddh.out
    go_wp2_with fail
    clear hadd
    refine (gdrop_none g2 b2 n5 D5 w5 G5h.out (id + 1) hwn (by rw [hh5h.out]; exact decide_eq_false (by omega))).mono ?_
    rintro e w6 ⟨rfl, G6, S6⟩
    have E6 := hid (E5.out.trans (S6.below (B := w.heap.size) E5.out.size fun k e => by have := hne.out; omega))
    have HI0 := hid (HH0.out.sole S6 (by have := hne.out; omega))
    have G36 := hid (G35.out.kept S6 hne.out.1 hne.out.2.1)
    have G6h := hid G6
    have R6 := hid (row_apart9 R5.out S6 hq4.out)
    have hh6 := hid (fun z : Int => show Maps.has (D5.del (.int .i64 (id + 1))) (.int .i64 z) = decide (z = id) from by
      by_cases hz : z = id + 1
      · subst hz
        rw [has_del_same, decide_eq_false (by omega)]
      · rw [has_del_other (fun e => hz (by cases e; rfl)), hh5h.out])
    generalize D5.del (.int .i64 (id + 1)) = D6 at *
    clear G5h hh5h S6 HH0 G35 R5 E5 G6
    have hyes := show Maps.has D (.int .i64 id) = true from by rw [hhas.out id]; exact decide_eq_true rfl
    have KG1 := fun w G R => KG.out g b D w G q1 e1 hat.out R (by omega)
    rw [hyes] at KG1
    replace KG1 := hid KG1
    clear KG hyes hat
    go_wp2_with fail
    refine (KG1.out w6 G36.out R6.out).mono ?_
    rintro e w7 ⟨qx, ex, rfl, O7, hb7⟩
    have bA := below_one w7 (.cells (ndl lf (.slice qx m ex) nx k0 k1 k2 k3 c0 c1 c2 c3).toArray 56)
    have BX8 := Blk.new w7 (ndl lf (.slice qx m ex) nx k0 k1 k2 k3 c0 c1 c2 c3).toArray 56
    have P8 : m = 0 ∨ ∃ gx C, qx = some ⟨gx, 0, none⟩ ∧ gx ≠ w7.heap.size ∧ w6.heap.size ≤ gx ∧ m ≤ ex ∧ Blk (w7.alloc (.cells (ndl lf (.slice qx m ex) nx k0 k1 k2 k3 c0 c1 c2 c3).toArray 56)) gx C ∧ C.size = ex * 4 := by
      by_cases hm0 : m = 0
      · exact .inl hm0
      · obtain ⟨gx, cap9, cur, e, hg9, hc9, B9, hs9⟩ := own_any O7 (by rw [ptL_len]; exact hm0)
        simp only [Value.slice.injEq] at e
        obtain ⟨e1', _, rfl⟩ := e
        exact .inr ⟨gx, cur, e1', by have := B9.lt; omega, hg9, (by rw [ptL_len] at hc9; exact hc9), B9.more bA, hs9⟩
    have D8 := hid (below2 hb7 bA hb7.size)
    have BX8h := hid BX8
    have P8h := hid P8
    have h7 := hid hb7.size
    clear BX8 P8 bA hb7 O7
    go_wp2_with fail
    generalize w7.alloc (.cells (ndl lf (.slice qx m ex) nx k0 k1 k2 k3 c0 c1 c2 c3).toArray 56) = w8 at *
    generalize w7.heap.size = bx at *
    go_loopw [11] (fun i wr => ∃ j : Nat, j ≤ m ∧ i = .int .i64 (j : Int) ∧ Below w6.heap.size w6 wr ∧ Blk wr bx (ndl lf (.slice qx m ex) nx k0 k1 k2 k3 c0 c1 c2 c3).toArray ∧ (m = 0 ∨ ∃ gx C, qx = some ⟨gx, 0, none⟩ ∧ gx ≠ bx ∧ w6.heap.size ≤ gx ∧ m ≤ ex ∧ Blk wr gx C ∧ C.size = ex * 4)) (fun i _ => m - (intOf i).toNat)
    case atStart => exact ⟨0, by omega, rfl, D8.out, BX8h.out, P8h.out⟩
    case round =>
      obtain ⟨j, hj, rfl, hbr, BXr, hP⟩ := hrel
      by_cases hlt : j < m
      · have hlt' : (j : Int) < (m : Int) := by omega
        rcases hP with h0 | ⟨gx, C, rfl, hgb, hg6, hmx, BC, hCs⟩
        · omega
        have hcell := BC.cell (j * 4)
        have hin : j * 4 < C.size := by omega
        rw [Array.getElem?_eq_getElem hin] at hcell
        have hfz := BC.frz (j * 4)
        have BC2 := hid (BC.set (j * 4) (.int .i64 99) hin)
        have BX2 := hid (BXr.other ⟨gx, j * 4, none⟩ hgb (.int .i64 99))
        have hb2 := hid (hbr.trans ((Sole.setCell (S := fun kk => kk = gx) wr (b := gx) (o := j * 4) (.int .i64 99) rfl).below (B := w6.heap.size) hbr.size fun k e => by omega))
        have hCsh := hid hCs
        have hgbh := hid hgb
        have hg6h := hid hg6
        have hmxh := hid hmx
        have hmeas := hid (meas_up9 m j hlt)
        have hw1 : wrap64 ((j : Int) + 1) = ((j + 1 : Nat) : Int) := by
          rw [IntWalk.wrap64_in _ ⟨by omega, by omega⟩]
          rfl
        generalize C[j * 4] = v0 at *
        obtain ⟨lx, mx, fx⟩ := BXr
        have hgl := BC.lt
        clear BC hCs hgb hg6 hmx hbr hin
        go_wp2_with fail
        exact ⟨⟨j + 1, by omega, rfl, hb2.out, BX2.out, .inr ⟨gx, _, rfl, hgbh.out, hg6h.out, hmxh.out, BC2.out, by rw [Array.size_setIfInBounds]; exact hCsh.out⟩⟩, hmeas.out _ rfl⟩
      · obtain rfl : j = m := by omega
        have hbrh := hid hbr
        obtain ⟨lx, mx, fx⟩ := BXr
        clear hbr hP
        go_wp2_with fail
        refine (KG1.out wr (G36.out.more hbrh.out) (R6.out.more hbrh.out)).mono ?_
        rintro e w9 ⟨qy, ey, rfl, O9, hb9⟩
        have bA := below_one w9 (.cells (ndl lf (.slice qy j ey) nx k0 k1 k2 k3 c0 c1 c2 c3).toArray 56)
        have D69 := hid (below2 (below2 hbrh.out hb9 hbrh.out.size) bA (Nat.le_trans hbrh.out.size hb9.size))
        have D9 := hid (below2 E6.out D69.out E6.out.size)
        have RY := OwnP.row O9
        have KS1 := hid (KS.out qy ey (w9.alloc (.cells (ndl lf (.slice qy j ey) nx k0 k1 k2 k3 c0 c1 c2 c3).toArray 56)) RY.1 RY.2.1 (RY.2.2.more bA) (HRh.out.more D9.out))
        have BZ := HI0.out.more D69.out
        obtain ⟨lz, mz, fz⟩ := BZ
        have GA := hid (G36.out.more D69.out)
        have GB := hid (G6h.out.more D69.out)
        clear bA O9 hb9 RY lx mx fx KG1 KS
        go_wp2_with fail
        refine KS1.out.mono ?_
        rintro e w11 ⟨rfl, hb11⟩
        have D11 := hid (below2 D9.out hb11 D9.out.size)
        have KI := hid (gids_one g b 1 D w11 (GA.out.more hb11) (by omega) id i0 (by omega) hhas.out)
        have GB1 := hid (GB.out.more hb11)
        clear hb11 KS1 lz mz fz
        go_wp2_with fail
        refine KI.out.mono ?_
        rintro e w12 ⟨qi, ci, rfl, hb12⟩
        have D12 := hid (below2 D11.out hb12 D11.out.size)
        have KJ := hid (gids_one g2 b2 n5 D6 w12 (GB1.out.more hb12) (by omega) id i0 (by omega) hh6.out)
        clear hb12 KI
        go_wp2_with fail
        refine KJ.out.mono ?_
        rintro e w13 ⟨qj, cj, rfl, hb13⟩
        have D13 := hid (below2 D12.out hb13 D12.out.size)
        clear hb13 KJ
        go_wp2_with fail
        go_ret
        exact ⟨rfl, D13.out⟩
  · have KP := fun g b D w G HRw => gput_bad g b 0 D w G id lf q m cap f hf nx k c h1 h2 HRw (by
      cases hB : nodeB lf m f nx k c with
      | false => exact .inl rfl
      | true => exact .inr fun h' => hA ⟨hB, h'.1⟩)
    dsimp only [ndval] at KP ⊢
    clear hf hf' HR HR' h1 h2 h1' h2' hA hsame KX KS KG hadd hwn
    generalize k 0 = k0 at *
    generalize k 1 = k1 at *
    generalize k 2 = k2 at *
    generalize k 3 = k3 at *
    generalize c 0 = c0 at *
    generalize c 1 = c1 at *
    generalize c 2 = c2 at *
    generalize c 3 = c3 at *
    generalize k' 0 = k0' at *
    generalize k' 1 = k1' at *
    generalize k' 2 = k2' at *
    generalize k' 3 = k3' at *
    generalize c' 0 = c0' at *
    generalize c' 1 = c1' at *
    generalize c' 2 = c2' at *
    generalize c' 3 = c3' at *
    replace KP := hid KP
    have HB0 := hid B0
    have HB1 := hid B1
    have D0h := hid D0
    clear B0 B1 b0 b1 D0
    go_enter Try.func6, Try.ntmps6
    go_wp2_with fail
    refine (KA.out _).mono ?_
    rintro e w1 ⟨rfl, hb1⟩
    have D1 := hid (below2 D0h.out hb1 D0h.out.size)
    have HC0 := hid (HB0.out.more hb1)
    have HC1 := hid (HB1.out.more hb1)
    clear hb1 KA HB0 HB1 D0h
    go_wp2_with fail
    refine (KN.out _).mono ?_
    rintro e w2 ⟨g, b, rfl, hg, hb, G2, hb2⟩
    have hs2 := hid (show w.heap.size + 1 < g ∧ w.heap.size + 1 < b from ⟨Nat.lt_of_lt_of_le HC1.out.lt hg, Nat.lt_of_lt_of_le HC1.out.lt hb⟩)
    have D2 := hid (below2 D1.out hb2 D1.out.size)
    have HE0 := hid (HC0.out.more hb2)
    have HE1 := hid (HC1.out.more hb2)
    have G2h := hid G2
    clear hb2 KN HC0 HC1 D1 hg hb G2
    obtain ⟨l0, m0, f0⟩ := HE0.out
    go_wp2_with fail
    refine (KP.out g b _ w2 G2h.out (HRh.out.more D2.out)).mono ?_
    rintro e w3 ⟨⟨x, rfl, hx⟩, hb3⟩
    have hx' : (x == 0) = false := by rw [beq_eq_false_iff_ne]; exact hx
    have D3 := hid (below2 D2.out hb3 D2.out.size)
    clear hb3 hx KP
    go_wp2_with fail
    go_ret
    exact ⟨rfl, D3.out⟩
end Go.Proofs.Ytpgibngohbohdaa
