/-
  Layer 8: nodes come back from their octets, and octets from their nodes. The walk.
-/
import Derived.Test.YtgnnikjpnmalmaaNodeMath
namespace Go.Proofs.Ytgnnikjpnmalmaa
open Go.RowKit
set_option linter.unusedVariables false
set_option linter.unusedSimpArgs false

theorem fresh_cap8 {w w' : World} {v : Value} {l : List UInt8} (h : Fresh w w' v l) (hl : l ≠ []) : ∃ a cap, v = .slice a l.length cap ∧ Octs w' a l ∧ l.length ≤ cap ∧ cap ≤ maxLen ∧ Below w.heap.size w w' := by
  obtain ⟨a, cap, rfl, O, hb⟩ := h
  rcases O.2 with ⟨_, h0⟩ | ⟨g', cap', cur, hv, _, _, q1, q2, _⟩
  · exact absurd (List.eq_nil_of_length_eq_zero h0) hl
  · cases hv; exact ⟨_, _, rfl, Octs.of_own O, q1, q2, hb⟩
theorem nodeO_length {lf : Bool} {n : Nat} {f : Nat → Pt} {nx : Int} {k c : Nat → Int} (hB : nodeB lf n f nx k c = true) : (nodeO lf n f nx k c).length ≤ 119 ∧ 3 ≤ (nodeO lf n f nx k c).length := by
  cases lf with
  | true =>
    obtain ⟨n4, _, _, _, _, hg⟩ := leafB_parts hB
    have := ptsB_length f n fun i hi => (goodL_may (hg i hi)).2.2
    show (lheadB nx n ++ ptsB f n).length ≤ 119 ∧ 3 ≤ (lheadB nx n ++ ptsB f n).length
    rw [List.length_append, lheadB_length]
    omega
  | false =>
    show (otherO k c).length ≤ 119 ∧ 3 ≤ (otherO k c).length
    simp [otherO, numsB_length, leB_length]
/-- What was put is read as it was. -/
theorem nread_back (lf : Bool) (n : Nat) (f : Nat → Pt) (hf : ∀ i, i < n → (f i).ok) (nx : Int) (k c : Nat → Int) (hB : nodeB lf n f nx k c = true) (a : Option Addr) (cap : Nat) (w : World) (O : Octs w a (nodeO lf n f nx k c)) :
    Calls Try.prog 42 #[.slice a (nodeO lf n f nx k c).length cap] w fun e w' => ∃ pv m cv g kk cc, e = .returned (.tuple #[ndval lf (.slice pv m cv) nx kk cc, .int .i64 0]) ∧ m ≤ cv ∧ cv ≤ maxLen ∧ RowP w' pv 4 m (fun i => pcells (g i)) ∧ nSame lf lf n m f g nx nx k kk c cc = true ∧ Below w.heap.size w w' := by
  have hl := (nodeO_length hB).1
  refine (nread_any _ a cap (by omega) w O).mono ?_
  intro e w' hP
  cases lf with
  | true =>
    obtain ⟨L, h1, h2, h3, h4⟩ := leaf_back nx n f k c hf hB
    rcases hP with ⟨L', v, q1, rfl, OV, hb⟩ | ⟨q1, _⟩ | ⟨q1, _⟩
    · have q1' : leafR (leafO nx n f) = some L' := q1
      rw [h1] at q1'
      cases q1'
      obtain ⟨pv, cv, rfl, d1, d2, R⟩ := OV.open
      obtain ⟨_, _, _, z1, z2, _⟩ := leafB_parts hB
      refine ⟨pv, L.length, cv, ptAt L, zf, zf, by rw [show byteAt (nodeO true n f nx k c) 1 = byteAt (leafO nx n f) 1 from rfl, h4], d1, d2, R, ?_, hb⟩
      unfold nSame
      rw [h2, allP_self f (ptAt L) n h3, show eqA (k 0) (k 1) (k 2) (k 3) (zf 0) (zf 1) (zf 2) (zf 3) = true from z1, show eqA (c 0) (c 1) (c 2) (c 3) (zf 0) (zf 1) (zf 2) (zf 3) = true from z2]
      simp
    · have q1' : leafR (leafO nx n f) = none := q1
      rw [h1] at q1'; cases q1'
    · have q1' : leafR (leafO nx n f) = none := q1
      rw [h1] at q1'; cases q1'
  | false =>
    obtain ⟨rfl, rfl, _⟩ := otherB_parts hB
    obtain ⟨h1, h2, h3⟩ := other_back k c hB
    rcases hP with ⟨L', v, q1, rfl, OV, hb⟩ | ⟨q1, q2, rfl, hb⟩ | ⟨q1, q2, _⟩
    · have q1' : leafR (otherO k c) = some L' := q1
      rw [h1] at q1'; cases q1'
    · refine ⟨none, 0, 0, f, kidsR (otherO k c), cntsR (otherO k c), rfl, Nat.le_refl _, Nat.zero_le _, .inl rfl, ?_, hb⟩
      unfold nSame
      rw [(h3 0 (by omega)).1, (h3 1 (by omega)).1, (h3 2 (by omega)).1, (h3 3 (by omega)).1, (h3 0 (by omega)).2, (h3 1 (by omega)).2, (h3 2 (by omega)).2, (h3 3 (by omega)).2, eqA_self, eqA_self]
      rfl
    · have q2' : otherR (otherO k c) = false := q2
      rw [h2] at q2'; cases q2'
/-- What is read of any octets is put as they stand. -/
theorem nread_law (l : List UInt8) (a : Option Addr) (cap : Nat) (hl : l.length ≤ 140737488355328) (w : World) (O : Octs w a l) :
    Calls Try.prog 42 #[.slice a l.length cap] w fun e w' => (∃ lf pv m cv g nx kk cc, e = .returned (.tuple #[ndval lf (.slice pv m cv) nx kk cc, .int .i64 0]) ∧ m ≤ cv ∧ cv ≤ maxLen ∧ RowP w' pv 4 m (fun i => pcells (g i)) ∧ (∀ i, i < m → (g i).ok) ∧ nodeB lf m g nx kk cc = true ∧ nodeL lf m g nx kk cc = l ∧ Below w.heap.size w w') ∨
      (e = .returned (.tuple #[ndval false (.slice none 0 0) 0 zf zf, .int .i64 16]) ∧ Below w.heap.size w w') := by
  refine (nread_any l a cap hl w O).mono ?_
  rintro e w' (⟨L, v, q1, rfl, OV, hb⟩ | ⟨q1, q2, rfl, hb⟩ | ⟨_, _, rfl, hb⟩)
  · obtain ⟨h1, h2, h3⟩ := leaf_put l L q1
    obtain ⟨pv, cv, rfl, d1, d2, R⟩ := OV.open
    refine .inl ⟨true, pv, L.length, cv, ptAt L, byteAt l 1, zf, zf, rfl, d1, d2, R, h3, h1, ?_, hb⟩
    unfold nodeL
    rw [show nodeB true L.length (ptAt L) (byteAt l 1) zf zf = true from h1, if_pos rfl]
    exact h2
  · obtain ⟨h1, h2⟩ := other_put l q2
    refine .inl ⟨false, none, 0, 0, fun _ => pt0, 0, kidsR l, cntsR l, rfl, Nat.le_refl _, Nat.zero_le _, .inl rfl, fun i hi => absurd hi (Nat.not_lt_zero _), h1, ?_, hb⟩
    unfold nodeL
    rw [show nodeB false 0 (fun _ => pt0) 0 (kidsR l) (cntsR l) = true from h1, if_pos rfl]
    exact h2
  · exact .inr ⟨rfl, hb⟩

set_option maxRecDepth 100000 in
set_option maxHeartbeats 16000000 in
theorem nodeBack (lf : Bool) (p : Option Addr) (n cap : Nat) (f : Nat → Pt) (hf : ∀ i, i < n → (f i).ok) (nx : Int) (k c : Nat → Int) (l : List UInt8) (a1 : Option Addr) (c1 : Nat) (h1 : n ≤ cap) (h2 : cap ≤ maxLen) (h3 : l.length ≤ c1) (h4 : c1 ≤ maxLen) (hl : l.length ≤ 140737488355328) (w : World) (HR : RowP w p 4 n (fun i => pcells (f i))) (O : Octs w a1 l) :
    Calls Try.prog 8 #[ndval lf (.slice p n cap) nx k c, .slice a1 l.length c1] w fun e w' => e = .returned (.bool true) ∧ Below w.heap.size w w' := by
  obtain ⟨W0, hW0⟩ : ∃ W0, w.alloc (.cells (ndcells lf (.slice p n cap) nx k c) 61) = W0 := ⟨_, rfl⟩
  have hb0 : Below w.heap.size w W0 := by rw [← hW0]; exact (Below.refl _ _).alloc (Nat.le_refl _) _
  have BX : Blk W0 w.heap.size (ndcells lf (.slice p n cap) nx k c) := by rw [← hW0]; exact Blk.new w _ _
  have KA := hid alive08
  have KP := hid (fun wx (hb : Below w.heap.size w wx) => nput_any lf p n cap f hf nx k c h1 h2 wx (HR.more hb))
  have KB := hid (fun wx (hb : Below w.heap.size w wx) => nread_law l a1 c1 hl wx (O.more hb))
  have KS := hid (fun p' m cp' g kk cc q1 q2 wx (hb : Below w.heap.size w wx) HQ => refSame_any lf lf p p' n m cap cp' f g nx nx k kk c cc h1 h2 q1 q2 wx (HR.more hb) HQ)
  have KZ := hid (fun wx => refSame_any false false none none 0 0 0 0 f f 0 0 zf zf zf zf (Nat.le_refl _) (Nat.zero_le _) (Nat.le_refl _) (Nat.zero_le _) wx (.inl rfl) (.inl rfl))
  rw [show nSame false false 0 0 f f 0 0 zf zf zf zf = true by rfl] at KZ
  have HO := hid O
  have D0 := hid hb0
  have HBX := hid BX
  have hL : nodeL lf n f nx k c = if nodeB lf n f nx k c then nodeO lf n f nx k c else [] := rfl
  have hg := nread_back lf n f hf nx k c
  have hlen := nodeO_length (lf := lf) (n := n) (f := f) (nx := nx) (k := k) (c := c)
  generalize nodeL lf n f nx k c = SL at *
  generalize nodeO lf n f nx k c = SB at *
  have hCB : nodeB lf n f nx k c = true ∨ nodeB lf n f nx k c = false := by cases nodeB lf n f nx k c <;> simp
  generalize nodeB lf n f nx k c = BB at *
  have hg' := hid hg
  have hLL := hid hL
  have hlen' := hid hlen
  have hCC := hid hCB
  unfold maxLen at h2 h4
  clear HR O hb0 BX hg hL hlen hCB
  obtain ⟨lx, kx, fx⟩ := HBX.out
  go_enter Try.func8, Try.ntmps8
  go_wp2_with fail
  refine (KA.out _).mono ?_
  rintro e w1 ⟨rfl, hb1⟩
  have HX1 := hid (HBX.out.more hb1)
  have D1 := hid (below2 D0.out hb1 D0.out.size)
  clear hb1 lx kx fx HBX D0 hW0 KA
  obtain ⟨lx, kx, fx⟩ := HX1.out
  go_wp2_with fail
  refine (KP.out _ D1.out).mono ?_
  rintro e w2 ⟨v, rfl, F2⟩
  have F2 := hid F2
  go_upto_if 21 with (fail)
  go_cut [5] (fun s5 wx => Below w.heap.size w wx)
  case first =>
    rcases hCC.out with rfl | rfl
    · have hlen := hlen'.out rfl
      obtain rfl : SL = SB := hLL.out
      rw [show nodeC true = 0 from rfl]
      obtain ⟨xa, xc, rfl, OX, q1, q2, hb2⟩ := fresh_cap8 F2.out (by intro h; rw [h] at hlen; simp at hlen)
      have KG := hg'.out rfl xa xc
      clear hg' hlen' hLL hCC
      obtain ⟨m, hm⟩ : ∃ m, SL.length = m := ⟨_, rfl⟩
      rw [hm] at KG hlen q1 ⊢
      replace hm := hid hm
      replace KG := hid KG
      have X2 := hid OX
      have D2 := hid (below2 D1.out hb2 D1.out.size)
      have HX2 := hid (HX1.out.more hb2)
      clear hb2 OX lx kx fx HX1 D1 KP F2
      obtain ⟨lx, kx, fx⟩ := HX2.out
      go_wp2_with fail
      refine (KG.out _ X2.out).mono ?_
      rintro e w3 ⟨pv, pm, cv, g, kk, cc, rfl, q3, q4, R3, hs, hb3⟩
      have hbA : Below w3.heap.size w3 (w3.alloc (.cells (ndcells lf (.slice pv pm cv) nx kk cc) 61)) := (Below.refl _ _).alloc (Nat.le_refl _) _
      have BT := Blk.new w3 (ndcells lf (.slice pv pm cv) nx kk cc) 61
      have hb3' := below2 hb3 hbA hb3.size
      have D3 := hid (below2 D2.out hb3' D2.out.size)
      have HX3 := hid (HX2.out.more hb3')
      have R3' := R3.more hbA
      have KS4 := KS.out pv pm cv g kk cc q3 q4 _ D3.out R3'
      rw [hs] at KS4
      replace KS4 := hid KS4
      have HT3 := hid BT
      have m1 : (m : Int) ≤ 119 := by omega
      clear hb3 hbA hb3' X2 D2 HX2 R3 R3' BT lx kx fx KG hs
      obtain ⟨lx, kx, fx⟩ := HX3.out
      obtain ⟨lt, kt, ft⟩ := HT3.out
      go_wp2_with fail
      refine KS4.out.mono ?_
      rintro e w5 ⟨rfl, hb5⟩
      have D5 := hid (below2 D3.out hb5 D3.out.size)
      clear hb5 KS4
      go_wp2_with fail
      go_meet
      case rel => exact D5.out
    · obtain ⟨xa, xc, rfl, _, hb2⟩ := F2.out
      rw [show nodeC false = 9 from rfl]
      have D2 := hid (below2 D1.out hb2 D1.out.size)
      clear hb2 F2
      go_wp2_with fail
      go_meet
      case rel => exact D2.out
  case rest =>
    replace hcut := hid hcut
    clear KP KS hg' hCC hLL hlen' F2 HX1 lx kx fx D1
    go_wp2_with fail
    refine (KB.out _ hcut.out).mono ?_
    rintro e w3 (⟨lf', pv, m, cv, g, nx', kk, cc, rfl, q1, q2, R3, hok, hB, hN, hb3⟩ | ⟨rfl, hb3⟩)
    · have D3 := hid (below2 hcut.out hb3 hcut.out.size)
      have hbA : Below w3.heap.size w3 (w3.alloc (.cells (ndcells lf' (.slice pv m cv) nx' kk cc) 61)) := (Below.refl _ _).alloc (Nat.le_refl _) _
      have BT := hid (Blk.new w3 (ndcells lf' (.slice pv m cv) nx' kk cc) 61)
      have D4 := hid (below2 D3.out hbA D3.out.size)
      have KP2 := nput_any lf' pv m cv g hok nx' kk cc q1 q2 _ (R3.more hbA)
      rw [hB, hN, show nodeC true = 0 from rfl] at KP2
      have HO4 := hid (HO.out.more D4.out)
      clear hb3 hbA D3 KB hB hN hok R3 hcut KZ HO
      replace KP2 := hid KP2
      obtain ⟨lt, kt, ft⟩ := BT.out
      go_wp2_with fail
      refine KP2.out.mono ?_
      rintro e w5 ⟨v, rfl, ya, yc, rfl, OY, hb5⟩
      have k1 := conv_octs (Octs.of_own OY) yc
      have k2 := conv_octs (HO4.out.more hb5) c1
      have D5 := hid (below2 D4.out hb5 D4.out.size)
      clear hb5 OY D4 KP2
      go_wp2_with fail
      go_ret
      exact ⟨by simp, D5.out⟩
    · have D3 := hid (below2 hcut.out hb3 hcut.out.size)
      have hbA : Below w3.heap.size w3 (w3.alloc (.cells (ndcells false (.slice none 0 0) 0 zf zf) 61)) := (Below.refl _ _).alloc (Nat.le_refl _) _
      have BT := hid (Blk.new w3 (ndcells false (.slice none 0 0) 0 zf zf) 61)
      have D4 := hid (below2 D3.out hbA D3.out.size)
      clear hb3 hbA D3 KB
      obtain ⟨lt, kt, ft⟩ := BT.out
      go_wp2_with fail
      refine (KZ.out _).mono ?_
      rintro e w5 ⟨rfl, hb5⟩
      have D5 := hid (below2 D4.out hb5 D4.out.size)
      clear hb5
      go_wp2_with fail
      go_ret
      exact ⟨rfl, D5.out⟩
end Go.Proofs.Ytgnnikjpnmalmaa
