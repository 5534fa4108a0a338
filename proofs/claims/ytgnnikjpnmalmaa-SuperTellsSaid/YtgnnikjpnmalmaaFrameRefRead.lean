/-
  The document's own sectors: Read.
-/
import Derived.Test.YtgnnikjpnmalmaaFrameRefSound
namespace Go.Proofs.Ytgnnikjpnmalmaa
open Go.RowKit
set_option linter.unusedVariables false
set_option linter.unusedSimpArgs false

theorem Octs.low {B : Nat} {w w' : World} {b o : Nat} {l : List UInt8} (h : Octs w (some ⟨b, o, none⟩) l) (hb : Below B w w') (hlt : b < B) : Octs w' (some ⟨b, o, none⟩) l := by
  refine h.imp id ?_
  rintro ⟨b', o', e, lt, hc⟩
  cases e
  exact ⟨b, o, rfl, Nat.lt_of_lt_of_le lt hb.size, fun i hi => (hb.cell (p := ⟨b, _, none⟩) hlt).trans (hc i hi)⟩
theorem stay3 {w : World} {b g i : Nat} {x y z : Value} (h : b ≠ g) : ((((w.setCell ⟨g, 0, none⟩ x).setCell ⟨g, 1, none⟩ y).setCell ⟨g, 2, none⟩ z).drew).cell? ⟨b, i, none⟩ = w.cell? ⟨b, i, none⟩ := by
  have e : ∀ (w : World) (o : Nat) (v : Value), (w.setCell ⟨g, o, none⟩ v).cell? ⟨b, i, none⟩ = w.cell? ⟨b, i, none⟩ := fun w o v =>
    World.cell?_of_block (a := ⟨b, i, none⟩) (Below.heap_setCell _ _ _ _ h)
  exact ((e _ _ _).trans (e _ _ _)).trans (e _ _ _)
theorem one_at (l : List UInt8) (i : Nat) (h : i < l.length) : numOf ((l.drop i).take 1) = byteAt l i := by
  rw [List.drop_eq_getElem_cons h, byteAt_get l i h, List.take_succ_cons, List.take_zero]
  simp [numOf]
theorem good_iff (l : List UInt8) (hlen : l.length = 256) (hs : soundB l = true) :
    goodB l = true ↔ byteAt l 0 = 67 ∧ byteAt l 1 = 82 ∧ txtN l ≤ 238 ∧ ∀ j, 14 + txtN l ≤ j → j < 252 → byteAt l j = 0 := by
  have b0 := byteAt_get l 0 (by omega)
  have b1 := byteAt_get l 1 (by omega)
  have t2 : l.take 2 = [67, 82] ↔ byteAt l 0 = 67 ∧ byteAt l 1 = 82 := by
    rw [b0, b1]
    have : l.take 2 = [l[0], l[1]] := by
      rw [show (2 : Nat) = 0 + 1 + 1 from rfl, List.take_succ_eq_append_getElem (by omega), List.take_succ_eq_append_getElem (by omega)]
      rfl
    rw [this]
    simp only [List.cons.injEq, and_true, ← UInt8.toNat_inj]
    rfl
  have z : ((l.take 252).drop (14 + txtN l)).all (· == 0) = true ↔ ∀ j, 14 + txtN l ≤ j → j < 252 → byteAt l j = 0 := by
    rw [List.all_eq_true]
    constructor
    · intro h j h1 h2
      have hm : l[j]'(by omega) ∈ (l.take 252).drop (14 + txtN l) := by
        rw [List.mem_iff_getElem]
        refine ⟨j - (14 + txtN l), by rw [List.length_drop, List.length_take]; omega, ?_⟩
        rw [List.getElem_drop, List.getElem_take]
        congr 1
        omega
      have := h _ hm
      rw [byteAt_get l j (by omega)]
      simp at this
      rw [this]; rfl
    · intro h x hx
      obtain ⟨i, hi, rfl⟩ := List.getElem_of_mem hx
      rw [List.length_drop, List.length_take] at hi
      have := h (14 + txtN l + i) (by omega) (by omega)
      rw [byteAt_get l _ (by omega)] at this
      rw [List.getElem_drop, List.getElem_take]
      simp only [beq_iff_eq]
      exact UInt8.toNat_inj.1 this
  unfold goodB
  rw [hs]
  simp only [Bool.true_and, Bool.and_eq_true, decide_eq_true_eq]
  rw [t2, z]
  exact and_assoc
def ReadPost (l : List UInt8) (w : World) (e : Ending) (w' : World) : Prop :=
  ∃ v, e = .returned (.tuple #[.int .i64 (openK l), sval (openS l), v, .bool (goodB l)]) ∧ OctV w' v (openT l) ∧ Below w.heap.size w w'

set_option maxRecDepth 100000 in
set_option maxHeartbeats 8000000 in
theorem refRead_any (l : List UInt8) (a : Option Addr) (cap : Nat) (h1 : l.length ≤ cap) (h2 : cap ≤ maxLen) (w : World) (O : Octs w a l) :
    Calls Try.prog 51 #[.slice a l.length cap] w (ReadPost l w) := by
  obtain ⟨W0, hW0⟩ : ∃ W0, w.alloc (.cells #[.int .i64 0, .int .i64 0, .int .i64 0] 75) = W0 := ⟨_, rfl⟩
  have hb0 : Below w.heap.size w W0 := by rw [← hW0]; exact (Below.refl _ _).alloc (Nat.le_refl _) _
  have BX : Blk W0 w.heap.size #[.int .i64 0, .int .i64 0, .int .i64 0] := by rw [← hW0]; exact Blk.new w _ _
  have KS := refSound_any l a cap h1 h2 W0 (O.more hb0)
  have hl' : (l.length : Int) ≤ 9223372036854775807 := by unfold maxLen at h2; omega
  have EB : Hid (∀ w', goodB l = false → Below w.heap.size w w' → ReadPost l w (.returned (.tuple #[.int .i64 0, .agg #[.int .i64 0, .int .i64 0, .int .i64 0], .slice none 0 0, .bool false])) w') := hid (fun w' hg hb => by
    obtain ⟨q1, q2, q3, q4⟩ := open_bad hg
    exact ⟨.slice Option.none 0 0, by rw [q1, q2, hg], by rw [q3]; exact OctV.none _, hb⟩)
  cases hs : soundB l with
  | false =>
    have hgood := hid (show goodB l = false by unfold goodB; rw [hs]; rfl)
    rw [hs] at KS
    replace KS := hid KS
    have HBX := hid BX
    replace hb0 := hid hb0
    clear O h1 h2 hs BX
    go_enter Try.func51, Try.ntmps51
    go_wp2_with fail
    refine KS.out.mono ?_
    rintro e wr ⟨rfl, hb1⟩
    have BTx := hid (below2 hb0.out hb1 hb0.out.size)
    have HBG := hid (HBX.out.more hb1)
    clear hb1 hW0
    generalize w.heap.size = g at *
    obtain ⟨lx, kx, fx⟩ := HBG.out
    go_wp2_with fail
    have B2 := Blk.fill [.int .i64 0, .int .i64 0, .int .i64 0] 0 HBG.out (by simp)
    have hb2 := hid (below_fill (b := g) (Nat.le_refl g) [.int .i64 0, .int .i64 0, .int .i64 0] 0 BTx.out)
    show bodyPost _ _ _ _ _ (setAll wr g 0 [.int .i64 0, .int .i64 0, .int .i64 0])
    generalize setAll wr g 0 _ = w7x at *
    obtain ⟨l7, k7, f7⟩ := B2
    refine bodyPost_ret (v := .tuple #[.int .i64 0, .agg #[.int .i64 0, .int .i64 0, .int .i64 0], .slice none 0 0, .bool false]) (by simp [results, Try.results51, go_sem, k7, fillC]) rfl ?_
    exact EB.out w7x hgood.out hb2.out
  | true =>
    have hlen : l.length = 256 := by
      unfold soundB at hs
      simp at hs
      exact hs.1
    have GI := good_iff l hlen hs
    have EG : Hid (∀ (v : Value) (w' : World), goodB l = true → OctV w' v ((l.drop 14).take (txtN l)) → Below w.heap.size w w' → ReadPost l w (.returned (.tuple #[.int .i64 (byteAt l 2), .agg #[.int .i64 (numOf ((l.drop 3).take 4)), .int .i64 (numOf ((l.drop 7).take 4)), .int .i64 (numOf ((l.drop 11).take 2))], v, .bool true])) w') := hid (fun v w' hg hv hb => by
      obtain ⟨q1, q2, q3, q4⟩ := open_good hg
      exact ⟨v, by rw [q1, q2, hg, one_at l 2 (by omega)], by rw [q3]; exact hv, hb⟩)
    obtain ⟨b, o, rfl, hb, hc⟩ := O.row (by intro h; rw [h] at hlen; cases hlen)
    have tx : txtN l = byteAt l 13 := one_at l 13 (by omega)
    have hn256 := byteAt_lt l 13
    rw [tx] at GI EG
    have CC := hid (fun (wx : World) (hb' : Below w.heap.size w wx) (i : Nat) (hi : i < 256) => (show wx.cell? ⟨b, o + i, none⟩ = some (.int .u8 (byteAt l i : Int)) by
      rw [hb'.cell (p := ⟨b, o + i, none⟩) hb, hc i (by omega), byteAt_get l i (by omega)]))
    rw [hs] at KS
    replace KS := hid KS
    have HBX := hid BX
    rw [hlen] at h1 KS ⊢
    have e1 : (256 : Int) ≤ cap := by omega
    unfold maxLen at h2
    replace GI := hid GI
    replace hb0 := hid hb0
    have HO := hid O
    clear O BX hc hs tx
    go_enter Try.func51, Try.ntmps51
    go_wp2_with fail
    refine KS.out.mono ?_
    rintro e w1r ⟨rfl, hb1⟩
    have BTx := hid (below2 hb0.out hb1 hb0.out.size)
    have HBG := hid (HBX.out.more hb1)
    clear hb1 hW0
    have z0 := CC.out _ BTx.out 0 (by omega)
    have z1 := CC.out _ BTx.out 1 (by omega)
    have z13 := CC.out _ BTx.out 13 (by omega)
    rw [Nat.add_zero] at z0
    have hbg : b < w.heap.size := hb
    generalize hg : w.heap.size = g at *
    obtain ⟨lx, kx, fx⟩ := HBG.out
    generalize hn : byteAt l 13 = n at *
    by_cases c0 : byteAt l 0 = 67
    · by_cases c1 : byteAt l 1 = 82
      · by_cases c2 : n ≤ 238
        · have hlt : (n : Int) ≤ 238 := by omega
          have hn0 : 0 ≤ (n : Int) := by omega
          have GI2 : Hid ((∀ j, 14 + n ≤ j → j < 252 → byteAt l j = 0) → goodB l = true) := hid (fun h => GI.out.2 ⟨c0, c1, c2, h⟩)
          have GI3 : Hid (∀ j, 14 + n ≤ j → j < 252 → byteAt l j ≠ 0 → goodB l = false) := hid (fun j h1 h2 h3 => by
            cases hgd : goodB l with
            | false => rfl
            | true => exact absurd ((GI.out.1 hgd).2.2.2 j h1 h2) h3)
          rw [c0] at z0
          rw [c1] at z1
          clear c0 c1 c2 GI
          go_wp2_with fail
          go_loopw [7] (fun i wx => ∃ k : Nat, 14 + n ≤ k ∧ k ≤ 252 ∧ i = .int .i64 (k : Int) ∧ (∀ j, 14 + n ≤ j → j < k → byteAt l j = 0) ∧ wx = w1r) (fun i _ => 252 - (intOf i).toNat)
          case atStart => exact ⟨14 + n, Nat.le_refl _, by omega, by simp, fun j h1 h2 => by omega, rfl⟩
          case round =>
            obtain ⟨k, hk1, hk2, rfl, hz, hw⟩ := hrel
            rw [hw]
            clear hw
            replace hz := hid hz
            by_cases hk : k < 252
            · have hkI : (k : Int) < 252 := by omega
              have zk := CC.out _ BTx.out k (by omega)
              by_cases hb0' : byteAt l k = 0
              · have hz2 := hid (show ∀ j, 14 + n ≤ j → j < k + 1 → byteAt l j = 0 from fun j h1 h2 => by
                  by_cases e : j = k
                  · rw [e]; exact hb0'
                  · exact hz.out j h1 (by omega))
                rw [hb0'] at zk
                clear hb0'
                go_wp2_with fail
                go_roundw
                case rel => exact ⟨k + 1, by omega, by omega, by go_num, hz2.out, trivial⟩
                case measure => simp [intOf]; omega
              · have hgood := hid (GI3.out k hk1 hk hb0')
                have hne : ((byteAt l k : Int) != 0) = true := by simp; omega
                generalize byteAt l k = xk at *
                clear hb0'
                go_wp2_with fail
                have B2 := Blk.fill [.int .i64 0, .int .i64 0, .int .i64 0] 0 HBG.out (by simp)
                have hb2 := hid (below_fill (b := g) (Nat.le_refl g) [.int .i64 0, .int .i64 0, .int .i64 0] 0 BTx.out)
                show bodyPost _ _ _ _ _ (setAll w1r g 0 [.int .i64 0, .int .i64 0, .int .i64 0])
                generalize setAll w1r g 0 _ = w7x at *
                obtain ⟨l7, k7, f7⟩ := B2
                refine bodyPost_ret (v := .tuple #[.int .i64 0, .agg #[.int .i64 0, .int .i64 0, .int .i64 0], .slice none 0 0, .bool false]) (by simp [results, Try.results51, go_sem, k7, fillC]) rfl ?_
                exact EB.out w7x hgood.out hb2.out
            · obtain rfl : k = 252 := by omega
              have hgood := hid (GI2.out fun j h1 h2 => hz.out j h1 h2)
              have z2 := CC.out _ BTx.out 2 (by omega)
              have q2 := CC.out _ BTx.out 2 (by omega)
              have K3 := hid (fun (wx : World) (hb' : Below g w wx) => refGet_any ((l.drop 3).take 4) (some ⟨b, o + 3, none⟩) (cap - 3) wx (((HO.out.drop 3).take 4).low hb' hbg) (by rw [List.length_take]; omega))
              have K7 := hid (fun (wx : World) (hb' : Below g w wx) => refGet_any ((l.drop 7).take 4) (some ⟨b, o + 7, none⟩) (cap - 7) wx (((HO.out.drop 7).take 4).low hb' hbg) (by rw [List.length_take]; omega))
              have K11 := hid (fun (wx : World) (hb' : Below g w wx) => refGet_any ((l.drop 11).take 2) (some ⟨b, o + 11, none⟩) (cap - 11) wx (((HO.out.drop 11).take 2).low hb' hbg) (by rw [List.length_take]; omega))
              rw [show ((l.drop 3).take 4).length = 4 by rw [List.length_take, List.length_drop]; omega] at K3
              rw [show ((l.drop 7).take 4).length = 4 by rw [List.length_take, List.length_drop]; omega] at K7
              rw [show ((l.drop 11).take 2).length = 2 by rw [List.length_take, List.length_drop]; omega] at K11
              have BU := hid (fun u : Later w1r => (BTx.out.trans (u.h.mono (by have := BTx.out.size; omega)) : Below g w u.val))
              have c14 : ¬ cap = 14 := by omega
              have n14 : 14 + n - 14 = n := by omega
              go_wp2_with fail
              have hbb : b ≠ g := by omega
              have wb2 : IntKind.i64.wrap (byteAt l 2 : Int) = (byteAt l 2 : Int) := IntWalk.i64_in _ (by have := byteAt_lt l 2; omega)
              have d3 : ¬ cap = 3 := by omega
              have d7 : ¬ cap = 7 := by omega
              have d11 : ¬ cap = 11 := by omega
              have i7 : (7 : Int) ≤ (cap : Int) := by omega
              have i11 : (11 : Int) ≤ (cap : Int) := by omega
              have i13 : (13 : Int) ≤ (cap : Int) := by omega
              have i14 : (14 : Int) + (n : Int) ≤ (cap : Int) := by omega
              have i15 : (14 : Int) ≤ (14 : Int) + (n : Int) := by omega
              have u14 : IntKind.i64.wrap ((14 : Int) + (n : Int)) = (14 : Int) + (n : Int) := IntWalk.i64_in _ (by omega)
              have t14 : ((14 : Int) + (n : Int)).toNat = 14 + n := by omega
              have BW := BTx.out
              go_region_held3 (fun w' => w'.cell? ⟨b, o + 2, none⟩ = some (.int .u8 (byteAt l 2 : Int)))
                (first | with_reducible assumption | with_reducible exact (stay3 hbb).trans q2 | go_keep)
                (first
                  | ((first | (with_reducible refine (K3.out _ (by first | exact BW | exact BW.drew)).mono ?_) | (with_reducible refine (K7.out _ (by first | exact BW | exact BW.drew)).mono ?_) | (with_reducible refine (K11.out _ (by first | exact BW | exact BW.drew)).mono ?_)); rintro e w2 ⟨rfl, rfl⟩))
              go_wp2_with fail
              have B2 := (Blk.fill [.int .i64 (numOf ((l.drop 3).take 4)), .int .i64 (numOf ((l.drop 7).take 4)), .int .i64 (numOf ((l.drop 11).take 2))] 0 HBG.out (by simp)).drew
              have hb2 := hid (below_fill (b := g) (Nat.le_refl g) [.int .i64 (numOf ((l.drop 3).take 4)), .int .i64 (numOf ((l.drop 7).take 4)), .int .i64 (numOf ((l.drop 11).take 2))] 0 BTx.out).drew
              show bodyPost _ _ _ _ _ (setAll w1r g 0 [.int .i64 (numOf ((l.drop 3).take 4)), .int .i64 (numOf ((l.drop 7).take 4)), .int .i64 (numOf ((l.drop 11).take 2))]).drew
              generalize setAll w1r g 0 _ = w7x at *
              obtain ⟨l7, k7, f7⟩ := B2
              refine bodyPost_ret (v := .tuple #[.int .i64 (byteAt l 2), .agg #[.int .i64 (numOf ((l.drop 3).take 4)), .int .i64 (numOf ((l.drop 7).take 4)), .int .i64 (numOf ((l.drop 11).take 2))], .slice (some ⟨b, o + 14, none⟩) n (cap - 14), .bool true]) (by simp [results, Try.results51, go_sem, k7, fillC]) rfl ?_
              refine EG.out _ _ hgood.out ?_ hb2.out
              have hTl : ((l.drop 14).take n).length = n := by rw [List.length_take, List.length_drop]; omega
              exact ⟨some ⟨b, o + 14, none⟩, cap - 14, by rw [hTl], ((HO.out.drop 14).take n).low hb2.out hbg, by rw [hTl]; omega, fun x h => by cases h; rfl⟩
        · have hlt : decide ((n : Int) ≤ 238) = false := decide_eq_false (by omega)
          have hgt : 238 < (n : Int) := by omega
          have hgood := hid (show goodB l = false by
            cases hgd : goodB l with
            | false => rfl
            | true => exact absurd (GI.out.1 hgd).2.2.1 c2)
          rw [c0] at z0
          rw [c1] at z1
          clear c0 c1 c2
          go_wp2_with fail
          have B2 := Blk.fill [.int .i64 0, .int .i64 0, .int .i64 0] 0 HBG.out (by simp)
          have hb2 := hid (below_fill (b := g) (Nat.le_refl g) [.int .i64 0, .int .i64 0, .int .i64 0] 0 BTx.out)
          show bodyPost _ _ _ _ _ (setAll w1r g 0 [.int .i64 0, .int .i64 0, .int .i64 0])
          generalize setAll w1r g 0 _ = w7x at *
          obtain ⟨l7, k7, f7⟩ := B2
          refine bodyPost_ret (v := .tuple #[.int .i64 0, .agg #[.int .i64 0, .int .i64 0, .int .i64 0], .slice none 0 0, .bool false]) (by simp [results, Try.results51, go_sem, k7, fillC]) rfl ?_
          exact EB.out w7x hgood.out hb2.out
      · have hne : ((byteAt l 1 : Int) != 82) = true := by simp; omega
        have hgood := hid (show goodB l = false by
          cases hgd : goodB l with
          | false => rfl
          | true => exact absurd (GI.out.1 hgd).2.1 c1)
        rw [c0] at z0
        generalize byteAt l 1 = x1 at *
        clear c0 c1
        go_wp2_with fail
        have B2 := Blk.fill [.int .i64 0, .int .i64 0, .int .i64 0] 0 HBG.out (by simp)
        have hb2 := hid (below_fill (b := g) (Nat.le_refl g) [.int .i64 0, .int .i64 0, .int .i64 0] 0 BTx.out)
        show bodyPost _ _ _ _ _ (setAll w1r g 0 [.int .i64 0, .int .i64 0, .int .i64 0])
        generalize setAll w1r g 0 _ = w7x at *
        obtain ⟨l7, k7, f7⟩ := B2
        refine bodyPost_ret (v := .tuple #[.int .i64 0, .agg #[.int .i64 0, .int .i64 0, .int .i64 0], .slice none 0 0, .bool false]) (by simp [results, Try.results51, go_sem, k7, fillC]) rfl ?_
        exact EB.out w7x hgood.out hb2.out
    · have hne : ((byteAt l 0 : Int) != 67) = true := by simp; omega
      have hgood := hid (show goodB l = false by
        cases hgd : goodB l with
        | false => rfl
        | true => exact absurd (GI.out.1 hgd).1 c0)
      generalize byteAt l 0 = x0 at *
      clear c0
      go_wp2_with fail
      have B2 := Blk.fill [.int .i64 0, .int .i64 0, .int .i64 0] 0 HBG.out (by simp)
      have hb2 := hid (below_fill (b := g) (Nat.le_refl g) [.int .i64 0, .int .i64 0, .int .i64 0] 0 BTx.out)
      show bodyPost _ _ _ _ _ (setAll w1r g 0 [.int .i64 0, .int .i64 0, .int .i64 0])
      generalize setAll w1r g 0 _ = w7x at *
      obtain ⟨l7, k7, f7⟩ := B2
      refine bodyPost_ret (v := .tuple #[.int .i64 0, .agg #[.int .i64 0, .int .i64 0, .int .i64 0], .slice none 0 0, .bool false]) (by simp [results, Try.results51, go_sem, k7, fillC]) rfl ?_
      exact EB.out w7x hgood.out hb2.out
end Go.Proofs.Ytgnnikjpnmalmaa
