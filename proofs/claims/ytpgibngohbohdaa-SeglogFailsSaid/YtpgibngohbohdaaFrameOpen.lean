/-
  Package frame: Open.
-/
import Derived.Test.YtpgibngohbohdaaFrameSound
import Derived.Lib.SlBytesConst
namespace Go.Proofs.Ytpgibngohbohdaa
open Go.RowKit
set_option linter.unusedVariables false
set_option linter.unusedSimpArgs false

/-- A slice of octets, as it is handed out. -/
def OctV (w : World) (v : Value) (l : List UInt8) : Prop := ∃ a cap, v = .slice a l.length cap ∧ Octs w a l ∧ l.length ≤ cap ∧ (∀ x, a = some x → x.spot = none)
theorem OctV.more {w w' : World} {v : Value} {l : List UInt8} (h : OctV w v l) (hb : Below w.heap.size w w') : OctV w' v l := by
  obtain ⟨a, cap, h1, h2, h3, h4⟩ := h
  exact ⟨a, cap, h1, h2.more hb, h3, h4⟩
theorem OctV.conv {w : World} {v : Value} {l : List UInt8} (h : OctV w v l) : (convert 35 9 v).run Try.prog w = .ok (.string (textOf l)) w := by
  obtain ⟨a, cap, rfl, O, _, _⟩ := h
  exact conv_octs O cap

def OpenPost (l : List UInt8) (w : World) (e : Ending) (w' : World) : Prop :=
  ∃ v, e = .returned (.tuple #[.int .i64 (openK l), sval (openS l), v, .int .i64 (openE l)]) ∧ OctV w' v (openT l) ∧ Below w.heap.size w w'

theorem open_bad {l : List UInt8} (h : goodB l = false) : openK l = 0 ∧ openS l = ⟨0, 0, 0⟩ ∧ openT l = [] ∧ openE l = 16 := by
  simp [openK, openS, openT, openE, h]
theorem open_good {l : List UInt8} (h : goodB l = true) : openK l = numOf ((l.drop 2).take 1) ∧ openS l = ⟨numOf ((l.drop 3).take 4), numOf ((l.drop 7).take 4), numOf ((l.drop 11).take 2)⟩ ∧ openT l = (l.drop 14).take (txtN l) ∧ openE l = 0 := by
  simp [openK, openS, openT, openE, h]
theorem OctV.none (w : World) : OctV w (.slice Option.none 0 0) [] := ⟨Option.none, 0, rfl, Octs.nil _ _, Nat.le_refl _, fun x h => by cases h⟩

theorem bytes_of_str_at (w : World) (s : ByteArray) : ∃ bc w', (convert 9 35 (.string s)).run Try.prog w = .ok (.slice (some ⟨w.heap.size, 0, none⟩) s.size bc) w' ∧ s.size ≤ bc ∧ Octs w' (some ⟨w.heap.size, 0, none⟩) s.data.toList ∧ Below w.heap.size w w' := by
  have h := run_bytes_of_string (P := Try.prog) w 9 35 5 s Try.underlying9 Try.underlying35 Try.underlying5
  refine ⟨_, _, h, grownCap_ge _ _ _ _, ?_, (Below.refl w.heap.size w).drew.alloc (Nat.le_refl _) _⟩
  refine .inr ⟨w.heap.size, 0, rfl, by simp, fun i hi => ?_⟩
  have hi' : i < s.data.size := by simpa using hi
  rw [Nat.zero_add, cell_of_row _ w.heap.size i _ _ _ (heap_alloc_new w.drew _), bytesRow_at s _ i hi']
  simp
theorem part_take (l : List UInt8) (k m : Nat) (h : k + m ≤ 252) : ((l.take 252).drop k).take m = (l.drop k).take m := by
  rw [List.drop_take, List.take_take, Nat.min_eq_left (by omega)]
theorem txt_take (l : List UInt8) : txtN l = numOf (((l.take 252).drop 13).take 1) := by
  unfold txtN
  rw [List.drop_take, List.take_take]
  rfl
/-- What is asked behind the sum. -/
theorem frame_ways (l : List UInt8) (hlen : l.length = 256) (hs : soundB l = true) :
    goodB l = (((l.take 252).take 2 == [67, 82]) && (decide (txtN l ≤ 238) && ((l.take 252).drop (14 + txtN l)).all (· == 0))) := by
  unfold goodB
  rw [hs, List.take_take, Bool.true_and]
  congr 1
  by_cases h : l.take 2 = [67, 82] <;> simp [h]

set_option maxRecDepth 100000 in
set_option maxHeartbeats 8000000 in
theorem fopen_any (l : List UInt8) (a : Option Addr) (cap : Nat) (h1 : l.length ≤ cap) (h2 : cap ≤ maxLen) (w : World) (O : Octs w a l) :
    Calls Try.prog 84 #[.slice a l.length cap] w (OpenPost l w) := by
  obtain ⟨W0, hW0⟩ : ∃ W0, w.alloc (.cells #[.int .i64 0, .int .i64 0, .int .i64 0] 108) = W0 := ⟨_, rfl⟩
  have hb0 : Below w.heap.size w W0 := by rw [← hW0]; exact (Below.refl _ _).alloc (Nat.le_refl _) _
  have BX : Blk W0 w.heap.size #[.int .i64 0, .int .i64 0, .int .i64 0] := by rw [← hW0]; exact Blk.new w _ _
  have KS := sound_any l a cap h1 h2 W0 (O.more hb0)
  have hl' : (l.length : Int) ≤ 9223372036854775807 := by unfold maxLen at h2; omega
  cases hs : soundB l with
  | false =>
    have hg : goodB l = false := by unfold goodB; rw [hs]; rfl
    obtain ⟨q1, q2, q3, q4⟩ := open_bad hg
    rw [hs] at KS
    have E : Hid (∀ w', Below w.heap.size w w' → OpenPost l w (.returned (.tuple #[.int .i64 0, .agg #[.int .i64 0, .int .i64 0, .int .i64 0], .slice none 0 0, .int .i64 16])) w') := hid (fun w' hb =>
      ⟨_, by rw [q1, q2, q4], by rw [q3]; exact OctV.none _, hb⟩)
    replace KS := hid KS
    have HBX := hid BX
    replace hb0 := hid hb0
    clear O h1 h2 hs hg q1 q2 q3 q4 BX
    go_enter Try.func84, Try.ntmps84
    go_wp2_with fail
    refine KS.out.mono ?_
    rintro e w1 ⟨rfl, hb1⟩
    have hb := hid (below2 hb0.out hb1 hb0.out.size)
    have B1 := HBX.out.more hb1
    clear hb1 hW0
    generalize w.heap.size = g at *
    have HB1 := hid B1
    obtain ⟨lx, kx, fx⟩ := B1
    go_wp2_with fail
    have B2 := Blk.fill [.int .i64 0, .int .i64 0, .int .i64 0] 0 HB1.out (by simp)
    have hb2 := hid (below_fill (b := g) (Nat.le_refl g) [.int .i64 0, .int .i64 0, .int .i64 0] 0 hb.out)
    show bodyPost _ _ _ _ _ (setAll w1 g 0 [.int .i64 0, .int .i64 0, .int .i64 0])
    generalize setAll w1 g 0 _ = w7 at *
    obtain ⟨l7, k7, f7⟩ := B2
    refine bodyPost_ret (v := .tuple #[.int .i64 0, .agg #[.int .i64 0, .int .i64 0, .int .i64 0], .slice none 0 0, .int .i64 16]) (by simp [results, Try.results84, go_sem, k7, fillC]) rfl ?_
    exact E.out w7 hb2.out
  | true =>
    have hlen : l.length = 256 := by
      unfold soundB at hs
      simp at hs
      exact hs.1
    obtain ⟨b, o, rfl, hb, hc⟩ := O.row (by intro h; rw [h] at hlen; cases hlen)
    have O2 := (O.take 252).more hb0
    have l2 : (l.take 252).length = 252 := by simp [hlen]
    have F := frame_ways l hlen hs
    obtain ⟨n, hn, hn256⟩ : ∃ n, n = txtN l ∧ n < 256 := ⟨_, rfl, txtN_lt l⟩
    rw [← hn] at F
    rw [hs] at KS
    have KO := hid (fun (wx : World) (hb : Below W0.heap.size W0 wx) => rs_open (l.take 252) (some ⟨b, o, none⟩) cap wx (O2.more hb) (by omega))
    rw [l2] at KO
    replace KS := hid KS
    have HBX := hid BX
    have hsz0 : W0.heap.size = w.heap.size + 1 := by rw [← hW0]; simp
    rw [hlen] at h1 KS ⊢
    have e1 : (252 : Int) ≤ cap := by omega
    unfold maxLen at h2
    have EB : Hid (∀ w', goodB l = false → Below w.heap.size w w' → OpenPost l w (.returned (.tuple #[.int .i64 0, .agg #[.int .i64 0, .int .i64 0, .int .i64 0], .slice none 0 0, .int .i64 16])) w') := hid (fun w' hg hb => by
      obtain ⟨q1, q2, q3, q4⟩ := open_bad hg
      exact ⟨.slice Option.none 0 0, by rw [q1, q2, q4], by rw [q3]; exact OctV.none _, hb⟩)
    have EG : Hid (∀ (v : Value) (w' : World), goodB l = true → OctV w' v ((l.drop 14).take (txtN l)) → Below w.heap.size w w' → OpenPost l w (.returned (.tuple #[.int .i64 (numOf ((l.drop 2).take 1)), .agg #[.int .i64 (numOf ((l.drop 3).take 4)), .int .i64 (numOf ((l.drop 7).take 4)), .int .i64 (numOf ((l.drop 11).take 2))], v, .int .i64 0])) w') := hid (fun v w' hg hv hb => by
      obtain ⟨q1, q2, q3, q4⟩ := open_good hg
      exact ⟨v, by rw [q1, q2, q4], by rw [q3]; exact hv, hb⟩)
    generalize hL : l.take 252 = L at *
    have t0 : txtN l = numOf ((L.drop 13).take 1) := by rw [← hL]; exact txt_take l
    rw [← hn] at t0
    replace t0 := hid t0
    replace F := hid F
    have hN := hid hn
    replace hb0 := hid hb0
    clear O BX O2 hn hc hs
    go_enter Try.func84, Try.ntmps84
    go_wp2_with fail
    refine KS.out.mono ?_
    rintro e w1 ⟨rfl, hb1⟩
    have B1 := HBX.out.more hb1
    have hs1 := hb1.size
    clear hW0
    generalize hg : w.heap.size = g at *
    go_wp2_with fail
    refine (KO.out _ hb1).mono ?_
    rintro e w2 ⟨q, rfl, hq, R, hb2⟩
    have hgq : g < q := by omega
    have BT := hid (hb0.out.trans (below2 hb1 hb2 hs1 |>.mono (by omega)))
    have BG := hid (B1.more hb2)
    clear KO KS hb1 hb2 B1 HBX hb0
    have K := hid (rs_texts 2 2 rfl q L w2 R (by omega))
    replace R := hid R
    go_wp2_with fail
    refine K.out.mono ?_
    rintro e w3 ⟨rfl, R3, S3⟩
    replace BG := hid (BG.out.sole S3 (fun h => by have h' : g = q := h; omega))
    replace BT := hid (BT.out.trans (S3.below (B := g) (by have := BT.out.size; omega) fun k hk => by omega))
    clear K R S3
    have K := hid (rs_nums 1 1 rfl q (L.drop 2) w3 R3 (by rw [List.length_drop]; omega))
    rw [List.drop_drop] at K
    replace R3 := hid R3
    go_wp2_with fail
    refine K.out.mono ?_
    rintro e w4 ⟨rfl, R4, S4⟩
    replace BG := hid (BG.out.sole S4 (fun h => by have h' : g = q := h; omega))
    replace BT := hid (BT.out.trans (S4.below (B := g) (by have := BT.out.size; omega) fun k hk => by omega))
    clear K R3 S4
    have K := hid (rs_nums 4 4 rfl q (L.drop 3) w4 R4 (by rw [List.length_drop]; omega))
    rw [List.drop_drop] at K
    replace R4 := hid R4
    go_wp2_with fail
    refine K.out.mono ?_
    rintro e w5 ⟨rfl, R5, S5⟩
    replace BG := hid (BG.out.sole S5 (fun h => by have h' : g = q := h; omega))
    replace BT := hid (BT.out.trans (S5.below (B := g) (by have := BT.out.size; omega) fun k hk => by omega))
    clear K R4 S5
    have K := hid (rs_nums 4 4 rfl q (L.drop 7) w5 R5 (by rw [List.length_drop]; omega))
    rw [List.drop_drop] at K
    replace R5 := hid R5
    go_wp2_with fail
    refine K.out.mono ?_
    rintro e w6 ⟨rfl, R6, S6⟩
    replace BG := hid (BG.out.sole S6 (fun h => by have h' : g = q := h; omega))
    replace BT := hid (BT.out.trans (S6.below (B := g) (by have := BT.out.size; omega) fun k hk => by omega))
    clear K R5 S6
    have K := hid (rs_nums 2 2 rfl q (L.drop 11) w6 R6 (by rw [List.length_drop]; omega))
    rw [List.drop_drop] at K
    replace R6 := hid R6
    go_wp2_with fail
    refine K.out.mono ?_
    rintro e w7 ⟨rfl, R7, S7⟩
    replace BG := hid (BG.out.sole S7 (fun h => by have h' : g = q := h; omega))
    replace BT := hid (BT.out.trans (S7.below (B := g) (by have := BT.out.size; omega) fun k hk => by omega))
    clear K R6 S7
    have hbA : Below w7.heap.size w7 (w7.alloc (.cells #[.int .i64 (numOf ((L.drop 3).take 4)), .int .i64 (numOf ((L.drop 7).take 4)), .int .i64 (numOf ((L.drop 11).take 2))] 108)) := (Below.refl _ _).alloc (Nat.le_refl _) _
    have HS := hid (Blk.new w7 #[.int .i64 (numOf ((L.drop 3).take 4)), .int .i64 (numOf ((L.drop 7).take 4)), .int .i64 (numOf ((L.drop 11).take 2))] 108)
    have R8 := R7.more hbA
    have hq7 := R7.1.lt
    replace BG := hid (BG.out.more hbA)
    replace BT := hid (BT.out.trans (hbA.mono (by have := BT.out.size; omega)))
    clear R7 hbA
    generalize hw8 : w7.alloc (.cells #[.int .i64 (numOf ((L.drop 3).take 4)), .int .i64 (numOf ((L.drop 7).take 4)), .int .i64 (numOf ((L.drop 11).take 2))] 108) = w8 at *
    generalize hg7 : w7.heap.size = g7 at *
    have K := hid (rs_nums 1 1 rfl q (L.drop 13) w8 R8 (by rw [List.length_drop]; omega))
    rw [List.drop_drop, ← t0.out] at K
    replace R8 := hid R8
    go_wp2_with fail
    refine K.out.mono ?_
    rintro e w9 ⟨rfl, R9, S9⟩
    replace BG := hid (BG.out.sole S9 (fun h => by have h' : g = q := h; omega))
    replace BT := hid (BT.out.trans (S9.below (B := g) (by have := BT.out.size; omega) fun k hk => by omega))
    replace HS := hid (HS.out.sole S9 (fun h => by have h' : g7 = q := h; omega))
    clear K R8 S9
    have hl14 : (L.drop (13 + 1)).length = 238 := by rw [List.length_drop]; omega
    obtain ⟨bad, M, T, hbad, hM, hT, fin⟩ : ∃ (bad : Bool) (M T : List UInt8), bad = (false || decide ((L.drop (13 + 1)).length < n)) ∧ M = (if bad then [] else (L.drop (13 + 1)).drop n) ∧ T = (if bad then [] else (L.drop (13 + 1)).take n) ∧ ((bad = false ∧ n ≤ 238 ∧ M = L.drop (14 + n) ∧ T = (L.drop 14).take n) ∨ (bad = true ∧ 238 < n ∧ M = [] ∧ T = [])) := by
      refine ⟨_, _, _, rfl, rfl, rfl, ?_⟩
      rw [hl14]
      by_cases h : 238 < n
      · exact .inr (by simp [h])
      · exact .inl (by simp [h]; omega)
    have K := rs_text n n (by omega) q (L.drop (13 + 1)) false bad hbad w9 R9
    rw [← hM, ← hT] at K
    replace K := hid K
    replace fin := hid fin
    have hTl : T.length ≤ 255 := by
      rcases fin.out with ⟨_, _, _, h⟩ | ⟨_, _, _, h⟩
      · rw [h, List.length_take]; omega
      · rw [h]; simp
    replace R9 := hid R9
    clear hbad hM hT hl14
    go_wp2_with fail
    refine K.out.mono ?_
    rintro e w10 ⟨rfl, R10, S10⟩
    replace BG := hid (BG.out.sole S10 (fun h => by have h' : g = q := h; omega))
    replace BT := hid (BT.out.trans (S10.below (B := g) (by have := BT.out.size; omega) fun k hk => by omega))
    replace HS := hid (HS.out.sole S10 (fun h => by have h' : g7 = q := h; omega))
    clear K R9 S10
    obtain ⟨tc, w11, kc, tc1, OT, hbT⟩ := bytes_of_str_at w10 (textOf T)
    have hq10 := R10.1.lt
    have R11 := hid (R10.more hbT)
    replace BG := hid (BG.out.more hbT)
    replace BT := hid (BT.out.trans (hbT.mono (by have := BT.out.size; omega)))
    replace HS := hid (HS.out.more hbT)
    generalize w10.heap.size = gt at *
    replace OT := hid OT
    clear R10 hbT
    go_wp2_with fail
    generalize hs0 : (L.take 2 == [67, 82]) = s0 at *
    replace hs0 := hid hs0
    clear hw8 kc
    go_loopg [7] M.length (fun gk sv wx => ∃ k : Nat, k + gk = M.length ∧ sv = .bool (s0 && (M.take k).all (· == 0)) ∧ RS wx q (M.drop k) bad ∧ Sole (fun j => j = q) w11 wx)
    case atStart => exact ⟨0, by omega, by simp, R11.out, Sole.refl _ _⟩
    case round =>
      obtain ⟨k, hk, rfl, R, SQ⟩ := hrel
      cases gk with
      | zero =>
        obtain rfl : k = M.length := by omega
        rw [List.drop_length] at R
        rw [List.take_length]
        have BGx := BG.out.sole SQ (fun h => by have h' : g = q := h; omega)
        have BTx := hid (BT.out.trans (SQ.below (B := g) (by have := BT.out.size; omega) fun k hk => by omega))
        have HSx := hid (HS.out.sole SQ (fun h => by have h' : g7 = q := h; omega))
        have OTx := hid (OT.out.sole SQ (fun b' o' h1 _ h2 => by cases h1; have h' : gt = q := h2; omega))
        have KL := hid (left_any q [] _ wr R.1)
        have KE := hid (err_any q [] _ wr R.1)
        have HBG := hid BGx
        clear BG BT HS OT R SQ R11
        obtain ⟨lx, kx, fx⟩ := BGx
        go_wp2_with fail
        refine KL.out.mono ?_
        rintro e w12 ⟨rfl, hw12⟩
        rw [hw12]
        clear hw12 w12
        rcases fin.out with ⟨hb', hn, hM, hT⟩ | ⟨hb', hn, hM, hT⟩
        · subst hb'
          have hgd : goodB l = (s0 && M.all (· == 0)) := by
            rw [F.out, hM]; simp [hn]
          replace hM := hid hM
          replace hT := hid hT
          cases hsd : (s0 && M.all (· == 0)) with
          | false =>
            rw [hsd] at hgd
            have hgood := hid hgd
            clear hgd hsd
            go_wp2_with fail
            have B2 := Blk.fill [.int .i64 0, .int .i64 0, .int .i64 0] 0 HBG.out (by simp)
            have hb2 := hid (below_fill (b := g) (Nat.le_refl g) [.int .i64 0, .int .i64 0, .int .i64 0] 0 BTx.out)
            show bodyPost _ _ _ _ _ (setAll wr g 0 [.int .i64 0, .int .i64 0, .int .i64 0])
            generalize setAll wr g 0 _ = w7x at *
            obtain ⟨l7, k7, f7⟩ := B2
            refine bodyPost_ret (v := .tuple #[.int .i64 0, .agg #[.int .i64 0, .int .i64 0, .int .i64 0], .slice none 0 0, .int .i64 16]) (by simp [results, Try.results84, go_sem, k7, fillC]) rfl ?_
            exact EB.out w7x hgood.out hb2.out
          | true =>
            rw [hsd] at hgd
            have hgood := hid hgd
            clear hgd hsd
            go_wp2_with fail
            refine KE.out.mono ?_
            rintro e w12 ⟨rfl, hw12⟩
            rw [hw12]
            clear hw12 w12
            obtain ⟨l8, k8, f8⟩ := HSx.out
            go_wp2_with fail
            go_region
            go_wp2_with fail
            have B2 := (Blk.fill [.int .i64 (numOf ((L.drop 3).take 4)), .int .i64 (numOf ((L.drop 7).take 4)), .int .i64 (numOf ((L.drop 11).take 2))] 0 HBG.out (by simp)).drew
            have hb2 := hid (below_fill (b := g) (Nat.le_refl g) [.int .i64 (numOf ((L.drop 3).take 4)), .int .i64 (numOf ((L.drop 7).take 4)), .int .i64 (numOf ((L.drop 11).take 2))] 0 BTx.out).drew
            have SF := sole_fill (b := g) [.int .i64 (numOf ((L.drop 3).take 4)), .int .i64 (numOf ((L.drop 7).take 4)), .int .i64 (numOf ((L.drop 11).take 2))] 0 wr
            have OTy := hid (OTx.out.sole SF (fun b' o' h1 _ h2 => by cases h1; have h' : gt = g := h2; omega))
            show bodyPost _ _ _ _ _ (setAll wr g 0 [.int .i64 (numOf ((L.drop 3).take 4)), .int .i64 (numOf ((L.drop 7).take 4)), .int .i64 (numOf ((L.drop 11).take 2))]).drew
            generalize setAll wr g 0 _ = w7x at *
            obtain ⟨l7, k7, f7⟩ := B2
            refine bodyPost_ret (v := .tuple #[.int .i64 (numOf ((L.drop 2).take 1)), .agg #[.int .i64 (numOf ((L.drop 3).take 4)), .int .i64 (numOf ((L.drop 7).take 4)), .int .i64 (numOf ((L.drop 11).take 2))], .slice (some ⟨gt, 0, none⟩) T.length tc, .int .i64 0]) (by simp [results, Try.results84, go_sem, k7, fillC]) rfl ?_
            have e2 := part_take l 2 1 (by omega)
            have e3 := part_take l 3 4 (by omega)
            have e7 := part_take l 7 4 (by omega)
            have e11 := part_take l 11 2 (by omega)
            rw [hL] at e2 e3 e7 e11
            rw [e2, e3, e7, e11]
            refine EG.out _ _ hgood.out ?_ hb2.out
            have hTT : T = (l.drop 14).take (txtN l) := by rw [hT.out, ← hL, hN.out]; exact part_take l 14 _ (by have := hN.out; omega)
            rw [← hTT]
            have hts : (textOf T).size = T.length := by simp [ByteArray.size]
            exact ⟨_, _, rfl, OTy.out, by omega, fun x h => by cases h; rfl⟩
        · subst hb'
          subst hM
          have hgd : goodB l = false := by
            rw [F.out, show decide (n ≤ 238) = false from decide_eq_false (by omega)]; simp
          have hgood := hid hgd
          clear hgd
          rw [List.all_nil, Bool.and_true]
          cases s0 with
          | false =>
            go_wp2_with fail
            have B2 := Blk.fill [.int .i64 0, .int .i64 0, .int .i64 0] 0 HBG.out (by simp)
            have hb2 := hid (below_fill (b := g) (Nat.le_refl g) [.int .i64 0, .int .i64 0, .int .i64 0] 0 BTx.out)
            show bodyPost _ _ _ _ _ (setAll wr g 0 [.int .i64 0, .int .i64 0, .int .i64 0])
            generalize setAll wr g 0 _ = w7x at *
            obtain ⟨l7, k7, f7⟩ := B2
            refine bodyPost_ret (v := .tuple #[.int .i64 0, .agg #[.int .i64 0, .int .i64 0, .int .i64 0], .slice none 0 0, .int .i64 16]) (by simp [results, Try.results84, go_sem, k7, fillC]) rfl ?_
            exact EB.out w7x hgood.out hb2.out
          | true =>
            go_wp2_with fail
            refine KE.out.mono ?_
            rintro e w12 ⟨rfl, hw12⟩
            rw [hw12]
            clear hw12 w12
            go_wp2_with fail
            have B2 := Blk.fill [.int .i64 0, .int .i64 0, .int .i64 0] 0 HBG.out (by simp)
            have hb2 := hid (below_fill (b := g) (Nat.le_refl g) [.int .i64 0, .int .i64 0, .int .i64 0] 0 BTx.out)
            show bodyPost _ _ _ _ _ (setAll wr g 0 [.int .i64 0, .int .i64 0, .int .i64 0])
            generalize setAll wr g 0 _ = w7x at *
            obtain ⟨l7, k7, f7⟩ := B2
            refine bodyPost_ret (v := .tuple #[.int .i64 0, .agg #[.int .i64 0, .int .i64 0, .int .i64 0], .slice none 0 0, .int .i64 16]) (by simp [results, Try.results84, go_sem, k7, fillC]) rfl ?_
            exact EB.out w7x hgood.out hb2.out
      | succ gk =>
        have hkM : k < M.length := by omega
        obtain ⟨rfl, _, _, _⟩ : bad = false ∧ True ∧ True ∧ True := by
          rcases fin.out with ⟨hb', _⟩ | ⟨_, _, hM, _⟩
          · exact ⟨hb', trivial, trivial, trivial⟩
          · rw [hM] at hkM; exact absurd hkM (Nat.not_lt_zero _)
        have hdr : (M.drop k).take 1 = [M[k]] := by rw [List.drop_eq_getElem_cons hkM]; rfl
        have hx : numOf ((M.drop k).take 1) = (M[k]).toNat := by rw [hdr]; simp [numOf]
        have hst : (s0 && (M.take (k + 1)).all (· == 0)) = ((s0 && (M.take k).all (· == 0)) && (M[k] == 0)) := by
          rw [List.take_succ_eq_append_getElem hkM, List.all_append, ← Bool.and_assoc]; simp
        have hl1 : ((M.drop k).length : Int) = M.length - k := by rw [List.length_drop]; omega
        have KL := left_any q (M.drop k) _ wr R.1
        rw [hl1] at KL
        have KN := rs_nums 1 1 rfl q (M.drop k) wr R (by rw [List.length_drop]; omega)
        rw [hx, List.drop_drop] at KN
        have hml : (M.length : Int) ≤ 1000 := by
          rcases fin.out with ⟨_, _, hM, _⟩ | ⟨_, _, hM, _⟩
          · rw [hM, List.length_drop]; omega
          · rw [hM]; decide
        have hpos : 0 < (M.length : Int) - k := by omega
        have uu : IntKind.i64.wrap ((M.length : Int) - k) = (M.length : Int) - k := IntWalk.i64_in _ (by omega)
        clear hdr hx hl1
        generalize hsk : (s0 && (M.take k).all (· == 0)) = sk at *
        by_cases hz : M[k] = 0
        · rw [show (((M[k]).toNat : Nat) : Int) = 0 by rw [hz]; rfl] at KN
          rw [hz] at hst
          have hst' : (s0 && (M.take (k + 1)).all (· == 0)) = sk := by rw [hst]; simp
          replace hst' := hid hst'
          replace KL := hid KL
          replace KN := hid KN
          replace SQ := hid SQ
          clear hst hz R hsk
          go_wp2_with fail
          refine KL.out.mono ?_
          rintro e w12 ⟨rfl, hw12⟩
          rw [hw12]
          clear hw12 w12
          go_wp2_with fail
          refine KN.out.mono ?_
          rintro e w13 ⟨rfl, R13, S13⟩
          have SX := hid (SQ.out.trans S13)
          replace R13 := hid R13
          clear S13
          go_wp2_with fail
          go_roundg gk
          case rel => exact ⟨k + 1, by omega, by rw [hst'.out], R13.out, SX.out⟩
          case measure => omega
        · have hne : (((M[k]).toNat : Int) == 0) = false := by
            have : (M[k]).toNat ≠ 0 := fun h => hz (UInt8.toNat_inj.1 (by rw [h]; rfl))
            simpa using this
          have hst' : (s0 && (M.take (k + 1)).all (· == 0)) = false := by rw [hst]; simp [hz]
          generalize (M[k]).toNat = c at *
          replace hst' := hid hst'
          replace KL := hid KL
          replace KN := hid KN
          replace SQ := hid SQ
          clear hst hz R hsk
          go_wp2_with fail
          refine KL.out.mono ?_
          rintro e w12 ⟨rfl, hw12⟩
          rw [hw12]
          clear hw12 w12
          go_wp2_with fail
          refine KN.out.mono ?_
          rintro e w13 ⟨rfl, R13, S13⟩
          have SX := hid (SQ.out.trans S13)
          replace R13 := hid R13
          clear S13
          go_wp2_with fail
          go_roundg gk
          case rel => exact ⟨k + 1, by omega, by rw [hst'.out], R13.out, SX.out⟩
          case measure => omega
end Go.Proofs.Ytpgibngohbohdaa
