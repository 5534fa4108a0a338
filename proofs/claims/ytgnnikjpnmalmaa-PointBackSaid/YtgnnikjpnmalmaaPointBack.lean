/-
  Layer 7: points that may be come back, one behind the other. The walk.
-/
import Derived.Test.YtgnnikjpnmalmaaPointAlive
import Derived.Test.YtgnnikjpnmalmaaPointGetWalk
import Derived.Test.YtgnnikjpnmalmaaPlainOnce
namespace Go.Proofs.Ytgnnikjpnmalmaa
open Go.RowKit
set_option linter.unusedVariables false
set_option linter.unusedSimpArgs false

/-- Points' octets, one behind the other. -/
def pointsB (L : List Pt) : List UInt8 := L.flatMap pointB
theorem pointsB_length (L : List Pt) (h : ∀ q ∈ L, q.may) : (pointsB L).length ≤ L.length * 29 := by
  induction L with
  | nil => simp [pointsB]
  | cons q L ih =>
    have h1 := ih fun x hx => h x (List.mem_cons_of_mem _ hx)
    have h2 := pointB_length q
    have h3 := (h q List.mem_cons_self).2.2
    simp only [pointsB, List.flatMap_cons, List.length_append, List.length_cons] at h1 ⊢
    omega
theorem pointsB_take (L : List Pt) (k : Nat) (hk : k < L.length) : pointsB (L.take (k + 1)) = pointsB (L.take k) ++ pointB (ptAt L k) := by
  unfold pointsB
  rw [List.take_succ_eq_append_getElem hk, ptAt_eq L k hk, List.flatMap_append, List.flatMap_cons, List.flatMap_nil, List.append_nil]
theorem pointsB_drop (L : List Pt) (k : Nat) (hk : k < L.length) : pointsB (L.drop k) = pointB (ptAt L k) ++ pointsB (L.drop (k + 1)) := by
  unfold pointsB
  rw [List.drop_eq_getElem_cons hk, ptAt_eq L k hk, List.flatMap_cons]

/-- A point that may be comes back from its octets. -/
theorem pointOf_back (P : Pt) (hP : P.ok) (hm : P.may) (m : List UInt8) : pointOf (pointB P ++ m) = P ∧ lenAt (pointB P ++ m) = P.d.size := by
  obtain ⟨i1, i2, x1, x2, y1, y2, _⟩ := hP
  obtain ⟨m1, m2, m3⟩ := hm
  have e : pointB P ++ m = leB P.id.toNat 4 ++ (leB P.x.toNat 4 ++ (leB P.y.toNat 4 ++ (leB P.d.size 1 ++ (P.d.data.toList ++ m)))) := by simp [pointB, List.append_assoc]
  have l1 := leB_length 4 P.id.toNat
  have l2 := leB_length 4 P.x.toNat
  have l3 := leB_length 4 P.y.toNat
  have l4 := leB_length 1 P.d.size
  have t1 : (pointB P ++ m).take 4 = leB P.id.toNat 4 := by rw [e, List.take_append_of_le_length (by omega), List.take_of_length_le (by omega)]
  have d1 : (pointB P ++ m).drop 4 = leB P.x.toNat 4 ++ (leB P.y.toNat 4 ++ (leB P.d.size 1 ++ (P.d.data.toList ++ m))) := by rw [e, List.drop_append_of_le_length (by omega), List.drop_of_length_le (by omega), List.nil_append]
  have d2 : (pointB P ++ m).drop 8 = leB P.y.toNat 4 ++ (leB P.d.size 1 ++ (P.d.data.toList ++ m)) := by
    rw [show 8 = 4 + 4 from rfl, ← List.drop_drop, d1, List.drop_append_of_le_length (by omega), List.drop_of_length_le (by omega), List.nil_append]
  have d3 : (pointB P ++ m).drop 12 = leB P.d.size 1 ++ (P.d.data.toList ++ m) := by
    rw [show 12 = 8 + 4 from rfl, ← List.drop_drop, d2, List.drop_append_of_le_length (by omega), List.drop_of_length_le (by omega), List.nil_append]
  have d4 : (pointB P ++ m).drop 13 = P.d.data.toList ++ m := by
    rw [show 13 = 12 + 1 from rfl, ← List.drop_drop, d3, List.drop_append_of_le_length (by omega), List.drop_of_length_le (by omega), List.nil_append]
  have n4 : numOf (((pointB P ++ m).drop 12).take 1) = P.d.size := by
    rw [d3, List.take_append_of_le_length (by omega), List.take_of_length_le (by omega), numOf_leB]
    exact Nat.mod_eq_of_lt (by omega)
  refine ⟨?_, n4⟩
  have n1 : (numOf ((pointB P ++ m).take 4) : Int) = P.id := by
    rw [t1, numOf_leB, Nat.mod_eq_of_lt (by omega)]; omega
  have n2 : (numOf (((pointB P ++ m).drop 4).take 4) : Int) = P.x := by
    rw [d1, List.take_append_of_le_length (by omega), List.take_of_length_le (by omega), numOf_leB, Nat.mod_eq_of_lt (by omega)]; omega
  have n3 : (numOf (((pointB P ++ m).drop 8).take 4) : Int) = P.y := by
    rw [d2, List.take_append_of_le_length (by omega), List.take_of_length_le (by omega), numOf_leB, Nat.mod_eq_of_lt (by omega)]; omega
  have n5 : textOf (((pointB P ++ m).drop 13).take (numOf (((pointB P ++ m).drop 12).take 1))) = P.d := by
    have sl := size_list P.d
    rw [n4, d4, List.take_append_of_le_length (by omega), List.take_of_length_le (by omega)]
  unfold pointOf
  rw [n1, n2, n3, n5]
theorem get_back (P : Pt) (hP : P.ok) (hm : P.may) (m l' : List UInt8) (P' : Pt) (ok bad' : Bool) (G : GetS (pointB P ++ m) false P' ok l' bad') : P' = P ∧ ok = true ∧ l' = m ∧ bad' = false := by
  obtain ⟨e1, e2⟩ := pointOf_back P hP hm m
  have hl := pointB_length P
  rcases G with ⟨_, hf, hb, hl', ⟨_, h1, h2⟩ | ⟨h1, _, _⟩⟩ | ⟨h, _⟩
  · refine ⟨h1.trans e1, h2, ?_, hb⟩
    rw [hl', e2, ← hl, List.drop_append_of_le_length (Nat.le_refl _), List.drop_of_length_le (Nat.le_refl _), List.nil_append]
  · rw [e1] at h1; exact absurd hm h1
  · rw [e2, List.length_append] at h
    rcases h with h | h
    · cases h
    · omega

set_option maxRecDepth 100000 in
set_option maxHeartbeats 8000000 in
theorem pointBack (p : Option Addr) (n cap : Nat) (f : Nat → Pt) (hf : ∀ i, i < n → (f i).ok) (h1 : n ≤ cap) (h2 : cap ≤ maxLen) (w : World) (HA : RowP w p 4 n (fun i => pcells (f i))) :
    Calls Try.prog 6 #[.slice p n cap] w fun e w' => e = .returned (.bool true) ∧ Below w.heap.size w w' := by
  have KA := hid alive07
  have KO := hid (fun wx HX => once_any p n cap f hf h1 h2 30 (by omega) wx HX)
  have KN := hid (new_any 65536)
  rw [show min (max (65536 : Int) 0) 65536 = 65536 from rfl] at KN
  replace HA := hid HA
  clear hf
  go_enter Try.func6, Try.ntmps6
  go_wp2_with fail
  refine (KA.out _).mono ?_
  rintro e w1 ⟨rfl, hb1⟩
  have H1 := HA.out.more hb1
  replace hb1 := hid hb1
  go_wp2_with fail
  refine (KO.out _ H1).mono ?_
  rintro e w2 ⟨v, L, rfl, OL, hL30, hmay, _, hb2⟩
  obtain ⟨pv, cv, rfl, c1, c2, RV⟩ := OL.open
  unfold maxLen at c2
  have hb02 := hid (below2 hb1.out hb2 hb1.out.size)
  replace RV := hid RV
  replace hmay := hid hmay
  clear OL hb1 hb2 H1 HA KO h1 h2
  go_wp2_with fail
  refine (KN.out _).mono ?_
  rintro e w3 ⟨rfl, hw3⟩
  have O3 : OutS w3 w2.heap.size none 65536 [] 0 := by rw [hw3]; exact OutS.new _ _ _
  have hb3 : Below w2.heap.size w2 w3 := by rw [hw3]; exact (Below.refl _ _).alloc (Nat.le_refl _) _
  have RL := hid (RV.out.more hb3)
  have hb03 := hid (below2 hb02.out hb3 hb02.out.size)
  have hp3 := O3.lt
  have hbr : Hid (∀ b o, pv = some ⟨b, o, none⟩ → L.length ≠ 0 → b < w2.heap.size) := hid (fun b o e h => by
    obtain ⟨b', o', e', r⟩ := RV.out.row h
    rw [e'] at e; cases e; exact r.lt)
  have hw2 := hid hb02.out.size
  generalize w2.heap.size = q at *
  replace O3 := hid O3
  clear hw3 hb3 hb02 RV KN KA
  go_wp2_with fail
  go_loopw [4] (fun i wx => ∃ (k : Nat) (a : Option Addr), k ≤ L.length ∧ i = .int .i64 (k : Int) ∧ OutS wx q a 65536 (pointsB (L.take k)) 0 ∧ Below q w3 wx) (fun i _ => L.length - (intOf i).toNat)
  case atStart => exact ⟨0, none, by omega, rfl, O3.out, Below.refl _ _⟩
  case round =>
    obtain ⟨k, a, hk, rfl, O, hb⟩ := hrel
    have hlen : (pointsB (L.take k)).length ≤ 870 := by
      have := pointsB_length (L.take k) fun x hx => (hmay.out x (List.mem_of_mem_take hx)).2
      rw [List.length_take] at this
      omega
    by_cases hlt : k < L.length
    · obtain ⟨b, o, rfl, R0⟩ := RL.out.row (by omega)
      have R := R0.below hb (hbr.out b o rfl (by omega))
      have z0 := R.at0 hlt (v := .int .i64 (ptAt L k).id) rfl
      have z1 := R.at1 hlt (v := .int .u32 (ptAt L k).x) rfl
      have z2 := R.at2 hlt (v := .int .u32 (ptAt L k).y) rfl
      have z3 := R.at3 hlt (v := .string (ptAt L k).d) rfl
      obtain ⟨hP, hM⟩ := hmay.out _ (ptAt_mem L k hlt)
      have KP := hid (point_put (ptAt L k) hP q a 65536 (pointsB (L.take k)) 0 wr O (by omega) (by omega) (by omega))
      have HB := hid hb
      have hpb := pointB_length (ptAt L k)
      have hps := hM.2.2
      replace hP := hid hP
      replace hM := hid hM
      have hst := hid (pointsB_take L k hlt)
      replace O := hid O
      clear R R0 hb
      generalize ptAt L k = P at *
      go_wp2_with fail
      refine KP.out.mono ?_
      rintro e w4 ⟨rfl, K4⟩
      have hs4 := hid (HB.out.trans (K4.sole.below (B := q) (Nat.le_of_lt O.out.lt) fun j hj => (O.out.mine hj).1))
      obtain ⟨a4, l4, e4, O4, G4, hl4, hf4⟩ := K4
      obtain ⟨rfl, rfl⟩ := hf4 ⟨by first | exact rfl | trivial, hM.out, by omega⟩
      rw [← hst.out] at O4
      replace O4 := hid O4
      clear hf4 hl4 G4 KP z0 z1 z2 z3
      go_wp2_with fail
      go_roundw
      case rel => exact ⟨k + 1, a4, by omega, by go_num, O4.out, hs4.out⟩
      case measure => simp [intOf]; omega
    · obtain rfl : k = L.length := by omega
      rw [List.take_length] at O hlen
      have KD := hid (done_ok q a 65536 (pointsB L) wr O (by omega))
      replace O := hid O
      replace hb := hid hb
      go_wp2_with fail
      refine KD.out.mono ?_
      rintro e w5 ⟨v, rfl, xa, xc, rfl, OX, hb5⟩
      have XO := Octs.of_own OX
      have hsz : q ≤ wr.heap.size := Nat.le_of_lt O.out.lt
      have hb5' := hid (hb.out.trans (hb5.mono hsz))
      have hz5 := hb5.size
      have KOp := hid (open_any (pointsB L) xa xc w5 XO (by omega))
      clear OX hb5 KD XO
      go_wp2_with fail
      refine KOp.out.mono ?_
      rintro e w6 ⟨r, rfl, hr, I6, hb6⟩
      have hb6' := hid (hb5'.out.trans (hb6.mono (by omega)))
      have R6 : Hid (RS w6 r (pointsB (L.drop 0)) false) := hid ⟨I6, fun h => by cases h⟩
      have hqr : q ≤ r := by omega
      clear KOp I6 hb6 hb5' O hb
      go_wp2_with fail
      go_loopw [8, 9] (fun i z wx => ∃ (k : Nat), k ≤ L.length ∧ i = .int .i64 (k : Int) ∧ RS wx r (pointsB (L.drop k)) false ∧ Below q w3 wx) (fun i _ _ => L.length - (intOf i).toNat)
      case atStart => exact ⟨0, by omega, rfl, R6.out, hb6'.out⟩
      case round =>
        clear R6 hb6'
        obtain ⟨k, hk, rfl, R, hb⟩ := hrel
        by_cases hlt : k < L.length
        · obtain ⟨b, o, rfl, R0⟩ := RL.out.row (by omega)
          have hbq := hbr.out b o rfl (by omega)
          obtain ⟨hP, hM⟩ := hmay.out _ (ptAt_mem L k hlt)
          have KG := hid (point_get r (pointsB (L.drop k)) false wr R)
          have hr1 := R.1.lt
          have hgb := hid (fun l' P' ok bad' G => get_back (ptAt L k) hP hM (pointsB (L.drop (k + 1))) l' P' ok bad' G)
          rw [← pointsB_drop L k hlt] at hgb
          replace hb := hid hb
          replace R := hid R
          clear hP hM
          replace R0 := hid R0
          go_wp2_with fail
          refine KG.out.mono ?_
          rintro e w7 ⟨P', ok, l', bad', rfl, GS, R7, S7⟩
          obtain ⟨rfl, rfl, rfl, rfl⟩ := hgb.out _ _ _ _ GS
          have hb7 : Below q w3 w7 := hb.out.trans (S7.below (B := q) (by omega) fun j hj => by omega)
          have R8 := R0.out.below hb7 hbq
          have z0 := R8.at0 hlt (v := .int .i64 (ptAt L k).id) rfl
          have z1 := R8.at1 hlt (v := .int .u32 (ptAt L k).x) rfl
          have z2 := R8.at2 hlt (v := .int .u32 (ptAt L k).y) rfl
          have z3 := R8.at3 hlt (v := .string (ptAt L k).d) rfl
          have hb8 := hid (hb7.alloc (by have := R7.1.lt; omega) (.cells #[.int .i64 (ptAt L k).id, .int .u32 (ptAt L k).x, .int .u32 (ptAt L k).y, .string (ptAt L k).d] 33))
          have R9 := hid (R7.more ((Below.refl _ _).alloc (Nat.le_refl _) (.cells #[.int .i64 (ptAt L k).id, .int .u32 (ptAt L k).x, .int .u32 (ptAt L k).y, .string (ptAt L k).d] 33)))
          have hbl : b < w7.heap.size := R8.lt
          clear S7 KG R7 hb7 R8 hgb GS
          go_wp2_with fail
          go_quiet (fail)
          go_wp2_with fail
          go_roundw
          case rel => exact ⟨k + 1, by omega, by go_num, R9.out.more ⟨rfl, rfl, rfl, Nat.le_refl _, fun _ _ => rfl⟩, ⟨hb8.out.os, hb8.out.tape, hb8.out.output, hb8.out.size, hb8.out.block⟩⟩
          case measure => simp [intOf]; omega
        · obtain rfl : k = L.length := by omega
          rw [List.drop_length] at R
          have KL := hid (left_any r _ _ wr R.1)
          rw [show pointsB [] = [] from rfl] at KL
          replace R := hid R
          replace hb := hid hb
          go_wp2_with fail
          refine KL.out.mono ?_
          rintro e w7 ⟨rfl, rfl⟩
          go_wp2_with fail
          go_ret
          exact ⟨rfl, hb03.out.trans (hb.out.mono hw2.out)⟩
end Go.Proofs.Ytgnnikjpnmalmaa
