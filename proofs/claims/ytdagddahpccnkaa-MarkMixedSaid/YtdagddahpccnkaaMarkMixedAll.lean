/-
  MarkMixed answers true for any two marks and any choice of sectors, and changes nothing that was there: sectors of two marks of unlike epochs, mixed, are none's; nor are too few, or too many. For every input, without a condition.
-/
import Derived.Test.YtdagddahpccnkaaFrameSeal
import Derived.Test.YtdagddahpccnkaaRefNum
import Derived.Test.YtdagddahpccnkaaCrcRef
import Derived.Deep.RegionHeld3
import Derived.Test.YtdagddahpccnkaaMarkWr
import Derived.Lib.AppendZeros
import Derived.Test.YtdagddahpccnkaaMarkRdAll
import Derived.Test.YtdagddahpccnkaaArrArg
import Derived.Test.YtdagddahpccnkaaMarkMath
import Derived.Laws.IdiomArrays
import Derived.Test.YtdagddahpccnkaaLift
import Derived.Test.YtdagddahpccnkaaOpen

/-
  The document's own sectors: Sector.
-/


namespace Go.Proofs.Ytdagddahpccnkaa
open Go.RowKit
set_option linter.unusedVariables false
set_option linter.unusedSimpArgs false

set_option maxRecDepth 100000 in
set_option maxHeartbeats 8000000 in
theorem sector_bad (kind : Int) (t : Stp) (l : List UInt8) (a : Option Addr) (cap : Nat) (hl : l.length ≤ 9223372036854775807) (h : ¬ (stFits kind t ∧ l.length ≤ 238)) (w : World) :
    Calls Try.prog 24 #[.int .i64 kind, sval t, .slice a l.length cap] w (SealPost kind t l w) := by
  have E : Hid (∀ c, c = sealC kind t l.length → SealPost kind t l w (.returned (.tuple #[.slice none 0 0, .int .i64 c])) (w.alloc (.cells (scells t) 54))) := hid (fun c hc =>
    ⟨.slice none 0 0, by rw [hc], by unfold sealL; rw [if_neg h]; exact Fresh.none ((Below.refl _ _).alloc (Nat.le_refl _) _)⟩)
  have bad : ∀ h : ¬ stFits kind t, sealC kind t l.length = 4 := fun h => by unfold sealC; rw [if_neg h]
  have hlI : (l.length : Int) ≤ 9223372036854775807 := by omega

  by_cases c0 : kind < 0
  · have E4 := hid (E.out 4 (Eq.symm (bad fun hf => by obtain ⟨k0, k1, e0, e1, s0, s1, a0, a1⟩ := hf; omega)))
    clear E bad h hl hlI
    go_enter Try.func24, Try.ntmps24
    go_wp2_with fail
    go_ret2
    exact E4.out
  by_cases c1 : 255 < kind
  · have E4 := hid (E.out 4 (Eq.symm (bad fun hf => by obtain ⟨k0, k1, e0, e1, s0, s1, a0, a1⟩ := hf; omega)))
    replace c0 := decide_eq_false c0
    clear E bad h hl hlI
    go_enter Try.func24, Try.ntmps24
    go_wp2_with fail
    go_ret2
    exact E4.out
  by_cases c2 : t.e < 0
  · have E4 := hid (E.out 4 (Eq.symm (bad fun hf => by obtain ⟨k0, k1, e0, e1, s0, s1, a0, a1⟩ := hf; omega)))
    replace c0 := decide_eq_false c0
    replace c1 := decide_eq_false c1
    clear E bad h hl hlI
    go_enter Try.func24, Try.ntmps24
    go_wp2_with fail
    go_ret2
    exact E4.out
  by_cases c3 : 4294967295 < t.e
  · have E4 := hid (E.out 4 (Eq.symm (bad fun hf => by obtain ⟨k0, k1, e0, e1, s0, s1, a0, a1⟩ := hf; omega)))
    replace c0 := decide_eq_false c0
    replace c1 := decide_eq_false c1
    replace c2 := decide_eq_false c2
    clear E bad h hl hlI
    go_enter Try.func24, Try.ntmps24
    go_wp2_with fail
    go_ret2
    exact E4.out
  by_cases c4 : t.s < 0
  · have E4 := hid (E.out 4 (Eq.symm (bad fun hf => by obtain ⟨k0, k1, e0, e1, s0, s1, a0, a1⟩ := hf; omega)))
    replace c0 := decide_eq_false c0
    replace c1 := decide_eq_false c1
    replace c2 := decide_eq_false c2
    replace c3 := decide_eq_false c3
    clear E bad h hl hlI
    go_enter Try.func24, Try.ntmps24
    go_wp2_with fail
    go_ret2
    exact E4.out
  by_cases c5 : 4294967295 < t.s
  · have E4 := hid (E.out 4 (Eq.symm (bad fun hf => by obtain ⟨k0, k1, e0, e1, s0, s1, a0, a1⟩ := hf; omega)))
    replace c0 := decide_eq_false c0
    replace c1 := decide_eq_false c1
    replace c2 := decide_eq_false c2
    replace c3 := decide_eq_false c3
    replace c4 := decide_eq_false c4
    clear E bad h hl hlI
    go_enter Try.func24, Try.ntmps24
    go_wp2_with fail
    go_ret2
    exact E4.out
  by_cases c6 : t.a < 0
  · have E4 := hid (E.out 4 (Eq.symm (bad fun hf => by obtain ⟨k0, k1, e0, e1, s0, s1, a0, a1⟩ := hf; omega)))
    replace c0 := decide_eq_false c0
    replace c1 := decide_eq_false c1
    replace c2 := decide_eq_false c2
    replace c3 := decide_eq_false c3
    replace c4 := decide_eq_false c4
    replace c5 := decide_eq_false c5
    clear E bad h hl hlI
    go_enter Try.func24, Try.ntmps24
    go_wp2_with fail
    go_ret2
    exact E4.out
  by_cases c7 : 65535 < t.a
  · have E4 := hid (E.out 4 (Eq.symm (bad fun hf => by obtain ⟨k0, k1, e0, e1, s0, s1, a0, a1⟩ := hf; omega)))
    replace c0 := decide_eq_false c0
    replace c1 := decide_eq_false c1
    replace c2 := decide_eq_false c2
    replace c3 := decide_eq_false c3
    replace c4 := decide_eq_false c4
    replace c5 := decide_eq_false c5
    replace c6 := decide_eq_false c6
    clear E bad h hl hlI
    go_enter Try.func24, Try.ntmps24
    go_wp2_with fail
    go_ret2
    exact E4.out
  have hf : stFits kind t := ⟨by omega, by omega, by omega, by omega, by omega, by omega, by omega, by omega⟩
  have hlong : 238 < (l.length : Int) := by
    have : ¬ l.length ≤ 238 := fun hh => h ⟨hf, hh⟩
    omega
  have E4 := hid (E.out 5 (show 5 = sealC kind t l.length by unfold sealC; rw [if_pos hf, if_neg (by omega)]))
  replace c0 := decide_eq_false c0
  replace c1 := decide_eq_false c1
  replace c2 := decide_eq_false c2
  replace c3 := decide_eq_false c3
  replace c4 := decide_eq_false c4
  replace c5 := decide_eq_false c5
  replace c6 := decide_eq_false c6
  replace c7 := decide_eq_false c7
  clear E bad h hl hf
  go_enter Try.func24, Try.ntmps24
  go_wp2_with fail
  go_ret2
  exact E4.out
end Go.Proofs.Ytdagddahpccnkaa

/-
  The document's own sectors: Sector, where one can be.
-/



namespace Go.Proofs.Ytdagddahpccnkaa
open Go.RowKit
set_option linter.unusedVariables false
set_option linter.unusedSimpArgs false

theorem octs_len {w : World} {b : Nat} {a : Option Addr} {n cap : Nat} {L : List UInt8} (h : L.length = n) (own : w.ownsRow b 5 1 (.slice a n cap) n (Lib.byteCells L)) : Octs w a L := by
  subst h; exact Octs.of_own own
theorem two_new (w : World) (x y : UInt8) (t : TypeId) : Octs (w.alloc (.cells #[.int .u8 (x.toNat : Int), .int .u8 (y.toNat : Int)] t)) (some ⟨w.heap.size, 0, none⟩) [x, y] := by
  refine .inr ⟨w.heap.size, 0, rfl, by simp, fun i hi => ?_⟩
  have : i = 0 ∨ i = 1 := by simp at hi; omega
  rcases this with rfl | rfl <;> simp
theorem own_form {w : World} {b n : Nat} {v : Value} {L : List UInt8} (own : w.ownsRow b 5 1 v n (Lib.byteCells L)) : ∃ a cap, v = .slice a n cap := by
  rcases own.2 with ⟨rfl, h0⟩ | ⟨g, c, cur, rfl, _⟩
  · exact ⟨none, 0, by rw [h0]⟩
  · exact ⟨_, c, rfl⟩

set_option maxRecDepth 100000 in
set_option maxHeartbeats 16000000 in
theorem sector_ok (kind : Int) (t : Stp) (l : List UInt8) (a : Option Addr) (cap : Nat) (hf : stFits kind t) (hl : l.length ≤ 238) (w : World) (O : Octs w a l) :
    Calls Try.prog 24 #[.int .i64 kind, sval t, .slice a l.length cap] w (SealPost kind t l w) := by
  obtain ⟨W0, hW0⟩ : ∃ W0, w.alloc (.cells (scells t) 54) = W0 := ⟨_, rfl⟩
  have hb0 : Below w.heap.size w W0 := by rw [← hW0]; exact (Below.refl _ _).alloc (Nat.le_refl _) _
  have BX : Blk W0 w.heap.size (scells t) := by rw [← hW0]; exact Blk.new w _ _
  have O0 := hid (O.more hb0)
  have E : Hid (∀ v w1 w', Below w.heap.size w w1 → Fresh w1 w' v (sealB kind t l) → SealPost kind t l w (.returned (.tuple #[v, .int .i64 0])) w') := hid (fun v w1 w' hb F => by
    refine ⟨v, by unfold sealC; rw [if_pos hf, if_pos hl], ?_⟩
    unfold sealL
    rw [if_pos ⟨hf, hl⟩]
    obtain ⟨xa, xc, hv, OX, hb'⟩ := F
    exact ⟨xa, xc, hv, own_base OX hb.size, below2 hb hb' hb.size⟩)
  obtain ⟨k0, k1, e0, e1, s0, s1, a0, a1⟩ := hf
  have KK := hid (fun w => refNum_fit kind 1 1 rfl k0 (by omega) (by omega) w)
  have KE := hid (fun w => refNum_fit t.e 4 4 rfl e0 (by omega) (by omega) w)
  have KQ := hid (fun w => refNum_fit t.s 4 4 rfl s0 (by omega) (by omega) w)
  have KA := hid (fun w => refNum_fit t.a 2 2 rfl a0 (by omega) (by omega) w)
  have KL := hid (fun w => refNum_fit l.length 1 1 rfl (by omega) (by omega) (by omega) w)
  have hlI : (l.length : Int) ≤ 238 := by omega
  have cl := hid (crcN_lt (bodyB kind t l))
  have bl := hid (bodyB_length kind t l hl)
  have hsB := hid (show [67, 82] ++ leB kind.toNat 1 ++ leB t.e.toNat 4 ++ leB t.s.toNat 4 ++ leB t.a.toNat 2 ++ leB (l.length : Int).toNat 1 ++ l ++ List.replicate (238 - l.length) 0 = bodyB kind t l by simp [bodyB, headB, List.append_assoc])
  have HBX := hid BX
  have g1 := decide_eq_false (p := kind < 0) (by omega)
  have g2 := decide_eq_false (p := 255 < kind) (by omega)
  have g3 := decide_eq_false (p := t.e < 0) (by omega)
  have g4 := decide_eq_false (p := 4294967295 < t.e) (by omega)
  have g5 := decide_eq_false (p := t.s < 0) (by omega)
  have g6 := decide_eq_false (p := 4294967295 < t.s) (by omega)
  have g7 := decide_eq_false (p := t.a < 0) (by omega)
  have g8 := decide_eq_false (p := 65535 < t.a) (by omega)
  have g9 := decide_eq_false (p := 238 < (l.length : Int)) (by omega)
  replace hb0 := hid hb0
  clear BX O
  go_enter Try.func24, Try.ntmps24
  obtain ⟨lx, kx, fx⟩ := HBX.out
  go_wp2_with fail
  have hbn : Below W0.heap.size W0 (W0.alloc (.cells #[.int .u8 67, .int .u8 82] 5)) := (Below.refl _ _).alloc (Nat.le_refl _) _
  have T1 : Octs (W0.alloc (.cells #[.int .u8 67, .int .u8 82] 5)) (some ⟨W0.heap.size, 0, none⟩) [67, 82] := two_new W0 67 82 5
  refine (KK.out _).mono ?_
  rintro e w2 ⟨ba2, bc2, rfl, OA2, hb2⟩
  have T2 := hid (T1.more hb2)
  have B2 := hid (below2 hbn hb2 (by simp))
  replace OA2 := hid OA2
  clear T1 hbn hb2 hW0 g1 g2 g3 g4 g5 g6 g7 g8 g9
  go_wp2_with fail
  refine (refCat_len [67, 82] (leB kind.toNat 1) 2 1 rfl (leB_length _ _) _ _ _ _ _ T2.out OA2.out (by omega)).mono ?_
  rintro e w3 ⟨ba3, bc3, rfl, R3, hb3⟩
  have O3 := hid (octs_len (by simp [leB_length]) R3)
  have B3 := hid (below2 B2.out hb3 B2.out.size)
  clear T2 OA2 B2 R3 hb3 lx kx fx
  have HB3 := hid (HBX.out.more B3.out)
  obtain ⟨lx, kx, fx⟩ := HB3.out
  go_wp2_with fail
  have x0 : w3.cell? ⟨w.heap.size, 0, none⟩ = some (.int .i64 t.e) := kx 0
  have x1 : w3.cell? ⟨w.heap.size, 1, none⟩ = some (.int .i64 t.s) := kx 1
  go_region_held3 (fun w' => w'.cell? ⟨w.heap.size, 0, none⟩ = some (.int .i64 t.e) ∧ w'.cell? ⟨w.heap.size, 1, none⟩ = some (.int .i64 t.s))
    (first | exact ⟨x40, x41⟩ | exact ⟨x50, x51⟩ | exact ⟨x60, x61⟩ | exact ⟨x70, x71⟩ | go_keep)
    (first
      | ((with_reducible refine (KE.out _).mono ?_); rintro e w4 ⟨ba4, bc4, rfl, OA4, hb4⟩; have C4 := undrew hb4; have HB4 := HB3.out.more C4; have x40 : w4.cell? ⟨w.heap.size, 0, none⟩ = some (.int .i64 t.e) := HB4.cell 0; have x41 : w4.cell? ⟨w.heap.size, 1, none⟩ = some (.int .i64 t.s) := HB4.cell 1; have O4 := O3.out.more C4)
      | ((with_reducible refine (refCat_len _ _ 3 4 (by simp [leB_length]) (leB_length _ _) _ _ _ _ _ O4 OA4 (by omega)).mono ?_); rintro e w5 ⟨ba5, bc5, rfl, R5, hb5⟩; have C5 := below2 C4 hb5 C4.size; have HB5 := HB3.out.more C5; have x50 : w5.cell? ⟨w.heap.size, 0, none⟩ = some (.int .i64 t.e) := HB5.cell 0; have x51 : w5.cell? ⟨w.heap.size, 1, none⟩ = some (.int .i64 t.s) := HB5.cell 1; have O5 := octs_len (by simp [leB_length]) R5)
      | ((with_reducible refine (KQ.out _).mono ?_); rintro e w6 ⟨ba6, bc6, rfl, OA6, hb6⟩; have C6 := below2 C5 hb6 C5.size; have HB6 := HB3.out.more C6; have x60 : w6.cell? ⟨w.heap.size, 0, none⟩ = some (.int .i64 t.e) := HB6.cell 0; have x61 : w6.cell? ⟨w.heap.size, 1, none⟩ = some (.int .i64 t.s) := HB6.cell 1; have O6 := O5.more hb6)
      | ((with_reducible refine (refCat_len _ _ (3 + 4) 4 (by simp [leB_length]) (leB_length _ _) _ _ _ _ _ O6 OA6 (by omega)).mono ?_); rintro e w7 ⟨ba7, bc7, rfl, R7, hb7⟩; have C7 := below2 C6 hb7 C6.size; have HB7 := HB3.out.more C7; have x70 : w7.cell? ⟨w.heap.size, 0, none⟩ = some (.int .i64 t.e) := HB7.cell 0; have x71 : w7.cell? ⟨w.heap.size, 1, none⟩ = some (.int .i64 t.s) := HB7.cell 1; have O7 := octs_len (by simp [leB_length]) R7))
  have D7 := hid (below2 B3.out C7 B3.out.size)
  replace O7 := hid O7
  clear lx kx fx x0 x1 x40 x41 x50 x51 x60 x61 x70 x71 C4 C5 C6 C7 O4 O5 O6 R5 R7 hb4 hb5 hb6 hb7 OA4 OA6 HB4 HB5 HB6 O3 HB3 B3 KE KQ KK
  obtain ⟨lx, kx, fx⟩ := HB7
  go_wp2_with fail
  refine (KA.out _).mono ?_
  rintro e w8 ⟨ba8, bc8, rfl, OA8, hb8⟩
  have O8 := hid (O7.out.more hb8)
  have D8 := hid (below2 D7.out hb8 D7.out.size)
  replace OA8 := hid OA8
  clear O7 hb8 lx kx fx D7
  go_wp2_with fail
  refine (refCat_len _ _ 11 2 (by simp [leB_length]) (leB_length _ _) _ _ _ _ _ O8.out OA8.out (by omega)).mono ?_
  rintro e w9 ⟨ba9, bc9, rfl, R9, hb9⟩
  have O9 := hid (octs_len (by simp [leB_length]) R9)
  have D9 := hid (below2 D8.out hb9 D8.out.size)
  clear O8 OA8 D8 R9 hb9
  go_wp2_with fail
  refine (KL.out _).mono ?_
  rintro e w10 ⟨ba10, bc10, rfl, OA10, hb10⟩
  have O10 := hid (O9.out.more hb10)
  have D10 := hid (below2 D9.out hb10 D9.out.size)
  replace OA10 := hid OA10
  clear O9 hb10 D9
  go_wp2_with fail
  refine (refCat_len _ _ 13 1 (by simp [leB_length]) (leB_length _ _) _ _ _ _ _ O10.out OA10.out (by omega)).mono ?_
  rintro e w11 ⟨ba11, bc11, rfl, R11, hb11⟩
  have O11 := hid (octs_len (by simp [leB_length]) R11)
  have D11 := hid (below2 D10.out hb11 D10.out.size)
  have OT := hid (O0.out.more D11.out)
  clear O10 OA10 D10 R11 hb11
  go_wp2_with fail
  refine (refCat_len _ _ 14 l.length (by simp [leB_length]) rfl _ _ _ _ _ O11.out OT.out (by omega)).mono ?_
  rintro e w12 ⟨ba12, bc12, rfl, R12, hb12⟩
  have D12 := hid (below2 D11.out hb12 D11.out.size)
  have P12 := hid (own_base R12 D11.out.size)
  clear O11 OT D11 R12 hb12
  generalize hX : [67, 82] ++ leB kind.toNat 1 ++ leB t.e.toNat 4 ++ leB t.s.toNat 4 ++ leB t.a.toNat 2 ++ leB (l.length : Int).toNat 1 ++ l = X at *
  have hXl : X.length = 14 + l.length := by rw [← hX]; simp [leB_length]; omega
  replace hX := hid hX
  replace hXl := hid hXl
  go_wp2_with fail
  go_loopg [9] (238 - l.length) (fun gk v wx => ∃ (k : Nat) (va : Option Addr) (vc : Nat), k + gk = 238 - l.length ∧ v = .slice va (14 + l.length + k) vc ∧ wx.ownsRow W0.heap.size 5 1 (.slice va (14 + l.length + k) vc) (14 + l.length + k) (Lib.byteCells (X ++ List.replicate k 0)) ∧ Below W0.heap.size W0 wx)
  case atStart => exact ⟨0, ba12, bc12, by omega, rfl, by simpa using P12.out, D12.out⟩
  case round =>
    clear P12 D12
    obtain ⟨k, va, vc, hk, rfl, OW, D⟩ := hrel
    have hkI : (k : Int) ≤ 238 := by omega
    cases gk with
    | zero =>
      have e252 : 14 + l.length + k = 252 := by omega
      have ek : k = 238 - l.length := by omega
      rw [e252] at OW ⊢
      have hbd : X ++ List.replicate k 0 = bodyB kind t l := by rw [ek]; exact hsB.out
      rw [hbd] at OW
      have OB := hid (octs_len bl.out OW)
      have KS := fun wx (O : Octs wx va (bodyB kind t l)) => refSum_any (bodyB kind t l) va vc wx O (by rw [bl.out]; omega)
      rw [← crcN_int, bl.out] at KS
      have cl0 : 0 ≤ (crcN (bodyB kind t l) : Int) ∧ (crcN (bodyB kind t l) : Int) ≤ 4294967295 := by have := cl.out; omega
      have KN := hid (fun w => refNum_fit (crcN (bodyB kind t l)) 4 4 rfl cl0.1 (by omega) (by omega) w)
      have hEE := hid E.out
      replace KS := hid KS
      replace D := hid D
      clear OW hbd hsB
      have hsl : Hid (∀ (v : Value) (w1 w' : World), Fresh w1 w' v (bodyB kind t l ++ leB (crcN (bodyB kind t l)) 4) → Fresh w1 w' v (sealB kind t l)) := hid (fun v w1 w' h => h)
      generalize sealB kind t l = SB at *
      generalize bodyB kind t l = body at *
      go_wp2_with fail
      refine (KS.out _ OB.out).mono ?_
      rintro e w13 ⟨rfl, hw13⟩
      rw [hw13]
      clear hw13 w13
      go_wp2_with fail
      refine (KN.out _).mono ?_
      rintro e w14 ⟨ba14, bc14, rfl, OA14, hb14⟩
      have O14 := hid (OB.out.more hb14)
      have D14 := hid (hb0.out.trans ((below2 D.out hb14 D.out.size).mono (by have h := hb0.out.size; omega)))
      replace OA14 := hid OA14
      clear hb14
      have KC := hid (refCat_any body (leB (crcN body) 4) va ba14 vc bc14 w14 O14.out OA14.out (by rw [bl.out, leB_length]; omega))
      rw [bl.out, leB_length] at KC
      go_wp2_with fail
      refine KC.out.mono ?_
      rintro e w15 ⟨v, rfl, F⟩
      have E2 := hid (hEE.out v w14 w15 D14.out (hsl.out _ _ _ F))
      clear F
      go_wp2_with fail
      go_ret2
      exact E2.out
    | succ gk =>
      have hlt : ((14 + l.length + k : Nat) : Int) < 252 := by omega
      have hXk : (X ++ List.replicate k 0).length = 14 + l.length + k := by rw [List.length_append, List.length_replicate, hXl.out]
      have hXk1 : (X ++ List.replicate k 0 ++ [0]).length = 14 + l.length + (k + 1) := by rw [List.length_append, hXk]; rfl
      have ps := push_octet W0.heap.size 33 wr (.slice va (14 + l.length + k) vc) (X ++ List.replicate k 0) (by rw [hXk]; exact OW) 0 (by rw [hXk]; omega) D.size
      obtain ⟨v', w', hr, R', S', _⟩ := ps
      rw [hXk1] at R'
      obtain ⟨va', vc', rfl⟩ := own_form R'
      have D' := hid (D.trans (S'.below (B := W0.heap.size) D.size fun j hj => (OW.lt j hj).1))
      have R2 := hid (show w'.ownsRow W0.heap.size 5 1 (.slice va' (14 + l.length + (k + 1)) vc') (14 + l.length + (k + 1)) (Lib.byteCells (X ++ List.replicate (k + 1) 0)) by
        rw [List.replicate_succ', ← List.append_assoc]; exact R')
      rw [show (((0 : UInt8).toNat : Nat) : Int) = 0 from rfl] at hr
      clear R' S' OW hXk hXk1
      replace D := hid D
      go_wp2_with (at_builtin; refine Lib.wpList_append_run _ rfl _ _ _ _ rfl _ _ rfl rfl _ _ hr ?_)
      go_roundg gk
      case rel => exact ⟨k + 1, va', vc', by omega, rfl, R2.out, D'.out⟩
      case measure => omega
theorem sector_any (kind : Int) (t : Stp) (l : List UInt8) (a : Option Addr) (cap : Nat) (hl : l.length ≤ 9223372036854775807) (w : World) (O : Octs w a l) :
    Calls Try.prog 24 #[.int .i64 kind, sval t, .slice a l.length cap] w (SealPost kind t l w) := by
  by_cases h : stFits kind t ∧ l.length ≤ 238
  · exact sector_ok kind t l a cap h.1 h.2 w O
  · exact sector_bad kind t l a cap hl h w
end Go.Proofs.Ytdagddahpccnkaa

/-
  The document's sectors of a mark.
-/



namespace Go.Proofs.Ytdagddahpccnkaa
open Go.RowKit
set_option linter.unusedVariables false
set_option linter.unusedSimpArgs false

theorem mcat_two (l1 l2 : List UInt8) (n2 : Nat) (h2 : l2.length = n2) (a1 a2 : Option Addr) (c1 c2 : Nat) (w : World) (O1 : Octs w a1 l1) (O2 : Octs w a2 l2) (hl : l1.length + n2 ≤ 140737488355328) :
    Calls Try.prog 22 #[.slice a1 l1.length c1, .slice a2 n2 c2] w fun e w' => ∃ a c, e = .returned (.slice a (l1 ++ l2).length c) ∧ Octs w' a (l1 ++ l2) ∧ Below w.heap.size w w' := by
  subst h2
  refine (refCat_any l1 l2 a1 a2 c1 c2 w O1 O2 hl).mono ?_
  rintro e w' ⟨v, rfl, a, cap, rfl, O, hb⟩
  exact ⟨a, cap, rfl, Octs.of_own O, hb⟩

/-- One more in a row of octets: where all lies then. -/
theorem row_grow (n₀ : Nat) {W w9 : World} {V : Value} {L : List OcS} (hn : n₀ < W.heap.size) (OV : RowOwn ocT W (n₀ + 1) V L) (hT : ∀ x ∈ L, x.there W ∧ Ap n₀ W V x)
    (hpre : L.length ≤ 3) (hb9 : Below W.heap.size W w9) (a : Option Addr) (cap : Nat) (l : List UInt8) (hx : (⟨a, cap, l⟩ : OcS).there w9) (hxa : ∀ b o t, a = some ⟨b, o, t⟩ → W.heap.size ≤ b ∧ b < w9.heap.size) :
    ∃ v' w10, (∃ q n c, v' = .slice q n c) ∧ (Builtin.append_ #[29, 29] 29 #[V, .slice (some ⟨w9.heap.size, 0, none⟩) 1 1]).run Try.prog (w9.alloc (.cells #[.slice a l.length cap] 33)) = .ok v' w10 ∧
      Below (n₀ + 1) W w10 ∧ RowOwn ocT w10 (n₀ + 1) v' (L ++ [⟨a, cap, l⟩]) ∧ (∀ x ∈ L ++ [⟨a, cap, l⟩], x.there w10 ∧ Ap n₀ w10 v' x) := by
  have hs9 := hb9.size
  have hbA : Below W.heap.size W (w9.alloc (.cells #[.slice a l.length cap] 33)) := hb9.alloc hs9 _
  have hsA : (w9.alloc (.cells #[.slice a l.length cap] 33)).heap.size = w9.heap.size + 1 := by simp
  have RI := rowOf_one ocOk (Blk.new w9 #[.slice a l.length cap] 33) (x := ⟨a, cap, l⟩) rfl
  have hxA : (⟨a, cap, l⟩ : OcS).there (w9.alloc (.cells #[.slice a l.length cap] 33)) := hx.more ((Below.refl _ _).alloc (Nat.le_refl _) _)
  generalize w9.alloc (.cells #[.slice a l.length cap] 33) = wA at *
  have OA := OV.more hbA
  have hTA : ∀ x ∈ L, x.there wA := fun x hx => (hT x hx).1.more hbA
  obtain ⟨v', w10, hr, O', gr, mv⟩ := append_row ocOk (n₀ + 1) 29 wA V L OA (some ⟨w9.heap.size, 0, none⟩) 1 [⟨a, cap, l⟩] RI (by show (L.length + 1) * 24 ≤ _; omega) (by unfold maxLen; simp; omega) (by omega)
  have hw := OV.within
  have hbw : Below (n₀ + 1) W w10 := (hbA.mono hn).grown gr (by omega) (fun k e => (hw k e).1)
  have S1 : Sole (fun k => V.ownBlock = some k) wA w10 := Sole.grown gr fun k e => e
  obtain ⟨q', c', hv', _⟩ := O'.open ocOk
  refine ⟨v', w10, ⟨q', _, c', hv'⟩, hr, hbw, O', ?_⟩
  intro x hxm
  have key : x.there wA ∧ ∀ b o t, x.a = some ⟨b, o, t⟩ → (n₀ < b ∧ b < w9.heap.size) ∧ V.ownBlock ≠ some b := by
    rcases List.mem_append.1 hxm with h | h
    · refine ⟨hTA x h, fun b o t e => ?_⟩
      have := (hT x h).2 b o t e
      exact ⟨⟨this.1.1, by omega⟩, this.2⟩
    · simp only [List.mem_singleton] at h
      subst h
      refine ⟨hxA, fun b o t e => ?_⟩
      have := hxa b o t e
      exact ⟨⟨by omega, this.2⟩, fun e2 => by have := (hw b e2).2; omega⟩
  have hgs := gr.size
  refine ⟨oc_sole key.1 S1 fun b o e => (key.2 b o none e).2, fun b o t e => ⟨⟨(key.2 b o t e).1.1, by have := (key.2 b o t e).1.2; omega⟩, fun e2 => ?_⟩⟩
  rcases mv with h | h
  · exact (key.2 b o t e).2 (h ▸ e2)
  · rw [h] at e2
    cases e2
    have := (key.2 _ o t e).1.2
    omega

/-- A document's sectors of a mark that may be. -/
def secsL (F : Nat → Int) : List (List UInt8) := [bodyS F 0, bodyS F 1, bodyS F 2, headO F]
/-- The first j of a body's. -/
def bodyU (F : Nat → Int) (j : Nat) : List (List UInt8) := (List.range j).map (bodyS F)
/-- What the document's rounds have made. -/
def SecI (F : Nat → Int) (n₀ : Nat) (j : Nat) (v : Value) (W : World) : Prop := ∃ L, RowOwn ocT W (n₀ + 1) v L ∧ L.map OcS.l = bodyU F j ∧ (∀ x ∈ L, x.there W ∧ Ap n₀ W v x) ∧ ∃ q n c, v = .slice q n c
theorem SecI.zero (F : Nat → Int) (n₀ : Nat) (W : World) : SecI F n₀ 0 (.slice none 0 0) W := ⟨[], RowOwn.nil _ _, rfl, by simp, _, _, _, rfl⟩
theorem bodyU_succ (F : Nat → Int) (j : Nat) : bodyU F (j + 1) = bodyU F j ++ [bodyS F j] := by simp [bodyU, List.range_succ]
/-- One more of a body's: a row of new octets is put behind. -/
theorem SecI.next {F : Nat → Int} {n₀ j : Nat} {V : Value} {W w9 : World} (h : SecI F n₀ j V W) (hj : j ≤ 3) (hn : n₀ < W.heap.size) (hb9 : Below W.heap.size W w9) (a : Option Addr) (cap : Nat) (l : List UInt8) (wb : World) (hwb : W.heap.size ≤ wb.heap.size) (O9 : w9.ownsRow wb.heap.size 5 1 (.slice a l.length cap) l.length (Lib.byteCells l)) :
    ∃ v' w10, (∃ q n c, v' = .slice q n c) ∧ (Builtin.append_ #[29, 29] 29 #[V, .slice (some ⟨w9.heap.size, 0, none⟩) 1 1]).run Try.prog (w9.alloc (.cells #[.slice a l.length cap] 33)) = .ok v' w10 ∧
      Below (n₀ + 1) W w10 ∧ ∃ L, RowOwn ocT w10 (n₀ + 1) v' L ∧ L.map OcS.l = bodyU F j ++ [l] ∧ (∀ x ∈ L, x.there w10 ∧ Ap n₀ w10 v' x) := by
  obtain ⟨L, OV, hL, hT, _⟩ := h
  have hLl : L.length = j := by have := congrArg List.length hL; simpa [bodyU] using this
  have hx : (⟨a, cap, l⟩ : OcS).there w9 := by
    refine ⟨Octs.of_own O9, ?_⟩
    rcases O9.2 with ⟨h1, h2⟩ | ⟨g, cap', cur, h1, _, _, h2, h3, _⟩
    · simp only [Value.slice.injEq] at h1
      obtain ⟨_, h4, h5⟩ := h1
      exact ⟨by show l.length ≤ cap; omega, by show cap ≤ maxLen; omega⟩
    · cases h1
      exact ⟨h2, h3⟩
  have hxa : ∀ b o t, a = some ⟨b, o, t⟩ → W.heap.size ≤ b ∧ b < w9.heap.size := by
    rintro b o t rfl
    have h := World.ownsRow.lt O9 b rfl
    omega
  obtain ⟨v', w10, h1, h2, h3, h4, h5⟩ := row_grow n₀ hn OV hT (by omega) hb9 a cap l hx hxa
  exact ⟨v', w10, h1, h2, h3, _, h4, by simp [hL], h5⟩

set_option maxRecDepth 100000 in
set_option maxHeartbeats 8000000 in
theorem secs_any (c : Array Value) (F : Nat → Int) (N : Nums c .i64 292 F) (hM : mOk F = true) (w : World) :
    Calls Try.prog 13 #[.agg c] w fun e w' => ∃ v L, e = .returned v ∧ RowOwn ocT w' w.heap.size v L ∧ L.map OcS.l = secsL F ∧ (∀ x ∈ L, x.there w') ∧ Below w.heap.size w w' := by
  have BX := Blk.new w c 27
  have hb0 := (Below.refl w.heap.size w).alloc (Nat.le_refl _) (.cells c 27)
  have hs1 : (w.alloc (.cells c 27)).heap.size = w.heap.size + 1 := by simp
  have BXh := hid BX
  have hbh := hid hb0
  have hsz : c.size = 292 := N.size
  have Nh := hid N
  have hMh := hid hM
  replace hsz := hid hsz
  replace hs1 := hid hs1
  clear BX hb0 N hM
  go_enter Try.func13, Try.ntmps13
  go_wp2_with fail
  generalize w.alloc (.cells c 27) = W1 at *
  go_loopw [3, 4] (fun v i wr => ∃ j : Nat, j ≤ 3 ∧ i = .int .i64 (j : Int) ∧ SecI F w.heap.size j v wr ∧ Below W1.heap.size W1 wr) (fun _ i _ => 3 - (intOf i).toNat)
  case atStart => exact ⟨0, by omega, rfl, SecI.zero _ _ _, Below.refl _ _⟩
  case round =>
    obtain ⟨j, hj, rfl, hI, hbr⟩ := hrel
    have hIh := hid hI
    have hbrh := hid hbr
    obtain ⟨_, _, _, _, q3, n3, c3, rfl⟩ := hI
    by_cases hlt : j < 3
    · have hlt' : decide ((j : Int) < 3) = true := decide_eq_true (by omega)
      have hlt2 : (j : Int) < 3 := by omega
      have e1 : IntKind.i64.wrap (86 * (j : Int)) = ((86 * j : Nat) : Int) := by rw [IntWalk.i64_in _ ⟨by omega, by omega⟩]; omega
      have e2 : IntKind.i64.wrap (((86 * j : Nat) : Int) + 86) = ((86 * j + 86 : Nat) : Int) := by rw [IntWalk.i64_in _ ⟨by omega, by omega⟩]; omega
      have hk1 : IntKind.i64.wrap ((j : Int) + 1) = (j : Int) + 1 := IntWalk.i64_in _ ⟨by omega, by omega⟩
      obtain ⟨⟨x0, x1⟩, _, _, _, _, _, hMap, _⟩ := mOk_parts hMh.out
      have BXr := hid (BXh.out.more hbr)
      have hlx := BXr.out.lt
      have hsecN : 86 * j + secN j = min (86 * j + 86) 256 := by unfold secN; omega
      have hsec : secN j ≤ 86 := by unfold secN; omega
      have hbt : Hid (mapO F j (secN j) = bodyT F j) := hid rfl
      have hm0 : Hid (mapO F j 0 = []) := hid rfl
      have hml := hid (fun k h => mapO_len F j k h)
      have hms := hid (fun k h => mapO_succ F j k h)
      have hfit := hid (head_fits hMh.out (j : Int) (by omega) (by omega) 3 (by omega) (by omega))
      have hMaph := hid hMap
      clear x0 x1 hMap hbr
      generalize hA : 86 * j = A at *
      generalize hS : secN j = S at *
      generalize hE : A + 86 = E at *
      replace hA := hid hA
      replace hE := hid hE
      go_wp2_with fail
      go_loopw [5, 6] (fun v i wx => ∃ k : Nat, k ≤ S ∧ i = .int .i64 ((A + k : Nat) : Int) ∧ (∃ a cap, v = .slice a (mapO F j k).length cap ∧ Octs wx a (mapO F j k)) ∧ Below wr.heap.size wr wx) (fun _ i _ => A + S - (intOf i).toNat)
      case atStart => exact ⟨0, by omega, rfl, ⟨none, 0, by rw [hm0.out]; rfl, by rw [hm0.out]; exact .inl rfl⟩, Below.refl _ _⟩
      case round =>
        obtain ⟨k, hk, rfl, ⟨a5, c5, rfl, O5⟩, hbx⟩ := hrel
        rename World => wx
        have hbxh := hid hbx
        have O5h := hid O5
        have BXx := BXr.out.more hbx
        have hEA := hE.out
        by_cases hlk : k < S
        · have g1 : decide (A + k < E) = true := decide_eq_true (by omega)
          have g2 : decide (A + k < 256) = true := decide_eq_true (by omega)
          have hz := hMaph.out (A + k) (by omega)
          have hst := hid (hms.out k (by omega))
          have hj6 : (0 : Int) ≤ ((A + k : Nat) : Int) ∧ ((A + k : Nat) : Int) < 256 := by omega
          have hnx : IntKind.i64.wrap (((A + k : Nat) : Int) + 1) = ((A + (k + 1) : Nat) : Int) := by rw [IntWalk.i64_in _ ⟨by omega, by omega⟩]; omega
          have k1 : wx.cell? ⟨w.heap.size, 36 + (A + k), none⟩ = some (.int .i64 (F (36 + (A + k)))) := by rw [BXx.cell, Nh.out.get _ (by omega)]
          have KN := hid (fun w => refNum_fit (F (36 + (A + k))) 2 2 rfl hz.1 (by omega) (by omega) w)
          have hml2 := hid (hml.out k (by omega))
          clear hz O5 hbx hEA
          generalize F (36 + (A + k)) = z at *
          generalize hJ : A + k = J at *
          replace hJ := hid hJ
          replace hnx : IntKind.i64.wrap ((J : Int) + 1) = ((A + (k + 1) : Nat) : Int) := hnx
          obtain ⟨lx, kx, fx⟩ := BXx
          go_wp2_with fail
          refine (KN.out _).mono ?_
          rintro e w2 ⟨ba, bc, rfl, O2, hb2⟩
          have O52 := hid (O5h.out.more hb2)
          have D2 := hid (below2 hbxh.out hb2 hbxh.out.size)
          have O2h := hid O2
          clear O2 hb2 KN lx kx fx k1
          go_wp2_with fail
          refine (mcat_two (mapO F j k) _ 2 (leB_length 2 _) _ _ _ _ _ O52.out O2h.out (by have := hml2.out; omega)).mono ?_
          rintro e w3 ⟨a3, cc3, rfl, O3, hb3⟩
          have O3h := hid O3
          have D3 := hid (below2 D2.out hb3 D2.out.size)
          rw [← hst.out] at O3h ⊢
          clear O3 hb3
          go_wp2_with fail
          go_roundw
          case rel => exact ⟨k + 1, by omega, by rfl, ⟨a3, cc3, rfl, O3h.out⟩, D3.out⟩
          case measure => have := hJ.out; simp [intOf]; omega
        · obtain rfl : k = S := by omega
          have hml2 := hml.out k (by omega)
          rw [hbt.out] at O5h hml2 ⊢
          have KS := sector_ok 3 ⟨F 0, 0, (j : Int)⟩ (bodyT F j) a5 c5 hfit.out (by omega) wx O5h.out
          unfold SealPost at KS
          rw [show sealC 3 ⟨F 0, 0, (j : Int)⟩ (bodyT F j).length = 0 from by unfold sealC; rw [if_pos hfit.out, if_pos (by omega)],
            show sealL 3 ⟨F 0, 0, (j : Int)⟩ (bodyT F j) = bodyS F j from by unfold sealL; rw [if_pos ⟨hfit.out, by omega⟩]; rfl] at KS
          have KSh := hid KS
          have k0 : wx.cell? ⟨w.heap.size, 0, none⟩ = some (.int .i64 (F 0)) := by rw [BXx.cell, Nh.out.get 0 (by omega)]
          have hway : decide (A + k < E) = false ∨ (decide (A + k < E) = true ∧ decide (((A + k : Nat) : Int) < 256) = false) := by
            by_cases h : A + k < E
            · exact .inr ⟨decide_eq_true h, decide_eq_false (by omega)⟩
            · exact .inl (decide_eq_false h)
          obtain ⟨lx, kx, fx⟩ := BXx
          clear KS O5 hbx hEA hml2 hsecN hk hlk
          replace hS := hid hS
          generalize hJ : A + k = J at *
          replace hJ := hid hJ
          have hnr : w.heap.size < wr.heap.size := hlx
          rcases hway with g1 | ⟨g1, g2⟩
          all_goals
            go_wp2_with fail
            refine KSh.out.mono ?_
            rintro e w9 ⟨v, rfl, a, cap, rfl, O9, b9⟩
            obtain ⟨v', w10, ⟨q', n', c', hv'⟩, hr, hb10, L, OL, hLm, hT⟩ := SecI.next hIh.out hj hnr (hbxh.out.trans (b9.mono hbxh.out.size)) a cap (bodyS F j) wx hbxh.out.size O9
            have hE2 := hid (show SecI F w.heap.size (j + 1) v' w10 from ⟨L, OL, by rw [hLm, bodyU_succ], hT, q', n', c', hv'⟩)
            have hb2 := hid (show Below W1.heap.size W1 w10 from by
              have h2 : Below W1.heap.size wr w10 := by rw [hs1.out]; exact hb10
              exact hbrh.out.trans h2)
            subst hv'
            clear O9 b9 OL hLm hT hb10 lx kx fx k0
            generalize (bodyS F j).length = bl at *
            go_wp2_with (at_builtin; refine Lib.wpList_append_run _ rfl _ _ _ _ rfl _ _ rfl rfl _ _ hr ?_)
            go_roundw
            case rel => exact ⟨j + 1, by omega, by simp, hE2.out, hb2.out⟩
            case measure => simp [intOf]; omega
    · obtain rfl : j = 3 := by omega
      rw [show ((3 : Nat) : Int) = 3 from rfl]
      obtain ⟨⟨x0, x1⟩, _, ⟨b0, b1⟩, ⟨c0, c1⟩, ⟨d0, d1⟩, hAges, _⟩ := mOk_parts hMh.out
      have BXr := hid (BXh.out.more hbr)
      have hnr : w.heap.size < wr.heap.size := BXr.out.lt
      have m1 : F 1 % 256 = F 1 := by omega
      have m2 : F 2 % 256 = F 2 := by omega
      have m3 : F 3 % 256 = F 3 := by omega
      have z1 : wr.cell? ⟨w.heap.size, 1, none⟩ = some (.int .i64 (F 1)) := by rw [BXr.out.cell, Nh.out.get 1 (by omega)]
      have z2 : wr.cell? ⟨w.heap.size, 2, none⟩ = some (.int .i64 (F 2)) := by rw [BXr.out.cell, Nh.out.get 2 (by omega)]
      have z3 : wr.cell? ⟨w.heap.size, 3, none⟩ = some (.int .i64 (F 3)) := by rw [BXr.out.cell, Nh.out.get 3 (by omega)]
      have BH := Blk.new wr #[.int .u8 (F 1), .int .u8 (F 2), .int .u8 (F 3)] 5
      have hbH := hid ((Below.refl wr.heap.size wr).alloc (Nat.le_refl _) (.cells #[.int .u8 (F 1), .int .u8 (F 2), .int .u8 (F 3)] 5))
      have OH : Octs (wr.alloc (.cells #[.int .u8 (F 1), .int .u8 (F 2), .int .u8 (F 3)] 5)) (some ⟨wr.heap.size, 0, none⟩) (headP F) := by
        refine .inr ⟨_, _, rfl, BH.lt, fun i hi => ?_⟩
        rw [headP_len] at hi
        rw [Nat.zero_add, BH.cell]
        match i, hi with
        | 0, _ => (simp [headP, leB]; omega)
        | 1, _ => (simp [headP, leB]; omega)
        | 2, _ => (simp [headP, leB]; omega)
      have hfit := hid (head_fits hMh.out 3 (by omega) (by omega) 2 (by omega) (by omega))
      have hag := hid hAges
      obtain ⟨H, hH⟩ : ∃ H : Nat → List UInt8, ∀ k, H k = headP F ++ agesO F k := ⟨_, fun k => rfl⟩
      have hHl := hid (fun k (hk : k ≤ 32) => show (H k).length = 3 + 4 * k by rw [hH, List.length_append, headP_len, agesO_len F k hk])
      have hHs := hid (fun k (hk : k < 32) => show H (k + 1) = H k ++ leB (F (4 + k)).toNat 4 by rw [hH, hH, agesO_succ F k hk, List.append_assoc])
      have hH0 : headP F = H 0 := by rw [hH, show agesO F 0 = [] from rfl, List.append_nil]
      have hO : Hid (sealB 2 ⟨F 0, 0, 3⟩ (H 32) = headO F) := hid (by rw [hH]; rfl)
      rw [hH0] at OH
      clear hH hH0
      have hsec : Hid (bodyU F 3 ++ [headO F] = secsL F) := hid rfl
      have OHh := hid OH
      clear hbr x0 x1 hAges BH OH
      generalize F 1 = f1 at *
      generalize F 2 = f2 at *
      generalize F 3 = f3 at *
      go_wp2_with fail
      generalize wr.alloc (.cells #[.int .u8 f1, .int .u8 f2, .int .u8 f3] 5) = W4 at *
      go_loopw [9, 10] (fun v i wx => ∃ k : Nat, k ≤ 32 ∧ i = .int .i64 (k : Int) ∧ (∃ a cap, v = .slice a (H k).length cap ∧ Octs wx a (H k)) ∧ Below wr.heap.size wr wx) (fun _ i _ => 32 - (intOf i).toNat)
      case atStart => exact ⟨0, by omega, rfl, ⟨_, _, by rw [hHl.out 0 (by omega)], OHh.out⟩, hbH.out⟩
      case round =>
        obtain ⟨k, hk, rfl, ⟨a9, c9, rfl, O9⟩, hbx⟩ := hrel
        rename World => wx
        have hbxh := hid hbx
        have O9h := hid O9
        have BXx := BXr.out.more hbx
        have hl : (H k).length = 3 + 4 * k := hHl.out k hk
        by_cases hlk : k < 32
        · have g1 : decide ((k : Int) < 32) = true := decide_eq_true (by omega)
          have g2 : (k : Int) < 32 := by omega
          have hz := hag.out k hlk
          have hst := hid (hHs.out k hlk)
          have hj6 : (0 : Int) ≤ (k : Int) ∧ (k : Int) < 32 := by omega
          have hnx : IntKind.i64.wrap ((k : Int) + 1) = (k : Int) + 1 := IntWalk.i64_in _ ⟨by omega, by omega⟩
          have k1 : wx.cell? ⟨w.heap.size, 4 + k, none⟩ = some (.int .i64 (F (4 + k))) := by rw [BXx.cell, Nh.out.get _ (by omega)]
          have KN := hid (fun w => refNum_fit (F (4 + k)) 4 4 rfl hz.1 (by omega) (by omega) w)
          have hlh := hid hl
          clear hz O9 hbx hl
          generalize F (4 + k) = z at *
          obtain ⟨lx, kx, fx⟩ := BXx
          go_wp2_with fail
          refine (KN.out _).mono ?_
          rintro e w2 ⟨ba, bc, rfl, O2, hb2⟩
          have O92 := hid (O9h.out.more hb2)
          have D2 := hid (below2 hbxh.out hb2 hbxh.out.size)
          have O2h := hid O2
          clear O2 hb2 KN lx kx fx k1
          go_wp2_with fail
          refine (mcat_two (H k) _ 4 (leB_length 4 _) _ _ _ _ _ O92.out O2h.out (by have := hlh.out; omega)).mono ?_
          rintro e w3 ⟨a3, cc3, rfl, O3, hb3⟩
          have O3h := hid O3
          have D3 := hid (below2 D2.out hb3 D2.out.size)
          rw [← hst.out] at O3h ⊢
          clear O3 hb3
          go_wp2_with fail
          go_roundw
          case rel => exact ⟨k + 1, by omega, by simp, ⟨a3, cc3, rfl, O3h.out⟩, D3.out⟩
          case measure => simp [intOf]; omega
        · obtain rfl : k = 32 := by omega
          have KS := sector_ok 2 ⟨F 0, 0, 3⟩ (H 32) a9 c9 hfit.out (by omega) wx O9h.out
          unfold SealPost at KS
          rw [show sealC 2 ⟨F 0, 0, 3⟩ (H 32).length = 0 from by unfold sealC; rw [if_pos hfit.out, if_pos (by omega)],
            show sealL 2 ⟨F 0, 0, 3⟩ (H 32) = headO F from by unfold sealL; rw [if_pos ⟨hfit.out, by omega⟩, hO.out]] at KS
          have KSh := hid KS
          have k0 : wx.cell? ⟨w.heap.size, 0, none⟩ = some (.int .i64 (F 0)) := by rw [BXx.cell, Nh.out.get 0 (by omega)]
          obtain ⟨lx, kx, fx⟩ := BXx
          clear KS O9 hbx hl
          go_wp2_with fail
          refine KSh.out.mono ?_
          rintro e w9 ⟨v, rfl, a, cap, rfl, Ox, b9⟩
          obtain ⟨v', w10, ⟨q', n', c', hv'⟩, hr, hb10, L, OL, hLm, hT2⟩ := SecI.next hIh.out hj hnr (hbxh.out.trans (b9.mono hbxh.out.size)) a cap (headO F) wx hbxh.out.size Ox
          have hEnd := hid (show RowOwn ocT w10 w.heap.size v' L ∧ L.map OcS.l = secsL F ∧ (∀ x ∈ L, x.there w10) ∧ Below w.heap.size w w10 from
            ⟨OL.mono (Nat.le_succ _), by rw [hLm, hsec.out], fun x hx => (hT2 x hx).1, by
              have h3 : Below w.heap.size wr w10 := hb10.mono (Nat.le_succ _)
              exact (below2 hbh.out hbrh.out hbh.out.size).trans h3⟩)
          subst hv'
          clear Ox b9 OL hLm hT2 hb10 lx kx fx k0
          generalize (headO F).length = bl at *
          go_wp2_with (at_builtin; refine Lib.wpList_append_run _ rfl _ _ _ _ rfl _ _ rfl rfl _ _ hr ?_)
          go_ret
          exact ⟨_, L, rfl, hEnd.out⟩
end Go.Proofs.Ytdagddahpccnkaa

/-
  Marks there and back: what a mark's sectors tell; whose sectors they are. (No walk.)
-/


namespace Go.Proofs.Ytdagddahpccnkaa
open Go.RowKit
set_option linter.unusedVariables false
set_option linter.unusedSimpArgs false

theorem octs_back (l : List UInt8) : ∀ n, l.length = n → leB (numOf l) n = l := by
  intro n h; subst h; exact leB_numOf l
/-- What is good is sealed. -/
theorem good_seal {l : List UInt8} (h : goodB l = true) : l = sealB (openK l) (openS l) (openT l) ∧ stFits (openK l) (openS l) ∧ (openT l).length ≤ 238 := by
  have hg := h
  unfold goodB soundB at h
  simp only [Bool.and_eq_true, decide_eq_true_eq] at h
  obtain ⟨⟨h256, hc⟩, h2, hn, hz⟩ := h
  obtain ⟨q1, q2, q3, _⟩ := open_good hg
  have bl : ∀ i n, i + n ≤ 256 → ((l.drop i).take n).length = n := fun i n hi => by rw [List.length_take, List.length_drop]; omega
  have back : ∀ i n, i + n ≤ 256 → leB (numOf ((l.drop i).take n)) n = (l.drop i).take n := fun i n hi => octs_back _ n (bl i n hi)
  have lt : ∀ i n, i + n ≤ 256 → numOf ((l.drop i).take n) < 256 ^ n := fun i n hi => by have := numOf_lt ((l.drop i).take n); rwa [bl i n hi] at this
  have hTl : (openT l).length = txtN l := by rw [q3, List.length_take, List.length_drop]; omega
  have tn : leB (txtN l) 1 = (l.drop 13).take 1 := back 13 1 (by omega)
  have hhead : headB (openK l) (openS l) (openT l).length = l.take 14 := by
    unfold headB
    rw [hTl, q1, q2, tn]
    simp only [Int.toNat_natCast]
    rw [back 2 1 (by omega), back 3 4 (by omega), back 7 4 (by omega), back 11 2 (by omega), ← h2]
    rw [show 14 = 2 + 1 + 4 + 4 + 2 + 1 from rfl, List.take_add, List.take_add, List.take_add, List.take_add, List.take_add]
  have hzz : List.replicate (238 - (openT l).length) 0 = (l.take 252).drop (14 + txtN l) := by
    symm
    rw [List.eq_replicate_iff]
    refine ⟨by rw [List.length_drop, List.length_take, hTl]; omega, fun b hb => ?_⟩
    simpa using List.all_eq_true.1 hz b hb
  have hbody : bodyB (openK l) (openS l) (openT l) = l.take 252 := by
    unfold bodyB
    rw [hhead, hzz, q3]
    have e1 : l.take 14 ++ (l.drop 14).take (txtN l) = l.take (14 + txtN l) := by rw [List.take_add]
    have e2 : l.take (14 + txtN l) = (l.take 252).take (14 + txtN l) := by rw [List.take_take, Nat.min_eq_left (by omega)]
    rw [e1, e2, List.take_append_drop]
  refine ⟨?_, ?_, by omega⟩
  · unfold sealB
    rw [hbody, ← hc, octs_back (l.drop 252) 4 (by rw [List.length_drop]; omega), List.take_append_drop]
  · have k1 := lt 2 1 (by omega)
    have k2 := lt 3 4 (by omega)
    have k3 := lt 7 4 (by omega)
    have k4 := lt 11 2 (by omega)
    rw [q1, q2]
    refine ⟨?_, ?_, ?_, ?_, ?_, ?_, ?_, ?_⟩ <;> first | omega | (simp only; omega)

/-- Numbers as octets, one behind the other. -/
def flatN (f : Nat → Int) (m n : Nat) : List UInt8 := (List.range n).flatMap fun k => leB (f k).toNat m
theorem flatN_succ (f : Nat → Int) (m n : Nat) : flatN f m (n + 1) = flatN f m n ++ leB (f n).toNat m := by
  unfold flatN; rw [List.range_succ, List.flatMap_append]; simp
theorem flatN_len (f : Nat → Int) (m : Nat) : ∀ n, (flatN f m n).length = m * n
  | 0 => rfl
  | n + 1 => by rw [flatN_succ, List.length_append, flatN_len f m n, leB_length, Nat.mul_succ]
theorem flatN_at (f : Nat → Int) (m k : Nat) : ∀ d, ∃ X, flatN f m (k + 1 + d) = flatN f m k ++ (leB (f k).toNat m ++ X)
  | 0 => ⟨[], by rw [Nat.add_zero, flatN_succ]; simp⟩
  | d + 1 => by
    obtain ⟨X, hX⟩ := flatN_at f m k d
    exact ⟨X ++ leB (f (k + 1 + d)).toNat m, by rw [show k + 1 + (d + 1) = k + 1 + d + 1 by omega, flatN_succ, hX]; simp⟩
theorem flatN_get (f : Nat → Int) (m n k : Nat) (hk : k < n) : ((flatN f m n).drop (m * k)).take m = leB (f k).toNat m := by
  obtain ⟨X, hX⟩ := flatN_at f m k (n - (k + 1))
  rw [show k + 1 + (n - (k + 1)) = n by omega] at hX
  rw [hX, drop_pre (flatN_len f m k), take_pre (leB_length _ _)]
theorem flatN_of (f : Nat → Int) (m n : Nat) (T : List UInt8) (hT : T.length = m * n) (h : ∀ k, k < n → f k = (numOf ((T.drop (m * k)).take m) : Nat)) : flatN f m n = T := by
  have gen : ∀ j, j ≤ n → flatN f m j = T.take (m * j) := by
    intro j
    induction j with
    | zero => intro _; simp [flatN]
    | succ j ih =>
      intro hj
      have hle : m * (j + 1) ≤ m * n := Nat.mul_le_mul_left m hj
      rw [Nat.mul_succ] at hle
      rw [flatN_succ, ih (by omega), h j (by omega), Nat.mul_succ, List.take_add]
      congr 1
      rw [Int.toNat_natCast]
      exact octs_back _ m (by rw [List.length_take, List.length_drop]; omega)
  rw [gen n (Nat.le_refl _), ← hT, List.take_length]
theorem num_back (z : Int) (m : Nat) (h0 : 0 ≤ z) (h1 : z < (256 ^ m : Nat)) : (numOf (leB z.toNat m) : Int) = z := by
  rw [numOf_leB, Nat.mod_eq_of_lt (by omega)]; omega

theorem agesO_flat (F : Nat → Int) : ∀ k, k ≤ 32 → agesO F k = flatN (fun j => F (4 + j)) 4 k
  | 0, _ => rfl
  | k + 1, h => by rw [agesO_succ F k (by omega), agesO_flat F k (by omega), flatN_succ]
theorem mapO_flat (F : Nat → Int) (i : Nat) : ∀ k, 86 * i + k ≤ 256 → mapO F i k = flatN (fun j => F (36 + (86 * i + j))) 2 k
  | 0, _ => by simp [mapO, flatN]
  | k + 1, h => by rw [mapO_succ F i k (by omega), mapO_flat F i k (by omega), flatN_succ]
theorem secN_le (i : Nat) (h : i < 3) : 86 * i + secN i ≤ 256 ∧ secN i ≤ 86 := by unfold secN; omega
theorem bodyT_len (F : Nat → Int) (i : Nat) (h : i < 3) : (bodyT F i).length = 2 * secN i := mapO_len F i _ (secN_le i h).1
theorem headT_len (F : Nat → Int) : (headT F).length = 131 := by unfold headT; rw [List.length_append, headP_len, agesO_len F 32 (by omega)]
theorem headP_eq (F : Nat → Int) : headP F = flatN (fun j => F (1 + j)) 1 3 := by simp [headP, flatN, List.range, List.range.loop]

/-- A mark's head, opened. -/
theorem head_open {F : Nat → Int} (h : mOk F = true) : goodB (headO F) = true ∧ openK (headO F) = 2 ∧ openS (headO F) = ⟨F 0, 0, 3⟩ ∧ openT (headO F) = headT F := by
  have := seal_good 2 ⟨F 0, 0, 3⟩ (headT F) (head_fits h 3 (by omega) (by omega) 2 (by omega) (by omega)) (by rw [headT_len]; omega)
  exact ⟨this.2.1, this.2.2.1, this.2.2.2.1, this.2.2.2.2.1⟩
theorem head_back {F : Nat → Int} (h : mOk F = true) : mhB (headO F) = true ∧ ∀ j, j < 36 → mhF (headO F) j = F j := by
  obtain ⟨g, k, s, t⟩ := head_open h
  have hb : mhB (headO F) = true := by
    unfold mhB
    rw [g, k, s, t, headT_len, (stEq_iff ⟨F 0, 0, 3⟩ ⟨F 0, 0, 3⟩).2 rfl]; rfl
  refine ⟨hb, fun j hj => ?_⟩
  obtain ⟨_, _, p1, p3, p2, pa, _, _⟩ := mOk_parts h
  unfold mhF
  rw [if_pos hb, s, t]
  have hP : (flatN (fun j => F (1 + j)) 1 3).length = 3 := flatN_len _ _ _
  by_cases h0 : j = 0
  · rw [if_pos h0, h0]
  · rw [if_neg h0]
    by_cases h4 : j < 4
    · rw [if_pos h4]
      have e : ((headT F).drop (j - 1)).take 1 = leB (F j).toNat 1 := by
        have := flatN_get (fun j => F (1 + j)) 1 3 (j - 1) (by omega)
        rw [Nat.one_mul, show 1 + (j - 1) = j by omega] at this
        rw [← this]
        unfold headT
        rw [headP_eq, List.drop_append_of_le_length (by omega), List.take_append_of_le_length (by rw [List.length_drop]; omega)]
      rw [e]
      refine num_back _ _ ?_ ?_
      · rcases (show j = 1 ∨ j = 2 ∨ j = 3 by omega) with rfl | rfl | rfl <;> omega
      · rcases (show j = 1 ∨ j = 2 ∨ j = 3 by omega) with rfl | rfl | rfl <;> omega
    · rw [if_neg h4, if_pos hj]
      have e : ((headT F).drop (3 + 4 * (j - 4))).take 4 = leB (F j).toNat 4 := by
        have := flatN_get (fun j => F (4 + j)) 4 32 (j - 4) (by omega)
        rw [show 4 + (j - 4) = j by omega] at this
        rw [← this]
        unfold headT
        rw [← List.drop_drop, headP_eq, drop_pre hP, agesO_flat F 32 (by omega)]
      rw [e]
      have := pa (j - 4) (by omega)
      rw [show 4 + (j - 4) = j by omega] at this
      exact num_back _ _ this.1 (by omega)
theorem body_open {F : Nat → Int} (h : mOk F = true) (i : Nat) (hi : i < 3) : goodB (bodyS F i) = true ∧ openK (bodyS F i) = 3 ∧ openS (bodyS F i) = ⟨F 0, 0, (i : Int)⟩ ∧ openT (bodyS F i) = bodyT F i := by
  have := seal_good 3 ⟨F 0, 0, (i : Int)⟩ (bodyT F i) (head_fits h (i : Int) (by omega) (by omega) 3 (by omega) (by omega)) (by rw [bodyT_len F i hi]; have := secN_le i hi; omega)
  exact ⟨this.2.1, this.2.2.1, this.2.2.2.1, this.2.2.2.2.1⟩
/-- A mark's sector is another one's just if the epoch is the same. -/
theorem body_mb {F : Nat → Int} (h : mOk F = true) (i : Nat) (hi : i < 3) (ep : Int) : mbB ep i (bodyS F i) = decide (F 0 = ep) := by
  obtain ⟨g, k, s, t⟩ := body_open h i hi
  unfold mbB
  rw [g, k, s, t, bodyT_len F i hi]
  by_cases he : F 0 = ep
  · rw [(stEq_iff ⟨F 0, 0, (i : Int)⟩ ⟨ep, 0, (i : Int)⟩).2 (by rw [he]), decide_eq_true he]; simp
  · have : stEq (F 0) 0 (i : Int) ep 0 (i : Int) = false := by
      cases hs : stEq (F 0) 0 (i : Int) ep 0 (i : Int) with
      | false => rfl
      | true => have := (stEq_iff ⟨F 0, 0, (i : Int)⟩ ⟨ep, 0, (i : Int)⟩).1 hs; cases this; exact absurd rfl he
    rw [this, decide_eq_false he]; rfl
theorem body_num {F : Nat → Int} (h : mOk F = true) (i k : Nat) (hi : i < 3) (hk : k < secN i) : (numOf (((bodyT F i).drop (2 * k)).take 2) : Int) = F (36 + (86 * i + k)) := by
  obtain ⟨_, _, _, _, _, _, pm, _⟩ := mOk_parts h
  have hs := secN_le i hi
  unfold bodyT
  rw [mapO_flat F i _ hs.1, flatN_get _ 2 _ k hk]
  have := pm (86 * i + k) (by omega)
  exact num_back _ _ this.1 (by omega)
/-- Which number a filled map has. -/
theorem fill_at (F : Nat → Int) (Ts : Nat → List UInt8) (i k : Nat) (hi : i < 3) (hk : k < secN i) : fillAll F Ts (tk 3) (36 + (86 * i + k)) = (numOf (((Ts i).drop (2 * k)).take 2) : Int) := by
  have hs := secN_le i hi
  have e : tk 3 = [0, 1, 2] := by decide
  rw [e]
  show fillK (fillK (fillK F 0 (Ts 0) (secN 0)) 1 (Ts 1) (secN 1)) 2 (Ts 2) (secN 2) (36 + (86 * i + k)) = _
  have s0 : secN 0 = 86 := by decide
  have s1 : secN 1 = 86 := by decide
  have s2 : secN 2 = 84 := by decide
  unfold fillK
  rw [s0, s1, s2]
  rcases (show i = 0 ∨ i = 1 ∨ i = 2 by omega) with rfl | rfl | rfl
  · rw [s0] at hk
    rw [if_neg (by omega), if_neg (by omega), if_pos (by omega), show 36 + (86 * 0 + k) - (36 + 86 * 0) = k by omega]
  · rw [s1] at hk
    rw [if_neg (by omega), if_pos (by omega), show 36 + (86 * 1 + k) - (36 + 86 * 1) = k by omega]
  · rw [s2] at hk
    rw [if_pos (by omega), show 36 + (86 * 2 + k) - (36 + 86 * 2) = k by omega]
/-- Each Id stands in a sector. -/
theorem id_sec (j : Nat) (h : j < 256) : ∃ i k, i < 3 ∧ k < secN i ∧ j = 86 * i + k := by
  by_cases h1 : j < 86
  · exact ⟨0, j, by omega, by unfold secN; omega, by omega⟩
  · by_cases h2 : j < 172
    · exact ⟨1, j - 86, by omega, by unfold secN; omega, by omega⟩
    · exact ⟨2, j - 172, by omega, by unfold secN; omega, by omega⟩
theorem mOk_congr {F G : Nat → Int} (h : ∀ j, j < 292 → G j = F j) (hF : mOk F = true) : mOk G = true := by
  obtain ⟨p0, p1, p2, p3, p4, p5, p6, p7⟩ := mOk_parts hF
  refine mOk_of ?_ ?_ ?_ ?_ ?_ (fun i hi => ?_) (fun i hi => ?_) ?_
  · rw [h 0 (by omega)]; exact p0
  · rw [h 1 (by omega), h 3 (by omega)]; exact p1
  · rw [h 1 (by omega)]; exact p2
  · rw [h 3 (by omega)]; exact p3
  · rw [h 2 (by omega)]; exact p4
  · rw [h _ (by omega)]; exact p5 i hi
  · rw [h _ (by omega)]; exact p6 i hi
  · rw [h 36 (by omega)]; exact p7
/-- **THERE AND BACK: a mark's own sectors.** -/
theorem mark_back {F : Nat → Int} (h : mOk F = true) {L : List OcS} (hL : L.map OcS.l = secsL F) : mrB L = true ∧ ∀ j, j < 292 → mrF L j = F j := by
  have hl : L.length = 4 := by have := congrArg List.length hL; simpa [secsL] using this
  have at' : ∀ i (hi : i < 4), (ocA L i).l = (secsL F)[i]'(by simp [secsL]; omega) := fun i hi => by
    rw [ocA_eq L i (by omega)]
    have : (L.map OcS.l)[i]'(by simp; omega) = (secsL F)[i]'(by simp [secsL]; omega) := by simp only [hL]
    rw [← this, List.getElem_map]
  have a3 : (ocA L 3).l = headO F := at' 3 (by omega)
  have ai : ∀ i, i < 3 → (ocA L i).l = bodyS F i := fun i hi => by
    rw [at' i (by omega)]
    rcases (show i = 0 ∨ i = 1 ∨ i = 2 by omega) with rfl | rfl | rfl <;> rfl
  obtain ⟨hb, hh⟩ := head_back h
  have hF : ∀ j, j < 292 → mrF L j = F j := by
    intro j hj
    unfold mrF
    by_cases h36 : j < 36
    · rw [fillAll_low _ j h36, a3, hh j h36]
    · obtain ⟨i, k, hi, hk, e⟩ := id_sec (j - 36) (by omega)
      rw [show j = 36 + (86 * i + k) by omega, fill_at _ _ i k hi hk]
      unfold ocTx
      rw [ai i hi, (body_open h i hi).2.2.2, body_num h i k hi hk]
  refine ⟨?_, hF⟩
  unfold mrB
  have e1 : mbAll (mhF (ocA L 3).l 0) L = true := by
    unfold mbAll
    rw [List.all_eq_true]
    intro i _
    rw [ai i.val i.isLt, body_mb h i.val i.isLt, a3, hh 0 (by omega)]
    simp
  rw [e1, mOk_congr hF h, a3, hb, hl]
  simp
/-- **THERE AND BACK: whatever is read, the mark's sectors are those.** -/
theorem back_mark {L : List OcS} (h : mrB L = true) : mOk (mrF L) = true ∧ secsL (mrF L) = L.map OcS.l := by
  unfold mrB at h
  simp only [Bool.and_eq_true, decide_eq_true_eq] at h
  obtain ⟨hl, hh, hm, hok⟩ := h
  refine ⟨hok, ?_⟩
  have low : ∀ j, j < 36 → mrF L j = mhF (ocA L 3).l j := fun j hj => fillAll_low _ j hj _ _
  have e4 : L.map OcS.l = [(ocA L 0).l, (ocA L 1).l, (ocA L 2).l, (ocA L 3).l] := by
    refine List.ext_getElem (by simp [hl]) fun i h1 h2 => ?_
    have hi : i < L.length := by simpa using h1
    rw [List.getElem_map, ← ocA_eq L i hi]
    rcases (show i = 0 ∨ i = 1 ∨ i = 2 ∨ i = 3 by omega) with rfl | rfl | rfl | rfl <;> rfl
  have hep : mrF L 0 = (openS (ocA L 3).l).e := by
    rw [low 0 (by omega)]; unfold mhF; rw [if_pos hh, if_pos rfl]
  -- the head
  have e3 : headO (mrF L) = (ocA L 3).l := by
    have hh' := hh
    unfold mhB at hh'
    simp only [Bool.and_eq_true, decide_eq_true_eq, beq_iff_eq] at hh'
    obtain ⟨g, k, s, t⟩ := hh'
    have s' := (stEq_iff (openS (ocA L 3).l) ⟨(openS (ocA L 3).l).e, 0, 3⟩).1 s
    obtain ⟨hs, _, _⟩ := good_seal g
    have ht : headT (mrF L) = openT (ocA L 3).l := by
      have hT3 : ((openT (ocA L 3).l).take 3).length = 3 := by rw [List.length_take]; omega
      have p1 : headP (mrF L) = (openT (ocA L 3).l).take 3 := by
        rw [headP_eq]
        refine flatN_of _ 1 3 _ (by omega) fun k hk => ?_
        rw [low (1 + k) (by omega)]
        unfold mhF
        rw [if_pos hh, if_neg (by omega), if_pos (by omega), show 1 + k - 1 = k by omega, Nat.one_mul, List.drop_take, List.take_take, Nat.min_eq_left (by omega)]
      have p2 : agesO (mrF L) 32 = (openT (ocA L 3).l).drop 3 := by
        rw [agesO_flat _ 32 (by omega)]
        refine flatN_of _ 4 32 _ (by rw [List.length_drop]; omega) fun k hk => ?_
        rw [low (4 + k) (by omega)]
        unfold mhF
        rw [if_pos hh, if_neg (by omega), if_neg (by omega), if_pos (by omega), show 4 + k - 4 = k by omega, List.drop_drop]
      unfold headT
      rw [p1, p2, List.take_append_drop]
    unfold headO
    rw [ht, hep]
    conv => rhs; rw [hs, k]
    rw [← s']
  -- the body
  have eb : ∀ i, i < 3 → bodyS (mrF L) i = (ocA L i).l := by
    intro i hi
    have hmi : mbB (mhF (ocA L 3).l 0) i (ocA L i).l = true := by
      unfold mbAll at hm
      exact List.all_eq_true.1 hm ⟨i, hi⟩ (by show (⟨i, hi⟩ : Fin 3) ∈ (List.finRange 3).take 3; rw [List.take_of_length_le (by simp)]; exact List.mem_finRange _)
    rw [← low 0 (by omega)] at hmi
    unfold mbB at hmi
    simp only [Bool.and_eq_true, decide_eq_true_eq, beq_iff_eq] at hmi
    obtain ⟨g, k, s, t⟩ := hmi
    have s' := (stEq_iff (openS (ocA L i).l) ⟨mrF L 0, 0, (i : Int)⟩).1 s
    obtain ⟨hs, _, _⟩ := good_seal g
    have ht : bodyT (mrF L) i = openT (ocA L i).l := by
      unfold bodyT
      rw [mapO_flat _ i _ (secN_le i hi).1]
      refine flatN_of _ 2 _ _ t fun k hk => ?_
      exact fill_at _ _ i k hi hk
    unfold bodyS
    rw [ht]
    conv => rhs; rw [hs, k, s']
  rw [e4]
  unfold secsL
  rw [e3, eb 0 (by omega), eb 1 (by omega), eb 2 (by omega)]
/-- Whose the sectors are does not hang on where they lie. -/
theorem secs_congr {F G : Nat → Int} (h : ∀ j, j < 292 → G j = F j) : secsL G = secsL F := by
  have hb : ∀ i, i < 3 → bodyS G i = bodyS F i := fun i hi => by
    unfold bodyS bodyT
    have hs := secN_le i hi
    rw [mapO_flat G i _ hs.1, mapO_flat F i _ hs.1, h 0 (by omega)]
    congr 1
    unfold flatN
    refine congrArg List.flatten (List.map_congr_left fun k hk => ?_)
    have := List.mem_range.1 hk
    show leB (G (36 + (86 * i + k))).toNat 2 = leB (F (36 + (86 * i + k))).toNat 2
    rw [h _ (by omega)]
  have hh : headO G = headO F := by
    unfold headO headT
    rw [headP_eq, headP_eq, agesO_flat G 32 (by omega), agesO_flat F 32 (by omega), h 0 (by omega)]
    congr 2
    · unfold flatN
      refine congrArg List.flatten (List.map_congr_left fun k hk => ?_)
      have := List.mem_range.1 hk
      show leB (G (1 + k)).toNat 1 = leB (F (1 + k)).toNat 1
      rw [h _ (by omega)]
    · unfold flatN
      refine congrArg List.flatten (List.map_congr_left fun k hk => ?_)
      have := List.mem_range.1 hk
      show leB (G (4 + k)).toNat 4 = leB (F (4 + k)).toNat 4
      rw [h _ (by omega)]
  unfold secsL
  rw [hb 0 (by omega), hb 1 (by omega), hb 2 (by omega), hh]
end Go.Proofs.Ytdagddahpccnkaa

/-
  The example of layer 13.
-/

namespace Go.Proofs.Ytdagddahpccnkaa
open Go.RowKit
set_option linter.unusedVariables false
set_option linter.unusedSimpArgs false

def fOne (j : Nat) : Int := if j = 0 then 1 else if j = 3 then 1 else 0
theorem one_nums : Nums (headA 1 0 0 1) .i64 292 fOne := by
  have h := headA_nums 1 [0, 0, 1]
  refine Nums.congr (f := hdF 1 [0, 0, 1] 0) h fun j hj => ?_
  unfold fOne hdF
  rcases j with _ | _ | _ | _ | j
  · rfl
  · rfl
  · rfl
  · rfl
  · rw [if_neg (by omega), if_neg (by omega), if_neg (by omega), if_neg (by omega), if_neg (by omega)]
theorem one_ok : mOk fOne = true := mOk_of (by decide) (by decide) (by decide) (by decide) (by decide) (fun i _ => by unfold fOne; rw [if_neg (by omega), if_neg (by omega)]; omega) (fun i _ => by unfold fOne; rw [if_neg (by omega), if_neg (by omega)]; omega) (by decide)
set_option maxRecDepth 100000 in
theorem mbuildA (ρ : Operand → Value) (dst : Option Tmp) (ty : TypeId) (pos : String) (af : Array Edge) (hc : ρ (.const (.int .i64 1)) = .int .i64 1) (hy : ρ (.tmp 10) = .agg #[.int .i64 0, .int .i64 0, .int .i64 1]) (w : World) :
    (execOp ρ { dst := dst, op := .build 27 #[(0, .const (.int .i64 1)), (1, .tmp 10)], type := ty, pos := pos, after := af, guard := none }).run Try.prog w = .ok (.value (.agg (headA 1 0 0 1))) w := by
  have h : execOp ρ { dst := dst, op := .build 27 #[(0, .const (.int .i64 1)), (1, .tmp 10)], type := ty, pos := pos, after := af, guard := none } =
      execOp (fun o => match o with | .tmp 10 => .agg #[.int .i64 0, .int .i64 0, .int .i64 1] | .const v => v | _ => undef) { dst := dst, op := .build 27 #[(0, .const (.int .i64 1)), (1, .tmp 10)], type := ty, pos := pos, after := af, guard := none } := by
    refine execOp_congr _ (fun cs b e => by cases e) fun x hx' => ?_
    simp [Op.operands] at hx'
    rcases hx' with rfl | rfl
    · exact hc
    · exact hy
  have k : (execOp (fun o => match o with | .tmp 10 => .agg #[.int .i64 0, .int .i64 0, .int .i64 1] | .const v => v | _ => undef) { dst := dst, op := .build 27 #[(0, .const (.int .i64 1)), (1, .tmp 10)], type := ty, pos := pos, after := af, guard := none }).run Try.prog w = .ok (.value (.agg (headA 1 0 0 1))) w := by kernel_rfl
  rw [h]
  exact k
theorem read_none : mrB [] = false := by unfold mrB; rfl

set_option maxRecDepth 100000 in
set_option maxHeartbeats 4000000 in
theorem alive13 (w : World) : Calls Try.prog 6 #[] w fun e w' => e = .returned (.bool true) ∧ Below w.heap.size w w' := by
  have KR := mread_any [] none 0 (Nat.le_refl _) (Nat.zero_le _) w (.inl rfl) (by simp)
  unfold RdBad mrE at KR
  rw [read_none, if_neg (by simp)] at KR
  have KB := hid (fun w => mbody_any (headA 1 0 0 1) fOne one_nums w)
  have hC : mCk fOne = 0 := by unfold mCk; rw [one_ok]; rfl
  have hL : (bodyL fOne).length = 3 := by unfold bodyL; rw [if_pos one_ok]; rfl
  rw [hC] at KB
  replace KR := hid KR
  replace hL := hid hL
  clear hC
  go_enter Try.func6, Try.ntmps6
  go_wp2_with fail
  refine KR.out.mono ?_
  rintro e w1 ⟨c, rfl, N, hb1⟩
  have one := hid N.one
  have hsz := hid N.size
  have BT := hid (Blk.new w1 zerosM 27)
  have th := BT.out.there (n := c.size) (by rw [hsz.out]; rfl)
  have hb2 := (Below.refl w1.heap.size w1).alloc (Nat.le_refl _) (.cells zerosM 27)
  have D1 := hid (below_cells (below2 hb1 hb2 hb1.size) hb1.size 0 c.toList)
  clear hb1 hb2 N KR
  go_wp2_with (first | (refine Go.Great.wpList_runTo rfl (some 1) rfl _ _ (mallocM _ _ _ _ _ _) ?_) | (refine wpList_store_mid rfl 27 _ _ rfl w1.heap.size 0 c rfl rfl th (by rw [mtab, hsz.out]) one.out ?_) | (refine Go.Great.wpList_runTo rfl (some 11) rfl _ _ (mbuildA _ _ _ _ _ rfl rfl _) ?_))
  refine (KB.out _).mono ?_
  rintro e w2 ⟨v, L, rfl, O, hm, _, hb2⟩
  obtain ⟨q, cv, rfl, _⟩ := O.open ocOk
  have hl : L.length = 3 := by have := congrArg List.length hm; rw [hL.out] at this; simpa using this
  have D2 := hid (below2 D1.out hb2 D1.out.size)
  rw [hl]
  clear O hm hb2 KB D1 hl
  go_wp2_with fail
  go_ret
  exact ⟨rfl, D2.out⟩
end Go.Proofs.Ytdagddahpccnkaa

/-
  A mark is equal to itself: Go's '==' of two marks with the same numbers.
-/

namespace Go.Proofs.Ytdagddahpccnkaa
open Go.RowKit
set_option linter.unusedVariables false
set_option linter.unusedSimpArgs false

theorem mint_agg (w : World) : (isAgg 3).run Try.prog w = .ok false w := by kernel_rfl
theorem mint_size (w : World) : (sizeOf 3).run Try.prog w = .ok 1 w := by kernel_rfl
/-- Two arrays of the same numbers are one, at any depth. -/
theorem arr_same {t : TypeId} {m : Nat} (h : Try.prog.underlying t = some (.array m 3)) {d : Array Value} {F : Nat → Int} (hd : Nums d .i64 m F) (f : Nat) (w : World) :
    (Op.equalIn (f + 2) t (.agg d) (.agg d)).run Try.prog w = .ok true w := by
  rw [Op.equalIn]
  simp only [Sem.run_bind, run_underlying h, Result.andThen_ok, mint_size, Std.Legacy.Range.forIn_eq_forIn_range', Std.Legacy.Range.size, Nat.sub_zero, Nat.add_sub_cancel, Nat.div_one]
  have hl : ∀ i ∈ List.range' 0 m 1, i < m := fun i hi => by simpa using (List.mem_range'_1.1 hi).2
  generalize List.range' 0 m 1 = l at hl ⊢
  induction l with
  | nil => simp
  | cons i l ih =>
    have hi : i < m := hl i (by simp)
    have px : (part 3 d (i * 1)).run Try.prog w = .ok (.int .i64 (F i)) w := by
      simp [part, mint_agg, hd.get i hi]
    have pe : (Op.equalIn (f + 1) 3 (.int .i64 (F i)) (.int .i64 (F i))).run Try.prog w = .ok true w := by
      rw [run_equalIn_int w f 3 .i64 .i64 _ _ Try.underlying3]
      simp
    simp only [List.forIn_cons, Sem.run_bind, px, pe, Result.andThen_ok]
    simp only [Bool.not_true, Bool.false_eq_true, if_false, Sem.run_pure, Result.andThen_ok]
    exact ih fun j hj => hl j (by simp [hj])
theorem nums_ext {c : Array Value} {F : Nat → Int} (N : Nums c .i64 292 F) (a n : Nat) (h : a + n ≤ 292) : Nums (c.extract a (a + n)) .i64 n (fun j => F (a + j)) := by
  refine ⟨by simp [N.size]; omega, fun j hj => ?_⟩
  rw [Array.getElem?_extract_of_lt (by have := N.size; omega)]
  have h2 := N.get (a + j) (by omega)
  rw [Array.getElem?_eq_getElem (by have := N.size; omega)] at h2
  exact h2

set_option maxRecDepth 100000 in
theorem eql_mark (c : Array Value) (F : Nat → Int) (N : Nums c .i64 292 F) (w : World) : (binOp .eql 27 (.agg c) (.agg c)).run Try.prog w = .ok (.bool true) w := by
  rw [run_eql_struct, show (10000 : Nat) = 9999 + 1 from rfl, run_equalIn_struct w 9999 27 c c (by kernel_rfl) (by kernel_rfl)]
  have hint : ∀ (x : Array Value) (o : Nat) (z : Int), x[o]? = some (.int .i64 z) → ∀ w, (part 3 x o).run Try.prog w = .ok (.int .i64 z) w := fun x o z h w => by simp [part, mint_agg, h]
  have heq : ∀ (d : Nat) (z : Int) w, (Op.equalIn (d + 1) 3 (.int .i64 z) (.int .i64 z)).run Try.prog w = .ok true w := fun d z w => by
    rw [run_equalIn_int w d 3 .i64 .i64 _ _ Try.underlying3]; simp
  have NP := nums_ext N 1 3 (by omega)
  have NA := nums_ext N 4 32 (by omega)
  have NM := nums_ext N 36 256 (by omega)
  have e0 := hint c 0 _ (N.get 0 (by omega))
  have eP : ∀ w, (part 23 c 1).run Try.prog w = .ok (.agg (c.extract 1 (1 + 3))) w := fun w => by
    have h1 : (isAgg 23).run Try.prog w = .ok true w := by kernel_rfl
    have h2 : (sizeOf 23).run Try.prog w = .ok 3 w := by kernel_rfl
    simp [part, h1, h2]
  have eA : ∀ w, (part 24 c 4).run Try.prog w = .ok (.agg (c.extract 4 (4 + 32))) w := fun w => by
    have h1 : (isAgg 24).run Try.prog w = .ok true w := by kernel_rfl
    have h2 : (sizeOf 24).run Try.prog w = .ok 32 w := by kernel_rfl
    simp [part, h1, h2]
  have eM : ∀ w, (part 25 c 36).run Try.prog w = .ok (.agg (c.extract 36 (36 + 256))) w := fun w => by
    have h1 : (isAgg 25).run Try.prog w = .ok true w := by kernel_rfl
    have h2 : (sizeOf 25).run Try.prog w = .ok 256 w := by kernel_rfl
    simp [part, h1, h2]
  have qP : ∀ w, (Op.equalIn 9999 23 (.agg (c.extract 1 (1 + 3))) (.agg (c.extract 1 (1 + 3)))).run Try.prog w = .ok true w := fun w => by
    rw [show (9999 : Nat) = 9998 + 1 from rfl, run_equalIn_struct w 9998 23 _ _ (by kernel_rfl) (by kernel_rfl)]
    have p0 := hint (c.extract 1 (1 + 3)) 0 _ (NP.get 0 (by omega))
    have p1 := hint (c.extract 1 (1 + 3)) 1 _ (NP.get 1 (by omega))
    have p2 := hint (c.extract 1 (1 + 3)) 2 _ (NP.get 2 (by omega))
    have q := heq 9997
    generalize c.extract 1 (1 + 3) = x at *
    rw [show Try.prog.fieldsOf 23 = _ from by unfold Program.fieldsOf; rw [Try.underlying23]]
    simp [Op.eqFields, p0, p1, p2, q]
  have qA := fun w => arr_same Try.underlying24 NA 9997 w
  have qM := fun w => arr_same Try.underlying25 NM 9997 w
  have q0 := heq 9998
  generalize c.extract 1 (1 + 3) = x1 at *
  generalize c.extract 4 (4 + 32) = x2 at *
  generalize c.extract 36 (36 + 256) = x3 at *
  rw [show Try.prog.fieldsOf 27 = _ from by unfold Program.fieldsOf; rw [Try.underlying27]]
  simp [Op.eqFields, e0, q0, eP, qP, eA, qA, eM, qM]
end Go.Proofs.Ytdagddahpccnkaa

/-
  MarkReads: whatever sectors are read, it is a mark whose sectors they are, or none. The walk.
-/

namespace Go.Proofs.Ytdagddahpccnkaa
open Go.RowKit
set_option linter.unusedVariables false
set_option linter.unusedSimpArgs false

set_option maxRecDepth 100000 in
theorem mbuildZg (ρ : Operand → Value) (dst : Option Tmp) (ty : TypeId) (pos : String) (af : Array Edge) (g : Option (Nat × Bool)) (w : World) : (execOp ρ { dst := dst, op := .build 27 #[], type := ty, pos := pos, after := af, guard := g }).run Try.prog w =
    .ok (.value (.agg zerosM)) w := by kernel_rfl
set_option maxRecDepth 100000 in
theorem mzero (w : World) : (zeroValue 27).run Try.prog w = .ok (.agg zerosM) w := by kernel_rfl
theorem wp_runTo {P : Program} {o : Oper} {a : Act} {w : World} {K : Act → World → Prop} {Q : Exit → Act → World → Prop} (v : Value) (w' : World) (hrun : (execOp a.eval o).run P w = .ok (.value v) w')
    (h : K (a.put o.dst v) w') : Oper.wp P o a w K Q := by
  unfold Oper.wp
  rw [hrun, Oper.upon_value]
  exact h
/-- A whole block is loaded. -/
theorem wp_load_blk {P : Program} {op : Oper} {a : Act} {w : World} {K : Act → World → Prop} {Q : Exit → Act → World → Prop} (ty : TypeId) (x : Operand) (ho : op.op = .load ty x)
    (b : Nat) (hx : a.eval x = .pointer (some ⟨b, 0, none⟩)) (c : Array Value) (d : TypeDesc) (B : Blk w b c)
    (hu : P.underlying ty = some d) (hd : d.isRow = true) (hi : (P.info? ty).map (·.size) = some c.size)
    (h : K (a.put op.dst (.agg c)) w) : op.wp P a w K Q :=
  wp_load_mid ty x ho b 0 hx c.toList d B.range hu hd (by rw [hi]; simp) (by rw [Array.toArray_toList]; exact h)
theorem wpList_load_blk {P : Program} {ops : Array Oper} {rest : List Oper} {op : Oper} {a : Act} {w : World} {Q : Exit → Act → World → Prop} (hgd : op.guard = none) (ty : TypeId) (x : Operand) (ho : op.op = .load ty x)
    (b : Nat) (hx : a.eval x = .pointer (some ⟨b, 0, none⟩)) (c : Array Value) (d : TypeDesc) (B : Blk w b c)
    (hu : P.underlying ty = some d) (hd : d.isRow = true) (hi : (P.info? ty).map (·.size) = some c.size)
    (h : wpList P ops Q rest (a.put op.dst (.agg c)) w) : wpList P ops Q (op :: rest) a w :=
  wpList_plain hgd fun _ hK => wp_load_blk ty x ho b hx c d B hu hd hi (hK _ _ h)
theorem eqin_mark (c : Array Value) (F : Nat → Int) (N : Nums c .i64 292 F) (w : World) : (Op.equalIn 10000 27 (.agg c) (.agg c)).run Try.prog w = .ok true w := by
  have h := eql_mark c F N w
  rw [run_eql_struct] at h
  cases hr : (Op.equalIn 10000 27 (.agg c) (.agg c)).run Try.prog w with
  | ok b w' =>
    rw [hr] at h
    simp only [Result.andThen_ok] at h
    injection h with h1 h2
    injection h1 with h3
    rw [h3, h2]
  | _ => rw [hr] at h; simp [Result.andThen] at h

set_option maxRecDepth 100000 in
set_option maxHeartbeats 8000000 in
theorem markReads_any (L : List OcS) (p : Option Addr) (cap : Nat) (h1 : L.length ≤ cap) (h2 : L.length ≤ maxLen) (w : World) (R : RowOf ocT w p L) (hT : ∀ x ∈ L, x.there w) :
    Calls Try.prog 5 #[.slice p L.length cap] w fun e w' => e = .returned (.bool true) ∧ Below w.heap.size w w' := by
  have KA := hid (alive13 w)
  have KR := hid (fun wx (hb : Below w.heap.size w wx) => mread_any L p cap h1 h2 wx (RowOf.more R hb) (fun x hx => (hT x hx).more hb))
  have KL := hid (fun (M : List OcS) q c2 wx (hb : Below w.heap.size w wx) (hm : M.length ≤ maxLen) RM TM => lists_any M L q p c2 cap hm h2 wx RM (RowOf.more R hb) TM (fun x hx => (hT x hx).more hb))
  obtain ⟨n, hn⟩ : ∃ n, L.length = n := ⟨_, rfl⟩
  rw [hn] at KR KL ⊢
  clear h1 h2 R hT hn
  go_enter Try.func5, Try.ntmps5
  go_wp2_with fail
  refine KA.out.mono ?_
  rintro e w1 ⟨rfl, hb1⟩
  have D1 := hid hb1
  clear hb1 KA
  go_wp2_with fail
  refine (KR.out _ D1.out).mono ?_
  rintro e w2 ⟨c, rfl, N, hb2⟩
  have D2 := hid (below2 D1.out hb2 D1.out.size)
  have one := hid N.one
  have hsz := hid (show c.size = 292 from N.size)
  have hal := hid (show c.toList.length = 292 by simpa using N.size)
  have BT := hid (Blk.new w2 zerosM 27)
  have th := BT.out.there (n := c.size) (by rw [hsz.out]; rfl)
  have hb3 := (Below.refl w2.heap.size w2).alloc (Nat.le_refl _) (.cells zerosM 27)
  have D3 := hid (below_cells (below2 D2.out hb3 D2.out.size) D2.out.size 0 c.toList)
  have B3 := hid (BT.out.whole (d := c) (by rw [hsz.out]; rfl))
  have hr3 := hid B3.out.range
  have hN := hid N
  clear hb2 hb3 N KR D1 D2
  have hi := hid (show (Try.prog.info? 27).map (·.size) = some c.size by rw [mtab, hsz.out])
  cases hM : mrB L with
  | false =>
    have hE : mrE L = 16 := by unfold mrE; rw [hM]; rfl
    have hz : c = zerosM := nums_eq (hN.out.congr (g := fun _ => 0) fun j _ => by unfold mrG; rw [hM]; rfl) zerosM_nums
    have keq : ∀ w, (Op.equalIn 10000 27 (.agg c) (.agg zerosM)).run Try.prog w = .ok true w := fun w => by rw [hz]; exact eqin_mark zerosM _ zerosM_nums w
    rw [hE]
    clear hE hM KL hN hz hr3
    go_wp2_with (first | (refine Go.Great.wpList_runTo rfl (some 3) rfl _ _ (mallocM _ _ _ _ _ _) ?_) | (refine wpList_store_mid rfl 27 _ _ rfl w2.heap.size 0 c rfl rfl th hi.out one.out ?_))
    refine wp_load_blk 27 _ rfl w2.heap.size rfl c _ B3.out Try.underlying27 rfl hi.out ?_
    have hbz := fun w => mzero w
    clear th BT
    generalize zerosM = Z at *
    go_wp2_with fail
    go_ret
    exact ⟨rfl, D3.out⟩
  | true =>
    have hE : mrE L = 0 := by unfold mrE; rw [hM]; rfl
    obtain ⟨hok, hsec⟩ := back_mark hM
    have N2 : Nums c .i64 292 (mrF L) := hN.out.congr fun j _ => by unfold mrG; rw [hM]; rfl
    have KM := hid (fun w => mmay_any c (mrF L) N2 w)
    have KS := hid (fun w => secs_any c (mrF L) N2 hok w)
    rw [hsec] at KS
    rw [hok] at KM
    rw [hE]
    clear hE hM hN hok hsec N2 hr3
    go_wp2_with (first | (refine Go.Great.wpList_runTo rfl (some 3) rfl _ _ (mallocM _ _ _ _ _ _) ?_) | (refine wpList_store_mid rfl 27 _ _ rfl w2.heap.size 0 c rfl rfl th hi.out one.out ?_) | (refine wpList_load_blk rfl 27 _ rfl w2.heap.size rfl c _ B3.out Try.underlying27 rfl hi.out ?_))
    refine (KM.out _).mono ?_
    rintro e w4 ⟨rfl, hb4⟩
    have D4 := hid (below2 D3.out hb4 D3.out.size)
    have B4 := hid (B3.out.more hb4)
    clear hb4 KM D3 B3 th
    go_wp2_with fail
    refine wp_load_blk 27 _ rfl w2.heap.size rfl c _ B4.out Try.underlying27 rfl hi.out ?_
    go_wp2_with fail
    refine (KS.out _).mono ?_
    rintro e w5 ⟨v, M, rfl, O, hm, hTM, hb5⟩
    obtain ⟨q, cv, rfl, k1, k2, RM⟩ := O.open ocOk
    have D5 := hid (below2 D4.out hb5 D4.out.size)
    have KL2 := KL.out M q cv _ D5.out (by omega) RM hTM
    rw [hm, decide_eq_true rfl] at KL2
    replace KL2 := hid KL2
    clear O hm hTM hb5 KS KL D4 B4 RM k1 k2
    generalize M.length = ml at *
    go_wp2_with fail
    refine KL2.out.mono ?_
    rintro e w6 ⟨rfl, hb6⟩
    have D6 := hid (below2 D5.out hb6 D5.out.size)
    clear hb6 KL2
    go_wp2_with fail
    go_ret
    exact ⟨rfl, D6.out⟩
end Go.Proofs.Ytdagddahpccnkaa

/-
  Sectors of two marks of unlike epochs, mixed: whose they are. (No walk.)
-/

namespace Go.Proofs.Ytdagddahpccnkaa
open Go.RowKit
set_option linter.unusedVariables false
set_option linter.unusedSimpArgs false

/-- A row of octets is put behind others: where all lies then. -/
theorem oct_row_grow (base : Nat) {W : World} {V : Value} {L : List OcS} (OV : RowOwn ocT W base V L) (hT : ∀ x ∈ L, x.there W ∧ ∀ b o t, x.a = some ⟨b, o, t⟩ → x.l ≠ [] → V.ownBlock ≠ some b) (hl : L.length ≤ 5) (hbase : base ≤ W.heap.size)
    (x : OcS) (hx : x.there W) (hxa : ∀ b o t, x.a = some ⟨b, o, t⟩ → x.l ≠ [] → V.ownBlock ≠ some b) :
    ∃ v' w10, (∃ q n c, v' = .slice q n c) ∧ (Builtin.append_ #[29, 29] 29 #[V, .slice (some ⟨W.heap.size, 0, none⟩) 1 1]).run Try.prog (W.alloc (.cells #[.slice x.a x.l.length x.cap] 33)) = .ok v' w10 ∧
      Below base W w10 ∧ RowOwn ocT w10 base v' (L ++ [x]) ∧ (∀ y ∈ L ++ [x], y.there w10) := by
  have hbA : Below W.heap.size W (W.alloc (.cells #[.slice x.a x.l.length x.cap] 33)) := (Below.refl _ _).alloc (Nat.le_refl _) _
  have RI := rowOf_one ocOk (Blk.new W #[.slice x.a x.l.length x.cap] 33) (x := x) rfl
  have hxA := hx.more hbA
  have OA := OV.more hbA
  have hTA : ∀ y ∈ L, y.there (W.alloc (.cells #[.slice x.a x.l.length x.cap] 33)) := fun y hy => (hT y hy).1.more hbA
  have hsA : (W.alloc (.cells #[.slice x.a x.l.length x.cap] 33)).heap.size = W.heap.size + 1 := by simp
  generalize W.alloc (.cells #[.slice x.a x.l.length x.cap] 33) = wA at *
  obtain ⟨v', w10, hr, O', gr, mv⟩ := append_row ocOk base 29 wA V L OA (some ⟨W.heap.size, 0, none⟩) 1 [x] RI (by show (L.length + 1) * 24 ≤ _; omega) (by unfold maxLen; simp; omega) (by omega)
  have hw := OV.within
  have hbw : Below base W w10 := (hbA.mono hbase).grown gr (by omega) (fun k e => (hw k e).1)
  have S1 : Sole (fun k => V.ownBlock = some k) wA w10 := Sole.grown gr fun k e => e
  obtain ⟨q', c', hv', _⟩ := O'.open ocOk
  refine ⟨v', w10, ⟨q', _, c', hv'⟩, hr, hbw, O', ?_⟩
  intro y hy
  rcases List.mem_append.1 hy with h | h
  · exact ⟨(hTA y h).1.sole S1 fun b o e hne => (hT y h).2 b o none e hne, (hTA y h).2⟩
  · simp only [List.mem_singleton] at h
    subst h
    exact ⟨hxA.1.sole S1 fun b o e hne => hxa b o none e hne, hxA.2⟩
/-- New octets: as a row's element. -/
theorem fresh_oc {w w' : World} {v : Value} {l : List UInt8} (h : Fresh w w' v l) : ∃ x : OcS, v = .slice x.a x.l.length x.cap ∧ x.l = l ∧ x.there w' ∧ (∀ b o t, x.a = some ⟨b, o, t⟩ → w.heap.size ≤ b) ∧ Below w.heap.size w w' := by
  obtain ⟨a, cap, rfl, O, hb⟩ := h
  refine ⟨⟨a, cap, l⟩, rfl, rfl, ⟨Octs.of_own O, ?_⟩, ?_, hb⟩
  · rcases O.2 with ⟨h1, h2⟩ | ⟨g, cap', cur, h1, _, _, h2, h3, _⟩
    · simp only [Value.slice.injEq] at h1
      obtain ⟨_, h4, h5⟩ := h1
      exact ⟨by show l.length ≤ cap; omega, by show cap ≤ maxLen; omega⟩
    · cases h1
      exact ⟨h2, h3⟩
  · rintro b o t rfl
    exact (World.ownsRow.lt O b rfl).1

/-- The i-th of the one's or the other's sectors. -/
def mixS (F G : Nat → Int) (b : Nat → Bool) (i : Nat) : List UInt8 := if b i then (secsL F).getD i [] else (secsL G).getD i []
def mixL (F G : Nat → Int) (b : Nat → Bool) (k : Nat) : List (List UInt8) := (List.range k).map (mixS F G b)
theorem mixL_succ (F G : Nat → Int) (b : Nat → Bool) (k : Nat) : mixL F G b (k + 1) = mixL F G b k ++ [mixS F G b k] := by simp [mixL, List.range_succ]
def sameB (b : Nat → Bool) : Bool := (b 0 == b 3) && ((b 1 == b 3) && (b 2 == b 3))
theorem mix_read {F G : Nat → Int} (hF : mOk F = true) (hG : mOk G = true) (hne : F 0 ≠ G 0) (b : Nat → Bool) {M : List OcS} (hM : M.map OcS.l = mixL F G b 4) : mrB M = sameB b := by
  have hl : M.length = 4 := by have := congrArg List.length hM; simpa [mixL] using this
  have hX : ∀ i, mOk (if b i then F else G) = true := fun i => by cases b i <;> assumption
  have sec : ∀ i (hi : i < 4), (ocA M i).l = (secsL (if b i then F else G)).getD i [] := fun i hi => by
    rw [ocA_eq M i (by omega)]
    have e : (M.map OcS.l)[i]'(by simp; omega) = (mixL F G b 4)[i]'(by simp [mixL]; omega) := by simp only [hM]
    rw [List.getElem_map] at e
    rw [e]
    simp only [mixL, mixS, List.getElem_map, List.getElem_range]
    cases b i <;> rfl
  have a3 : (ocA M 3).l = headO (if b 3 then F else G) := sec 3 (by omega)
  have ai : ∀ i, i < 3 → (ocA M i).l = bodyS (if b i then F else G) i := fun i hi => by
    rw [sec i (by omega)]
    rcases (show i = 0 ∨ i = 1 ∨ i = 2 by omega) with rfl | rfl | rfl <;> rfl
  obtain ⟨hb, hh⟩ := head_back (hX 3)
  have each : ∀ i, i < 3 → mbB (mhF (ocA M 3).l 0) i (ocA M i).l = (b i == b 3) := fun i hi => by
    rw [ai i hi, a3, hh 0 (by omega), body_mb (hX i) i hi]
    cases b i <;> cases b 3 <;> simp [hne, Ne.symm hne]
  cases hs : sameB b with
  | true =>
    unfold sameB at hs
    simp only [Bool.and_eq_true, beq_iff_eq] at hs
    have hM2 : M.map OcS.l = secsL (if b 3 then F else G) := by
      rw [hM]
      show [mixS F G b 0, mixS F G b 1, mixS F G b 2, mixS F G b 3] = _
      unfold mixS
      rw [hs.1, hs.2.1, hs.2.2]
      cases b 3 <;> rfl
    exact (mark_back (hX 3) hM2).1
  | false =>
    have hbad : mbAll (mhF (ocA M 3).l 0) M = false := by
      unfold mbAll
      rw [List.all_eq_false]
      have mem : ∀ i : Fin 3, i ∈ tk 3 := fun i => by show i ∈ (List.finRange 3).take 3; rw [List.take_of_length_le (by simp)]; exact List.mem_finRange i
      unfold sameB at hs
      by_cases h0 : (b 0 == b 3) = true
      · by_cases h1 : (b 1 == b 3) = true
        · refine ⟨2, mem 2, ?_⟩
          rw [h0, h1] at hs
          have := each 2 (by omega)
          show ¬ mbB (mhF (ocA M 3).l 0) 2 (ocA M 2).l = true
          rw [this]
          simpa using hs
        · refine ⟨1, mem 1, ?_⟩
          have := each 1 (by omega)
          show ¬ mbB (mhF (ocA M 3).l 0) 1 (ocA M 1).l = true
          rw [this]; exact h1
      · refine ⟨0, mem 0, ?_⟩
        have := each 0 (by omega)
        show ¬ mbB (mhF (ocA M 3).l 0) 0 (ocA M 0).l = true
        rw [this]; exact h0
    unfold mrB
    rw [hbad]
    simp
/-- Which bits there are. -/
def bitB (z : Int) (i : Nat) : Bool := decide ((z / 2 ^ i) % 2 = 1)
theorem same_bits (z : Int) : sameB (bitB z) = (decide (z % 16 = 0) || decide (z % 16 = 15)) := by
  have hs : ∀ (p q r s : Bool), ((p == s) && ((q == s) && (r == s))) = ((p && q && r && s) || (!p && !q && !r && !s)) := by decide
  unfold sameB bitB
  rw [hs]
  rw [show ((2:Int) ^ 0) = 1 from rfl, show ((2:Int) ^ 1) = 2 from rfl, show ((2:Int) ^ 2) = 4 from rfl, show ((2:Int) ^ 3) = 8 from rfl, Int.ediv_one]
  rw [Bool.eq_iff_iff]
  simp only [Bool.or_eq_true, Bool.and_eq_true, Bool.not_eq_true', decide_eq_true_eq, decide_eq_false_iff_not]
  omega
end Go.Proofs.Ytdagddahpccnkaa

/-
  MarkMixed: what follows its loop, as a theorem of its own. The walk. (Written by wip/tools/genmixtail.py.)
-/

namespace Go.Proofs.Ytdagddahpccnkaa
open Go.RowKit
set_option linter.unusedVariables false
set_option linter.unusedSimpArgs false

/-- A row grows by one: its length then. -/
theorem oct_row_more (base : Nat) {W : World} {V : Value} {L : List OcS} (OV : RowOwn ocT W base V L) (hl : L.length ≤ 5) (hbase : base ≤ W.heap.size) (x : OcS) :
    ∃ q c w10, (Builtin.append_ #[29, 29] 29 #[V, .slice (some ⟨W.heap.size, 0, none⟩) 1 1]).run Try.prog (W.alloc (.cells #[.slice x.a x.l.length x.cap] 33)) = .ok (.slice q (L.length + 1) c) w10 ∧ Below base W w10 := by
  have hbA : Below W.heap.size W (W.alloc (.cells #[.slice x.a x.l.length x.cap] 33)) := (Below.refl _ _).alloc (Nat.le_refl _) _
  have RI := rowOf_one ocOk (Blk.new W #[.slice x.a x.l.length x.cap] 33) (x := x) rfl
  have OA := OV.more hbA
  have hsA : (W.alloc (.cells #[.slice x.a x.l.length x.cap] 33)).heap.size = W.heap.size + 1 := by simp
  generalize W.alloc (.cells #[.slice x.a x.l.length x.cap] 33) = wA at *
  obtain ⟨v', w10, hr, O', gr, mv⟩ := append_row ocOk base 29 wA V L OA (some ⟨W.heap.size, 0, none⟩) 1 [x] RI (by show (L.length + 1) * 24 ≤ _; omega) (by unfold maxLen; simp; omega) (by omega)
  have hw := OV.within
  obtain ⟨q', c', hv', _⟩ := O'.open ocOk
  refine ⟨q', c', w10, ?_, (hbA.mono hbase).grown gr (by omega) (fun k e => (hw k e).1)⟩
  rw [hv', show (L ++ [x]).length = L.length + 1 by simp] at hr
  exact hr
/-- Too few, or too many. -/
theorem mread_not (n : Nat) (hn : n ≠ 4) (p : Option Addr) (cap : Nat) (w : World) :
    Calls Try.prog 11 #[.slice p n cap] w fun e w' => ∃ c : Array Value, e = .returned (.tuple #[.agg c, .int .i64 16]) ∧ c.size = 292 ∧ c.all (·.oneCell') = true ∧ Below w.heap.size w w' :=
  (mread_len n hn p cap w).mono fun e w' ⟨he, hb⟩ => ⟨zerosM, he, by simp [zerosM], zerosM_nums.one, hb⟩

/-- The code from a region on. -/
def codeFrom (n : Nat) : Code → Option Code
  | .seq (.region m o d) b => if m = n then some (.seq (.region m o d) b) else codeFrom n b
  | .seq _ b => codeFrom n b
  | _ => none
noncomputable def mixC : Code := ((Try.f4.body.bind (codeFrom 13)).getD .skip)

/-- A block that a call of its own result fills. -/
theorem mix_fill {d : Array Value} (hs : d.size = 292) (base : Nat) (w6 : World) (hb : base ≤ w6.heap.size) :
    (w6.alloc (.cells zerosM 27)).there w6.heap.size 0 d.size := (Blk.new w6 zerosM 27).there (n := d.size) (by rw [hs]; simp [zerosM])
theorem mix_below {d : Array Value} (w6 : World) : Below w6.heap.size w6 ((w6.alloc (.cells zerosM 27)).setCells w6.heap.size 0 d.toList) :=
  below_cells ((Below.refl w6.heap.size w6).alloc (Nat.le_refl _) (.cells zerosM 27)) (Nat.le_refl _) 0 d.toList

set_option maxRecDepth 100000 in
set_option maxHeartbeats 8000000 in
theorem mixTail {R : Ending → World → Prop} (z : Int) (E : Int) (hE : (E = 0 ∧ (z.tmod 16 == 0) = true) ∨ (E = 0 ∧ (z.tmod 16 == 0) = false ∧ (z.tmod 16 == 15) = true) ∨ (E = 16 ∧ (z.tmod 16 == 0) = false ∧ (z.tmod 16 == 15) = false))
    {b7 o7 b8 o8 cv7 cv8 ck : Nat} {qk : Option Addr} (base : Nat) (wr : World) (L7 : List OcS) (x : OcS) (O7 : RowOwn ocT wr base (.slice (some ⟨b7, o7, none⟩) 4 cv7) L7) (h7 : L7.length = 4) (hk7 : (3 : Int) ≤ (cv7 : Int)) (hbase : base ≤ wr.heap.size)
    (Z8 : wr.cell? ⟨b8, o8, none⟩ = some (.slice x.a x.l.length x.cap))
    (KR : Calls Try.prog 11 #[.slice qk 4 ck] wr fun e w' => ∃ c : Array Value, e = .returned (.tuple #[.agg c, .int .i64 E]) ∧ c.size = 292 ∧ c.all (·.oneCell') = true ∧ Below wr.heap.size wr w')
    (hR : ∀ w', Below base wr w' → R (.returned (.bool true)) w')
    {u0 u1 u3 u4 u5 u6 u10 u11 u12 u13 u14 u15 u16 u17 u18 u19 u20 u21 u22 u23 u24 u25 u26 u27 u28 u29 u30 u31 u32 u33 u34 u35 u36 u37 u38 u39 u40 u41 u42 u43 u44 u45 u46 u47 u48 u49 u50 u51 u52 u53 u54 u55 u56 u57 u58 u59 u60 u61 : Value} :
    Code.wp Try.prog mixC (bodyPost Try.prog Try.f4 R) ⟨#[u0, u1, .int .u8 z, u3, u4, u5, u6, .slice (some ⟨b7, o7, none⟩) 4 cv7, .slice (some ⟨b8, o8, none⟩) 4 cv8, .slice qk 4 ck, u10, u11, u12, u13, u14, u15, u16, u17, u18, u19, u20, u21, u22, u23, u24, u25, u26, u27, u28, u29, u30, u31, u32, u33, u34, u35, u36, u37, u38, u39, u40, u41, u42, u43, u44, u45, u46, u47, u48, u49, u50, u51, u52, u53, u54, u55, u56, u57, u58, u59, u60, u61, undef, undef, undef, undef, undef, undef, undef, undef, undef, undef, undef, undef, undef, undef, undef, undef, undef, undef, undef, undef, undef, undef, undef, undef, undef, undef, undef, undef, undef, undef, undef, undef, undef, undef, undef, undef, undef, undef, undef, undef], []⟩ wr := by
  conv => arg 2; whnf
  replace hR := hid hR
  replace hE := hid hE
  replace O7 := hid O7
  replace Z8 := hid Z8
  replace hbase := hid hbase
  go_wp2_with fail
  refine KR.mono ?_
  rintro e w6 ⟨d1, rfl, n1, on1, hb6⟩
  have E6 := below2 hb6 (mix_below (d := d1) w6) hb6.size
  have th1 := mix_fill n1 base w6 (by have := hb6.size; have := hbase.out; omega)
  have hsz1 := hid (show (Try.prog.info? 27).map (·.size) = some d1.size by rw [mtab, n1])
  replace on1 := hid on1
  have D6 := hid (E6.mono hbase.out)
  have O6 := hid (O7.out.more E6)
  have Z6 := hid ((E6.cell (p := ⟨b8, o8, none⟩) (cell_lt Z8.out)).trans Z8.out)
  clear hb6 n1 KR E6 O7 Z8
  go_wp2_with fail
  rw [mzero]
  go_wp2_with (refine wpList_store_mid rfl 27 _ _ rfl w6.heap.size 0 d1 rfl rfl th1 hsz1.out on1.out ?_)
  generalize (w6.alloc (.cells zerosM 27)).setCells w6.heap.size 0 d1.toList = wB at *
  clear th1 hsz1 on1
  go_wp2_with fail
  refine (mread_not 3 (by omega) _ _ _).mono ?_
  rintro e w7 ⟨d2, rfl, n2, on2, hb7⟩
  have E8 := below2 hb7 (mix_below (d := d2) w7) hb7.size
  have th2 := mix_fill n2 base w7 (by have := hb7.size; have := hbase.out; have := D6.out.size; omega)
  have hsz2 := hid (show (Try.prog.info? 27).map (·.size) = some d2.size by rw [mtab, n2])
  replace on2 := hid on2
  have s6 : base ≤ wB.heap.size := by have := D6.out.size; have := hbase.out; omega
  have D8 := hid (D6.out.trans (E8.mono s6))
  have O8 := O6.out.more E8
  have Z8 := hid ((E8.cell (p := ⟨b8, o8, none⟩) (cell_lt Z6.out)).trans Z6.out)
  have s8 : base ≤ ((w7.alloc (.cells zerosM 27)).setCells w7.heap.size 0 d2.toList).heap.size := by have := E8.size; omega
  obtain ⟨q9, c9, w9, hr9, hb9⟩ := oct_row_more base O8 (by omega) s8 x
  rw [show L7.length + 1 = 5 by omega] at hr9
  have D9 := hid (D8.out.trans hb9)
  replace hr9 := hid hr9
  clear hb7 n2 E8 O6 O8 Z6 D6 D8 s6 s8 hb9
  go_wp2_with fail
  rw [mzero]
  have z8 := Z8.out
  go_wp2_with (first | (refine wpList_store_mid rfl 27 _ _ rfl w7.heap.size 0 d2 rfl rfl th2 hsz2.out on2.out ?_) | (at_builtin; refine Lib.wpList_append_run _ rfl _ _ _ _ rfl _ _ rfl rfl _ _ hr9.out ?_))
  clear th2 hsz2 on2
  clear Z8 z8 hr9
  go_wp2_with fail
  refine (mread_not 5 (by omega) _ _ _).mono ?_
  rintro e w10 ⟨d3, rfl, n3, on3, hb10⟩
  have EC := below2 hb10 (mix_below (d := d3) w10) hb10.size
  have th3 := mix_fill n3 base w10 (by have := hb10.size; have := hbase.out; have := D9.out.size; omega)
  have hsz3 := hid (show (Try.prog.info? 27).map (·.size) = some d3.size by rw [mtab, n3])
  replace on3 := hid on3
  have s9 : base ≤ w9.heap.size := by have := D9.out.size; have := hbase.out; omega
  have DC := hid (D9.out.trans (EC.mono s9))
  clear hb10 n3 EC D9 s9
  go_wp2_with fail
  rw [mzero]
  have DD := hid DC.out
  clear DC
  rcases hE.out with ⟨rfl, h2⟩ | ⟨rfl, h2, h3⟩ | ⟨rfl, h2, h3⟩
  all_goals
    clear hE
    go_wp2_with (refine wpList_store_mid rfl 27 _ _ rfl w10.heap.size 0 d3 rfl rfl th3 hsz3.out on3.out ?_)
    exact hR.out _ DD.out
end Go.Proofs.Ytdagddahpccnkaa

/-
  MarkMixed: sectors of two marks of unlike epochs, mixed, are none's; nor are too few, or too many. The walk.
-/

namespace Go.Proofs.Ytdagddahpccnkaa
open Go.RowKit
set_option linter.unusedVariables false
set_option linter.unusedSimpArgs false

/-- A whole block is loaded: as an equation. -/
theorem run_load_blk {P : Program} (ρ : Operand → Value) (op : Oper) (w : World) (ty : TypeId) (x : Operand) (ho : op.op = .load ty x)
    (b : Nat) (hx : ρ x = .pointer (some ⟨b, 0, none⟩)) (c : Array Value) (d : TypeDesc) (B : Blk w b c)
    (hu : P.underlying ty = some d) (hd : d.isRow = true) (hi : (P.info? ty).map (·.size) = some c.size) :
    (execOp ρ op).run P w = .ok (.value (.agg c)) w := by
  unfold execOp
  simp only [ho, hx, Instr.loadAt, Instr.sureAddr, Sem.run_bind, Sem.run_pure, Result.andThen_ok, run_loadVar_mid w b 0 ty c.toList d B.range hu hd (by rw [hi]; simp), Array.toArray_toList]

theorem oc_lt {w : World} {x : OcS} (h : x.there w) {b o : Nat} {t : _} (e : x.a = some ⟨b, o, t⟩) (hne : x.l ≠ []) : b < w.heap.size := by
  rcases h.1 with h0 | ⟨b', o', e', hlt, _⟩
  · exact absurd h0 hne
  · rw [e'] at e; cases e; exact hlt
theorem bit_tmod (z : Int) (h : 0 ≤ z) (k : Nat) : ((z / 2 ^ k).tmod 2 == 1) = bitB z k := by
  have h2 : (0 : Int) ≤ z / 2 ^ k := Int.ediv_nonneg h (Int.le_of_lt (Int.pow_pos (by omega)))
  unfold bitB
  rw [Int.tmod_eq_emod_of_nonneg h2, Bool.eq_iff_iff]
  simp
/-- A document's sectors, as they are handed out. -/
def SecG (F : Nat → Int) (base : Nat) (v : Value) (w : World) : Prop := ∃ L, RowOwn ocT w base v L ∧ L.map OcS.l = secsL F ∧ ∀ x ∈ L, x.there w
theorem SecG.more {F : Nat → Int} {base : Nat} {v : Value} {w w' : World} (h : SecG F base v w) (hb : Below w.heap.size w w') : SecG F base v w' := by
  obtain ⟨L, O, hm, hT⟩ := h
  exact ⟨L, O.more hb, hm, fun x hx => (hT x hx).more hb⟩

/-- What is known as both marks' sectors are made. -/
structure HX (W : World) (b3 b4 : Nat) (c0 c1 : Array Value) (F G : Nat → Int) (V : Nat → Option Value) (D : Nat → Bool) (vs : Nat → Value) (w : World) : Prop where
  vals : Vals V D vs
  one : D 1 = true → SecG F W.heap.size (vs 1) w
  two : D 3 = true → SecG G W.heap.size (vs 3) w
  four : D 4 = true → D 1 = true ∧ vs 4 = vs 1
  low : Below W.heap.size W w
def tabX (c0 c1 : Array Value) : Nat → Option Value
  | 0 => some (.agg c0)
  | 2 => some (.agg c1)
  | _ => none
theorem HX.quiet {W : World} {b3 b4 : Nat} {c0 c1 : Array Value} {F G : Nat → Int} {V : Nat → Option Value} {D : Nat → Bool} {vs : Nat → Value} {w : World} (h : HX W b3 b4 c0 c1 F G V D vs w) (j : Nat) (v : Value) (h1 : 1 ≠ j) (h3 : 3 ≠ j) (h4 : 4 ≠ j) (hv : V j = some v) :
    HX W b3 b4 c0 c1 F G V (fset D j true) (fset vs j v) w := by
  refine ⟨h.vals.set j v (fun u hu => Option.some.inj (hv.symm.trans hu)), ?_, ?_, ?_, h.low⟩
  · rw [fset_ne D true h1, fset_ne vs v h1]; exact h.one
  · rw [fset_ne D true h3, fset_ne vs v h3]; exact h.two
  · rw [fset_ne D true h4, fset_ne vs v h4, fset_ne D true h1, fset_ne vs v h1]; exact h.four

set_option maxRecDepth 100000 in
set_option maxHeartbeats 8000000 in
theorem markMixed_any (c0 : Array Value) (F : Nat → Int) (N0 : Nums c0 .i64 292 F) (c1 : Array Value) (G : Nat → Int) (N1 : Nums c1 .i64 292 G) (z : Int) (hz : 0 ≤ z) (hz' : z ≤ 255) (w : World) :
    Calls Try.prog 4 #[.agg c0, .agg c1, .int .u8 z] w fun e w' => e = .returned (.bool true) ∧ Below w.heap.size w w' := by
  obtain ⟨B0, B1, hb0⟩ := @boxed2 w _ c0 c1 27 27 (Below.refl _ _)
  have hi0 := hid (show (Try.prog.info? 27).map (·.size) = some c0.size by rw [mtab, N0.size])
  have hi1 := hid (show (Try.prog.info? 27).map (·.size) = some c1.size by rw [mtab, N1.size])
  have KA := hid (fun w => alive13 w)
  have KM0 := hid (fun w => mmay_any c0 F N0 w)
  have KM1 := hid (fun w => mmay_any c1 G N1 w)
  have f00 := hid (N0.get 0 (by omega))
  have g00 := hid (N1.get 0 (by omega))
  have HN0 := hid N0
  have HN1 := hid N1
  replace B0 := hid B0
  replace B1 := hid B1
  replace hb0 := hid hb0
  clear N0 N1
  go_enter Try.func4, Try.ntmps4
  go_wp2_with fail
  generalize (w.alloc (.cells c0 27)).alloc (.cells c1 27) = W0 at *
  refine (KA.out _).mono ?_
  rintro e w1 ⟨rfl, hb1⟩
  have D1 := hid (below2 hb0.out hb1 hb0.out.size)
  have P1 := hid (B0.out.more hb1)
  have Q1 := hid (B1.out.more hb1)
  clear hb1 hb0 B0 B1 KA
  go_wp2_with (refine wpList_load_blk rfl 27 _ rfl w.heap.size rfl c0 _ P1.out Try.underlying27 rfl hi0.out ?_)
  refine (KM0.out _).mono ?_
  rintro e w2 ⟨rfl, hb2⟩
  have D2 := hid (below2 D1.out hb2 D1.out.size)
  have P2 := hid (P1.out.more hb2)
  have Q2 := hid (Q1.out.more hb2)
  clear hb2 KM0 D1 P1 Q1
  cases hF : mOk F with
  | false =>
    clear hF
    go_wp2_with fail
    go_ret
    exact ⟨rfl, D2.out⟩
  | true =>
  go_wp2_with fail
  refine wp_load_blk 27 _ rfl (w.heap.size + 1) rfl c1 _ Q2.out Try.underlying27 rfl hi1.out ?_
  go_wp2_with fail
  refine (KM1.out _).mono ?_
  rintro e w3 ⟨rfl, hb3⟩
  have D3 := hid (below2 D2.out hb3 D2.out.size)
  have P3 := hid (P2.out.more hb3)
  have Q3 := hid (Q2.out.more hb3)
  clear hb3 KM1 D2 P2 Q2
  cases hG : mOk G with
  | false =>
    clear hF hG
    go_wp2_with fail
    go_ret
    exact ⟨rfl, D3.out⟩
  | true =>
  have u0 := P3.out.cell 0
  rw [f00.out] at u0
  have u1 := Q3.out.cell 0
  rw [g00.out] at u1
  cases he : (F 0 == G 0) with
  | true =>
    clear hF hG f00 g00
    generalize F 0 = f0 at *
    generalize G 0 = g0 at *
    go_wp2_with fail
    go_ret
    exact ⟨rfl, D3.out⟩
  | false =>
  have hne : F 0 ≠ G 0 := by simpa using he
  have KS0 := hid (fun w => secs_any c0 F HN0.out hF w)
  have KS1 := hid (fun w => secs_any c1 G HN1.out hG w)
  have hmix := hid (fun (b : Nat → Bool) (M : List OcS) (hM : M.map OcS.l = mixL F G b 4) => mix_read hF hG hne b hM)
  have hsl := hid (show (secsL F).length = 4 ∧ (secsL G).length = 4 from ⟨rfl, rfl⟩)
  clear hF hG hne f00 g00 HN0 HN1
  generalize hf0 : F 0 = f0 at he u0
  generalize hg0 : G 0 = g0 at he u1
  clear hf0 hg0
  go_wp2_with fail
  clear u0 u1 he
  generalize hV : tabX c0 c1 = V
  refine wp_region_inv 5 (fun D vs wx => HX w3 w.heap.size (w.heap.size + 1) c0 c1 F G V D vs wx) (by kernel_rfl) (by kernel_rfl) ?h0 ?hstep ?hend
  case h0 => exact ⟨Vals.nil, (fun h => by cases h), (fun h => by cases h), (fun h => by cases h), (Below.refl _ _).drew⟩
  case hstep =>
    intro j o hj ho D vs ax wx hDj hD hv hbase H
    rcases (show j = 0 ∨ j = 1 ∨ j = 2 ∨ j = 3 ∨ j = 4 by omega) with rfl | rfl | rfl | rfl | rfl
    all_goals
      simp only [List.getElem?_cons_zero, List.getElem?_cons_succ, Option.some.injEq] at ho
      subst ho
    · have e3 := at_base hbase 3 (by kernel_rfl) (v := .pointer (some ⟨w.heap.size, 0, none⟩)) rfl
      exact StepOf.value (.agg c0) (wanted_plain rfl _) (run_load_blk _ _ _ 27 _ rfl w.heap.size (eval_get e3) c0 _ (P3.out.more H.low) Try.underlying27 rfl hi0.out) (H.quiet 0 _ (by omega) (by omega) (by omega) (by rw [← hV]; rfl))
    · have e34 := at_done H.vals hv (hD 0 (by kernel_rfl)) 34 (by kernel_rfl) (v := .agg c0) (by rw [← hV]; rfl)
      refine StepOf.call _ _ (wanted_plain rfl _) (by simp [execOp, Act.eval, e34, go_sem]) ((KS0.out wx).mono ?_)
      rintro e w' ⟨v, L, rfl, O, hm, hT, hb⟩
      refine ⟨v, rfl, H.vals.set 1 v (fun u hu => by rw [← hV] at hu; cases hu), fun _ => ?_, ?_, fun h => ?_, below2 H.low hb H.low.size⟩
      · rw [fset_same]; exact ⟨L, O.mono H.low.size, hm, hT⟩
      · rw [fset_ne D true (by omega : 3 ≠ 1), fset_ne vs v (by omega : 3 ≠ 1)]; exact fun h => (H.two h).more hb
      · rw [fset_ne D true (by omega : 4 ≠ 1)] at h
        have := (H.four h).1
        rw [hDj] at this; cases this
    · have e4 := at_base hbase 4 (by kernel_rfl) (v := .pointer (some ⟨w.heap.size + 1, 0, none⟩)) rfl
      exact StepOf.value (.agg c1) (wanted_plain rfl _) (run_load_blk _ _ _ 27 _ rfl (w.heap.size + 1) (eval_get e4) c1 _ (Q3.out.more H.low) Try.underlying27 rfl hi1.out) (H.quiet 2 _ (by omega) (by omega) (by omega) (by rw [← hV]; rfl))
    · have e36 := at_done H.vals hv (hD 2 (by kernel_rfl)) 36 (by kernel_rfl) (v := .agg c1) (by rw [← hV]; rfl)
      refine StepOf.call _ _ (wanted_plain rfl _) (by simp [execOp, Act.eval, e36, go_sem]) ((KS1.out wx).mono ?_)
      rintro e w' ⟨v, L, rfl, O, hm, hT, hb⟩
      refine ⟨v, rfl, H.vals.set 3 v (fun u hu => by rw [← hV] at hu; cases hu), ?_, fun _ => ?_, fun h => ?_, below2 H.low hb H.low.size⟩
      · rw [fset_ne D true (by omega : 1 ≠ 3), fset_ne vs v (by omega : 1 ≠ 3)]; exact fun h => (H.one h).more hb
      · rw [fset_same]; exact ⟨L, O.mono H.low.size, hm, hT⟩
      · rw [fset_ne D true (by omega : 4 ≠ 3)] at h
        rw [fset_ne D true (by omega : 1 ≠ 3), fset_ne vs v (by omega : 4 ≠ 3), fset_ne vs v (by omega : 1 ≠ 3)]
        exact H.four h
    · have h1 := hD 1 (by kernel_rfl)
      have e35 : ax.tmps[35]?.getD undef = vs 1 := by rw [hv 1 35 h1 (by kernel_rfl)]; rfl
      refine StepOf.value (vs 1) (wanted_plain rfl _) (by simp [execOp, e35, go_sem]) ⟨H.vals.set 4 _ (fun u hu => by rw [← hV] at hu; cases hu), ?_, ?_, fun _ => ?_, H.low⟩
      · rw [fset_ne D true (by omega : 1 ≠ 4), fset_ne vs _ (by omega : 1 ≠ 4)]; exact H.one
      · rw [fset_ne D true (by omega : 3 ≠ 4), fset_ne vs _ (by omega : 3 ≠ 4)]; exact H.two
      · rw [fset_ne D true (by omega : 1 ≠ 4), fset_same, fset_ne vs _ (by omega : 1 ≠ 4)]; exact ⟨h1, rfl⟩
  case hend =>
    intro D vs wx hall H
    have v0 := H.vals 0 _ (hall 0 (by omega)) (by rw [← hV]; rfl)
    have v2 := H.vals 2 _ (hall 2 (by omega)) (by rw [← hV]; rfl)
    obtain ⟨L7, O7, hm7, hT7⟩ := H.one (hall 1 (by omega))
    obtain ⟨L8, O8, hm8, hT8⟩ := H.two (hall 3 (by omega))
    obtain ⟨_, v4⟩ := H.four (hall 4 (by omega))
    have D5 := hid (D3.out.trans (H.low.mono D3.out.size))
    obtain ⟨q7, cv7, v1, k7, k7', R7⟩ := O7.open ocOk
    obtain ⟨q8, cv8, v3, k8, k8', R8⟩ := O8.open ocOk
    rw [v1] at v4 O7
    have l7 : L7.length = 4 := by have := congrArg List.length hm7; rw [List.length_map, hsl.out.1] at this; exact this
    have l8 : L8.length = 4 := by have := congrArg List.length hm8; rw [List.length_map, hsl.out.2] at this; exact this
    rw [l7] at v1 v4 O7 k7
    rw [l8] at v3 k8
    simp only [puts, List.range, List.range.loop, List.foldl_cons, List.foldl_nil, List.getElem?_toArray, List.getElem?_cons_succ, List.getElem?_cons_zero, Option.bind_some, Act.put, List.setIfInBounds_toArray, List.set_cons_succ, List.set_cons_zero, v0, v1, v2, v3, v4]
    simp only [List.drop_succ_cons, List.drop_zero]
    have hlow := hid H.low.size
    have hs3 := hid D3.out.size
    clear v0 v1 v2 v3 v4 hall H hV KS0 KS1 P3 Q3 D3 hi0 hi1 O8
    have hR7 : RowP wx q7 1 L7.length (fun i => [.slice (ocA L7 i).a (ocA L7 i).l.length (ocA L7 i).cap]) := R7
    have hR8 : RowP wx q8 1 L8.length (fun i => [.slice (ocA L8 i).a (ocA L8 i).l.length (ocA L8 i).cap]) := R8
    rw [l7] at hR7
    rw [l8] at hR8
    obtain ⟨b7, o7, hq7, r7⟩ := hR7.row (by omega)
    obtain ⟨b8, o8, hq8, r8⟩ := hR8.row (by omega)
    subst hq7 hq8
    have c7 := hid (fun i (h : i < 4) => r7.at0 h (v := .slice (ocA L7 i).a (ocA L7 i).l.length (ocA L7 i).cap) rfl)
    have c8 := hid (fun i (h : i < 4) => r8.at0 h (v := .slice (ocA L8 i).a (ocA L8 i).l.length (ocA L8 i).cap) rfl)
    have t7 := hid (fun i (h : i < 4) => hT7 _ (ocA_mem L7 i (by omega)))
    have t8 := hid (fun i (h : i < 4) => hT8 _ (ocA_mem L8 i (by omega)))
    have s7 := hid (fun i (h : i < 4) => show (ocA L7 i).l = (secsL F).getD i [] by
      rw [ocA_eq L7 i (by omega), ← hm7]; simp [show i < L7.length by omega])
    have s8 := hid (fun i (h : i < 4) => show (ocA L8 i).l = (secsL G).getD i [] by
      rw [ocA_eq L8 i (by omega), ← hm8]; simp [show i < L8.length by omega])
    have HO7 := hid O7
    have hk7 : (3 : Int) ≤ (cv7 : Int) := by omega
    have hk7' : (4 : Int) ≤ (cv7 : Int) := by omega
    clear hR7 hR8 r7 r8 R7 R8 hT7 hT8 hm7 hm8 O7 k7' k8' k7 k8
    go_wp2_with fail
    rename_i K aK
    replace aK := hid aK
    go_loopw [10, 9] (fun i v wr => ∃ k : Nat, k ≤ 4 ∧ i = .int .i64 (k : Int) ∧ Below wx.heap.size wx wr ∧ ∃ Lk, RowOwn ocT wr wx.heap.size v Lk ∧ Lk.map OcS.l = mixL F G (bitB z) k ∧ (∀ x ∈ Lk, x.there wx) ∧ ∃ q c, v = .slice q Lk.length c ∧ Lk.length ≤ c) (fun i _ _ => 4 - (intOf i).toNat)
    case atStart => exact ⟨0, by omega, rfl, Below.refl _ _, [], RowOwn.nil _ _, rfl, by simp, _, _, rfl, Nat.le_refl _⟩
    case round =>
      obtain ⟨k, hk, rfl, hb, Lk, Ok, hmk, hTk, qk, ck, rfl, hck⟩ := hrel
      rename World => wr
      by_cases hlt : k < 4
      · have hlt' : decide ((k : Int) < 4) = true := decide_eq_true (by omega)
        have hbk := hid (bit_tmod z hz k)
        have hLk : Lk.length = k := by have := congrArg List.length hmk; simpa [mixL] using this
        have hkb : (0 : Int) ≤ (k : Int) ∧ (k : Int) < 4 := by omega
        cases hbit : ((z / 2 ^ k).tmod 2 == 1) with
        | true =>
          have z1 := (hb.cell (p := ⟨b7, o7 + k * 1, none⟩) (cell_lt (c7.out k hlt))).trans (c7.out k hlt)
          rw [Nat.mul_one] at z1
          have tx := t7.out k hlt
          obtain ⟨v', w10, ⟨q', n', c', hv'⟩, hr, hb10, O10, _⟩ := oct_row_grow wx.heap.size Ok (fun y hy => ⟨(hTk y hy).more hb, fun b o t e hne hv => by have := (Ok.within b hv).1; have := oc_lt (hTk y hy) e hne; omega⟩) (by omega) hb.size (ocA L7 k) (tx.more hb) (fun b o t e hne hv => by have := (Ok.within b hv).1; have := oc_lt tx e hne; omega)
          obtain ⟨q9, c9, hv9, k9, _, _⟩ := O10.open ocOk
          have hnx : IntKind.i64.wrap ((k : Int) + 1) = (k : Int) + 1 := IntWalk.i64_in _ ⟨by omega, by omega⟩
          have hEnd := hid (show Below wx.heap.size wx w10 ∧ ∃ L', RowOwn ocT w10 wx.heap.size v' L' ∧ L'.map OcS.l = mixL F G (bitB z) (k + 1) ∧ (∀ x ∈ L', x.there wx) ∧ ∃ q c, v' = .slice q L'.length c ∧ L'.length ≤ c from
            ⟨hb.trans hb10, _, O10, by rw [List.map_append, hmk, mixL_succ, List.map_cons, List.map_nil, s7.out k hlt]; unfold mixS; rw [← hbk.out, hbit]; rfl, fun y hy => by
              rcases List.mem_append.1 hy with h | h
              · exact hTk y h
              · simp only [List.mem_singleton] at h; rw [h]; exact tx, q9, c9, hv9, k9⟩)
          rw [hv'] at hEnd hr
          have hrh := hid hr
          have hlth := hid hlt
          clear hb hmk hTk Ok tx hb10 O10 hv9 k9 hr hv' hbk
          generalize ocA L7 k = x at *
          generalize Lk.length = ll at *
          go_wp2_with (at_builtin; refine Lib.wpList_append_run _ rfl _ _ _ _ rfl _ _ rfl rfl _ _ hrh.out ?_)
          go_roundw
          case rel => exact ⟨k + 1, by have := hlth.out; omega, by simp, hEnd.out⟩
          case measure => have := hlth.out; simp [intOf]; omega
        | false =>
          have z1 := (hb.cell (p := ⟨b8, o8 + k * 1, none⟩) (cell_lt (c8.out k hlt))).trans (c8.out k hlt)
          rw [Nat.mul_one] at z1
          have tx := t8.out k hlt
          obtain ⟨v', w10, ⟨q', n', c', hv'⟩, hr, hb10, O10, _⟩ := oct_row_grow wx.heap.size Ok (fun y hy => ⟨(hTk y hy).more hb, fun b o t e hne hv => by have := (Ok.within b hv).1; have := oc_lt (hTk y hy) e hne; omega⟩) (by omega) hb.size (ocA L8 k) (tx.more hb) (fun b o t e hne hv => by have := (Ok.within b hv).1; have := oc_lt tx e hne; omega)
          obtain ⟨q9, c9, hv9, k9, _, _⟩ := O10.open ocOk
          have hnx : IntKind.i64.wrap ((k : Int) + 1) = (k : Int) + 1 := IntWalk.i64_in _ ⟨by omega, by omega⟩
          have hEnd := hid (show Below wx.heap.size wx w10 ∧ ∃ L', RowOwn ocT w10 wx.heap.size v' L' ∧ L'.map OcS.l = mixL F G (bitB z) (k + 1) ∧ (∀ x ∈ L', x.there wx) ∧ ∃ q c, v' = .slice q L'.length c ∧ L'.length ≤ c from
            ⟨hb.trans hb10, _, O10, by rw [List.map_append, hmk, mixL_succ, List.map_cons, List.map_nil, s8.out k hlt]; unfold mixS; rw [← hbk.out, hbit]; rfl, fun y hy => by
              rcases List.mem_append.1 hy with h | h
              · exact hTk y h
              · simp only [List.mem_singleton] at h; rw [h]; exact tx, q9, c9, hv9, k9⟩)
          rw [hv'] at hEnd hr
          have hrh := hid hr
          have hlth := hid hlt
          clear hb hmk hTk Ok tx hb10 O10 hv9 k9 hr hv' hbk
          generalize ocA L8 k = x at *
          generalize Lk.length = ll at *
          go_wp2_with (at_builtin; refine Lib.wpList_append_run _ rfl _ _ _ _ rfl _ _ rfl rfl _ _ hrh.out ?_)
          go_roundw
          case rel => exact ⟨k + 1, by have := hlth.out; omega, by simp, hEnd.out⟩
          case measure => have := hlth.out; simp [intOf]; omega
      · obtain rfl : k = 4 := by omega
        have hL4 : Lk.length = 4 := by have := congrArg List.length hmk; simpa [mixL] using this
        obtain ⟨pk, ck', hvk, hk1, hk2, Rk⟩ := Ok.open ocOk
        have hqk : qk = pk ∧ ck = ck' := by simpa using hvk
        have KR := (mread_any Lk qk ck (by omega) (by omega) wr (by rw [hqk.1]; exact Rk) (fun x hx => (hTk x hx).more hb)).mono (R' := fun e w' => ∃ c : Array Value, e = .returned (.tuple #[.agg c, .int .i64 (mrE Lk)]) ∧ c.size = 292 ∧ c.all (·.oneCell') = true ∧ Below wr.heap.size wr w') fun e w' ⟨d1, he, N1, hb⟩ => ⟨d1, he, N1.size, N1.one, hb⟩
        have hmr := hmix.out (bitB z) Lk hmk
        rw [same_bits] at hmr
        have hE : (mrE Lk = 0 ∧ (z.tmod 16 == 0) = true) ∨ (mrE Lk = 0 ∧ (z.tmod 16 == 0) = false ∧ (z.tmod 16 == 15) = true) ∨ (mrE Lk = 16 ∧ (z.tmod 16 == 0) = false ∧ (z.tmod 16 == 15) = false) := by
          unfold mrE
          rw [hmr, Int.tmod_eq_emod_of_nonneg hz]
          by_cases a0 : z % 16 = 0
          · exact .inl ⟨by simp [a0], by simp [a0]⟩
          · by_cases a1 : z % 16 = 15
            · exact .inr (.inl ⟨by simp [a1], by simp [a0], by simp [a1]⟩)
            · exact .inr (.inr ⟨by simp [a0, a1], by simp [a0], by simp [a1]⟩)
        have z8 := (hb.cell (p := ⟨b8, o8 + 0 * 1, none⟩) (cell_lt (c8.out 0 (by omega)))).trans (c8.out 0 (by omega))
        rw [Nat.zero_mul, Nat.add_zero] at z8
        have hwr : w3.heap.size ≤ wr.heap.size := by have := hb.size; have := hlow.out; omega
        rw [hL4] at KR ⊢
        have HT := hid (fun (R : Ending → World → Prop) hR => @mixTail R z (mrE Lk) hE b7 o7 b8 o8 cv7 cv8 ck qk w3.heap.size wr L7 (ocA L8 0) (HO7.out.more hb) l7 hk7 hwr z8 KR hR)
        have Dr := hid (D5.out.trans (hb.mono (by have := D5.out.size; exact this)))
        replace hwr := hid hwr
        clear hE hmr hvk hqk Rk hb hmk hTk Ok z8 hck hL4 KR
        generalize Lk.length = ll at *
        go_wp2_with fail
        refine aK.out _ _ ?_
        refine HT.out _ (fun w' h => ⟨rfl, Dr.out.trans (h.mono hs3.out)⟩)
end Go.Proofs.Ytdagddahpccnkaa

/-
  What an argument that comes in is: a mark, as its 292 numbers.
-/



namespace Go.Proofs.Ytdagddahpccnkaa
open Go.ChangeShapes Go.WideShapes Go.ChangeAt Go.RowKit Go.Joins Go.Deep
set_option linter.unusedVariables false

section
variable {H : Type} {enc : TypeId × Value → H} {P : Program} {w : World} {base : Nat} {spare : Nat → Bool} {held : Bool}
/-- An array's cells in a field. -/
theorem arr_in {t e : TypeId} {n : Nat} {k : IntKind} {cs : List Value} {fuel : Nat} {x : DataW H × List MemPlace}
    (ht : P.underlying t = some (.array n e)) (he : P.underlying e = some (.int k)) (hce : P.cellsOf e = 1) (hf : DataW.trod enc P w base spare held fuel t cs = some x) :
    ∀ i, i < n → ∃ a : Int, cs[i]? = some (.int k a) := by
  obtain ⟨xs, m, _, _, hl, hxl, hi⟩ := DataW.trod_array ht hf
  intro i hin
  have h1 := hi i hin
  rw [List.getElem?_eq_getElem (by omega)] at h1
  obtain ⟨a, e1, _, wa⟩ := DataW.trod_int he h1
  refine ⟨a, ?_⟩
  rw [hce, Nat.mul_one] at e1
  have e2 := congrArg (fun l : List Value => l[0]?) e1
  simpa using e2
end

set_option maxRecDepth 100000 in
/-- A mark that comes in. -/
theorem mk_of {H : Type} {enc : TypeId × Value → H} {W : World} {b0 : Nat} {v : Value} {d : DataW H} {p : List MemPlace} (hv : Value.okWide Try.prog W .any b0 27 v) (h : DataW.Trod enc Try.prog W 0 (fun _ => true) true 27 v d p) :
    ∃ (c : Array Value) (F : Nat → Int), v = .agg c ∧ Nums c .i64 292 F := by
  obtain ⟨cs, rfl, hsz⟩ := okWide_struct Try.underlying27 hv
  obtain ⟨fuel, hf⟩ := h
  obtain ⟨xs, m, _, hx, hl, hxl, hfield⟩ := DataW.trod_struct Try.underlying27 hf
  have hC : Try.prog.cellsOf 27 = 292 := by kernel_rfl
  have hci : Try.prog.cellsOf 3 = 1 := by kernel_rfl
  have hcp : Try.prog.cellsOf 23 = 3 := by kernel_rfl
  have hca : Try.prog.cellsOf 24 = 32 := by kernel_rfl
  have hcm : Try.prog.cellsOf 25 = 256 := by kernel_rfl
  have hl' : cs.size = 292 := by rw [← hC]; simpa [Value.cells] using hl
  have hxl' : xs.length = 4 := hxl
  match xs, hxl' with
  | [y0, y1, y2, y3], _ =>
    have h0 := hfield 0 _ rfl
    have h1 := hfield 1 _ rfl
    have h2 := hfield 2 _ rfl
    have h3 := hfield 3 _ rfl
    simp [Value.cells, hci, hcp, hca, hcm] at h0 h1 h2 h3
    obtain ⟨z0, e0, _, _⟩ := DataW.trod_int Try.underlying3 h0
    obtain ⟨ps, m1, _, _, _, hpl, hp⟩ := DataW.trod_struct Try.underlying23 h1
    have hpl' : ps.length = 3 := hpl
    have a2 := arr_in Try.underlying24 Try.underlying3 hci h2
    have a3 := arr_in Try.underlying25 Try.underlying3 hci h3
    match ps, hpl' with
    | [q0, q1, q2], _ =>
      have p0 := hp 0 _ rfl
      have p1 := hp 1 _ rfl
      have p2 := hp 2 _ rfl
      simp [hci] at p0 p1 p2
      obtain ⟨u0, f0, _, _⟩ := DataW.trod_int Try.underlying3 p0
      obtain ⟨u1, f1, _, _⟩ := DataW.trod_int Try.underlying3 p1
      obtain ⟨u2, f2, _, _⟩ := DataW.trod_int Try.underlying3 p2
      have key : ∀ j, j < 292 → ∃ a : Int, cs[j]? = some (.int .i64 a) := by
        intro j hj
        by_cases j0 : j = 0
        · subst j0
          have e2 := congrArg (fun l : List Value => l[0]?) e0
          exact ⟨z0, by simpa using e2⟩
        by_cases j1 : j = 1
        · subst j1
          have e2 := congrArg (fun l : List Value => l[0]?) f0
          exact ⟨u0, by simpa using e2⟩
        by_cases j2 : j = 2
        · subst j2
          have e2 := congrArg (fun l : List Value => l[0]?) f1
          exact ⟨u1, by simpa using e2⟩
        by_cases j3 : j = 3
        · subst j3
          have e2 := congrArg (fun l : List Value => l[0]?) f2
          exact ⟨u2, by simpa using e2⟩
        by_cases j4 : j < 36
        · obtain ⟨a, ha⟩ := a2 (j - 4) (by omega)
          rw [List.getElem?_take_of_lt (by omega), List.getElem?_drop, show 4 + (j - 4) = j by omega] at ha
          exact ⟨a, by simpa using ha⟩
        · obtain ⟨a, ha⟩ := a3 (j - 36) (by omega)
          rw [List.getElem?_take_of_lt (by omega), List.getElem?_drop, show 36 + (j - 36) = j by omega] at ha
          exact ⟨a, by simpa using ha⟩
      refine ⟨cs, fun i => numIn ((cs[i]?).getD undef), rfl, ⟨hl', fun j hj => ?_⟩⟩
      obtain ⟨a, ha⟩ := key j hj
      rw [ha]; rfl
end Go.Proofs.Ytdagddahpccnkaa

namespace Go.Proofs.Ytdagddahpccnkaa
open Go.ChangeShapes Go.WideShapes Go.ChangeAt Go.RowKit
set_option linter.unusedVariables false
set_option maxRecDepth 100000

theorem markMixed_lifted (os : Os) (started : os.Started) (H : Type) (enc : TypeId × Value → H) :
    ReturnsInHanded {} Try.checked os 4 .any (Rows.markMixedSpec.pre6 enc Try.prog Try.f4 [] false) (Rows.markMixedSpec.post enc Try.prog Try.f4 false true false false) :=
  lift (C := Try.checked) (s := Rows.markMixedSpec) own (by kernel_rfl) Try.func4 laidOut rfl rfl Try.underlying4 (by kernel_rfl)
    (fun H ds hd => by match ds, hd with | [d1, d2, d3], _ => rfl) os started H enc
    (ChangeSpec.witness6 (enc := enc) (C := Try.checked) false ⟨#[], #[(.agg (Array.replicate 292 (.int .i64 0))), (.agg (Array.replicate 292 (.int .i64 0))), .int .u8 0], []⟩ 8 (by kernel_rfl) (by kernel_rfl) (by kernel_rfl) (by kernel_rfl))
    (fun W base args ds ps hval0 hA0 => by
      have hval : ∀ (j : Nat) t v, Try.f4.params[j]? = some t → args[j]? = some v → Value.okWide Try.prog W .any base t v := hval0
      have hA : DataW.TrodAll enc Try.prog W 0 (fun _ => true) true Try.f4.params.toList args.toList ds ps := hA0
      rw [Try.params4] at hA hval
      obtain ⟨v0, s0, d0, e0, p0, q0, g0, h0, r0⟩ := args_cons hA
      obtain ⟨v1, s1, d1, e1, p1, q1, rfl, h1, r1⟩ := args_cons r0
      obtain ⟨v2, s2, d2, e2, p2, q2, rfl, h2, r2⟩ := args_cons r1
      obtain ⟨rfl, _, _⟩ := trodAll_nil r2
      obtain rfl : args = #[v0, v1, v2] := by cases args; simp_all
      obtain ⟨c0, F0, rfl, N0⟩ := mk_of (hval 0 27 v0 rfl rfl) h0
      obtain ⟨c1, F1, rfl, N1⟩ := mk_of (hval 1 27 v1 rfl rfl) h1
      obtain ⟨z, rfl, _, _, wz⟩ := open_int Try.underlying5 (hval 2 5 v2 rfl rfl) h2
      have bz := bounds_u8 wz
      exact markMixed_any c0 F0 N0 c1 F1 N1 z bz.1 bz.2 W)

theorem markMixed_holds : Rows.MarkMixedSaid :=
  OpenClaim.holds_of_wide 4 Try.f4 rfl rfl rfl rfl rfl rfl rfl ⟨rfl, rfl, rfl, rfl, rfl⟩ rfl rfl rfl rfl rfl (by kernel_rfl) Try.func4 (by kernel_rfl)
    (of_decide_eq_true (by kernel_rfl)) (by unfold Func.isWrapper; rw [if_neg (of_decide_eq_false (by kernel_rfl))]; exact ⟨rfl, rfl⟩)
    (fun os started H enc _ => markMixed_lifted os started H enc)
#print axioms markMixed_holds
end Go.Proofs.Ytdagddahpccnkaa
