/-
  The document's own sectors: Sector, where one can be.
-/
import Derived.Test.YtgnnikjpnmalmaaFrameRefSector
import Derived.Test.YtgnnikjpnmalmaaCrcRef
import Derived.Deep.RegionHeld3
namespace Go.Proofs.Ytgnnikjpnmalmaa
open Go.RowKit
set_option linter.unusedVariables false
set_option linter.unusedSimpArgs false

theorem octs_len {w : World} {b : Nat} {a : Option Addr} {n cap : Nat} {L : List UInt8} (h : L.length = n) (own : w.ownsRow b 5 1 (.slice a n cap) n (Lib.byteCells L)) : Octs w a L := by
  subst h; exact Octs.of_own own
theorem two_new (w : World) (x y : UInt8) (t : TypeId) : Octs (w.alloc (.cells #[.int .u8 (x.toNat : Int), .int .u8 (y.toNat : Int)] t)) (some ⟨w.heap.size, 0, none⟩) [x, y] := by
  refine .inr ⟨w.heap.size, 0, rfl, by simp, fun i hi => ?_⟩
  have : i = 0 ∨ i = 1 := by simp at hi; omega
  rcases this with rfl | rfl <;> simp
theorem own_form {w : World} {b n : Nat} {v : Value} {L : List UInt8} (own : w.ownsRow b 5 1 v n (Lib.byteCells L)) : ∃ a cap, v = .slice a n cap := by
  rcases own.2 with ⟨rfl, h0⟩ | ⟨g, c, cur, rfl, _⟩
  · exact ⟨none, 0, by rw [h0]⟩
  · exact ⟨_, c, rfl⟩

set_option maxRecDepth 100000 in
set_option maxHeartbeats 16000000 in
theorem sector_ok (kind : Int) (t : Stp) (l : List UInt8) (a : Option Addr) (cap : Nat) (hf : stFits kind t) (hl : l.length ≤ 238) (w : World) (O : Octs w a l) :
    Calls Try.prog 49 #[.int .i64 kind, sval t, .slice a l.length cap] w (SealPost kind t l w) := by
  obtain ⟨W0, hW0⟩ : ∃ W0, w.alloc (.cells (scells t) 75) = W0 := ⟨_, rfl⟩
  have hb0 : Below w.heap.size w W0 := by rw [← hW0]; exact (Below.refl _ _).alloc (Nat.le_refl _) _
  have BX : Blk W0 w.heap.size (scells t) := by rw [← hW0]; exact Blk.new w _ _
  have O0 := hid (O.more hb0)
  have E : Hid (∀ v w1 w', Below w.heap.size w w1 → Fresh w1 w' v (sealB kind t l) → SealPost kind t l w (.returned (.tuple #[v, .int .i64 0])) w') := hid (fun v w1 w' hb F => by
    refine ⟨v, by unfold sealC; rw [if_pos hf, if_pos hl], ?_⟩
    unfold sealL
    rw [if_pos ⟨hf, hl⟩]
    obtain ⟨xa, xc, hv, OX, hb'⟩ := F
    exact ⟨xa, xc, hv, own_base OX hb.size, below2 hb hb' hb.size⟩)
  obtain ⟨k0, k1, e0, e1, s0, s1, a0, a1⟩ := hf
  have KK := hid (fun w => refNum_fit kind 1 1 rfl k0 (by omega) (by omega) w)
  have KE := hid (fun w => refNum_fit t.e 4 4 rfl e0 (by omega) (by omega) w)
  have KQ := hid (fun w => refNum_fit t.s 4 4 rfl s0 (by omega) (by omega) w)
  have KA := hid (fun w => refNum_fit t.a 2 2 rfl a0 (by omega) (by omega) w)
  have KL := hid (fun w => refNum_fit l.length 1 1 rfl (by omega) (by omega) (by omega) w)
  have hlI : (l.length : Int) ≤ 238 := by omega
  have cl := hid (crcN_lt (bodyB kind t l))
  have bl := hid (bodyB_length kind t l hl)
  have hsB := hid (show [67, 82] ++ leB kind.toNat 1 ++ leB t.e.toNat 4 ++ leB t.s.toNat 4 ++ leB t.a.toNat 2 ++ leB (l.length : Int).toNat 1 ++ l ++ List.replicate (238 - l.length) 0 = bodyB kind t l by simp [bodyB, headB, List.append_assoc])
  have HBX := hid BX
  have g1 := decide_eq_false (p := kind < 0) (by omega)
  have g2 := decide_eq_false (p := 255 < kind) (by omega)
  have g3 := decide_eq_false (p := t.e < 0) (by omega)
  have g4 := decide_eq_false (p := 4294967295 < t.e) (by omega)
  have g5 := decide_eq_false (p := t.s < 0) (by omega)
  have g6 := decide_eq_false (p := 4294967295 < t.s) (by omega)
  have g7 := decide_eq_false (p := t.a < 0) (by omega)
  have g8 := decide_eq_false (p := 65535 < t.a) (by omega)
  have g9 := decide_eq_false (p := 238 < (l.length : Int)) (by omega)
  replace hb0 := hid hb0
  clear BX O
  go_enter Try.func49, Try.ntmps49
  obtain ⟨lx, kx, fx⟩ := HBX.out
  go_wp2_with fail
  have hbn : Below W0.heap.size W0 (W0.alloc (.cells #[.int .u8 67, .int .u8 82] 5)) := (Below.refl _ _).alloc (Nat.le_refl _) _
  have T1 : Octs (W0.alloc (.cells #[.int .u8 67, .int .u8 82] 5)) (some ⟨W0.heap.size, 0, none⟩) [67, 82] := two_new W0 67 82 5
  refine (KK.out _).mono ?_
  rintro e w2 ⟨ba2, bc2, rfl, OA2, hb2⟩
  have T2 := hid (T1.more hb2)
  have B2 := hid (below2 hbn hb2 (by simp))
  replace OA2 := hid OA2
  clear T1 hbn hb2 hW0 g1 g2 g3 g4 g5 g6 g7 g8 g9
  go_wp2_with fail
  refine (refCat_len [67, 82] (leB kind.toNat 1) 2 1 rfl (leB_length _ _) _ _ _ _ _ T2.out OA2.out (by omega)).mono ?_
  rintro e w3 ⟨ba3, bc3, rfl, R3, hb3⟩
  have O3 := hid (octs_len (by simp [leB_length]) R3)
  have B3 := hid (below2 B2.out hb3 B2.out.size)
  clear T2 OA2 B2 R3 hb3 lx kx fx
  have HB3 := hid (HBX.out.more B3.out)
  obtain ⟨lx, kx, fx⟩ := HB3.out
  go_wp2_with fail
  have x0 : w3.cell? ⟨w.heap.size, 0, none⟩ = some (.int .i64 t.e) := kx 0
  have x1 : w3.cell? ⟨w.heap.size, 1, none⟩ = some (.int .i64 t.s) := kx 1
  go_region_held3 (fun w' => w'.cell? ⟨w.heap.size, 0, none⟩ = some (.int .i64 t.e) ∧ w'.cell? ⟨w.heap.size, 1, none⟩ = some (.int .i64 t.s))
    (first | exact ⟨x40, x41⟩ | exact ⟨x50, x51⟩ | exact ⟨x60, x61⟩ | exact ⟨x70, x71⟩ | go_keep)
    (first
      | ((with_reducible refine (KE.out _).mono ?_); rintro e w4 ⟨ba4, bc4, rfl, OA4, hb4⟩; have C4 := undrew hb4; have HB4 := HB3.out.more C4; have x40 : w4.cell? ⟨w.heap.size, 0, none⟩ = some (.int .i64 t.e) := HB4.cell 0; have x41 : w4.cell? ⟨w.heap.size, 1, none⟩ = some (.int .i64 t.s) := HB4.cell 1; have O4 := O3.out.more C4)
      | ((with_reducible refine (refCat_len _ _ 3 4 (by simp [leB_length]) (leB_length _ _) _ _ _ _ _ O4 OA4 (by omega)).mono ?_); rintro e w5 ⟨ba5, bc5, rfl, R5, hb5⟩; have C5 := below2 C4 hb5 C4.size; have HB5 := HB3.out.more C5; have x50 : w5.cell? ⟨w.heap.size, 0, none⟩ = some (.int .i64 t.e) := HB5.cell 0; have x51 : w5.cell? ⟨w.heap.size, 1, none⟩ = some (.int .i64 t.s) := HB5.cell 1; have O5 := octs_len (by simp [leB_length]) R5)
      | ((with_reducible refine (KQ.out _).mono ?_); rintro e w6 ⟨ba6, bc6, rfl, OA6, hb6⟩; have C6 := below2 C5 hb6 C5.size; have HB6 := HB3.out.more C6; have x60 : w6.cell? ⟨w.heap.size, 0, none⟩ = some (.int .i64 t.e) := HB6.cell 0; have x61 : w6.cell? ⟨w.heap.size, 1, none⟩ = some (.int .i64 t.s) := HB6.cell 1; have O6 := O5.more hb6)
      | ((with_reducible refine (refCat_len _ _ (3 + 4) 4 (by simp [leB_length]) (leB_length _ _) _ _ _ _ _ O6 OA6 (by omega)).mono ?_); rintro e w7 ⟨ba7, bc7, rfl, R7, hb7⟩; have C7 := below2 C6 hb7 C6.size; have HB7 := HB3.out.more C7; have x70 : w7.cell? ⟨w.heap.size, 0, none⟩ = some (.int .i64 t.e) := HB7.cell 0; have x71 : w7.cell? ⟨w.heap.size, 1, none⟩ = some (.int .i64 t.s) := HB7.cell 1; have O7 := octs_len (by simp [leB_length]) R7))
  have D7 := hid (below2 B3.out C7 B3.out.size)
  replace O7 := hid O7
  clear lx kx fx x0 x1 x40 x41 x50 x51 x60 x61 x70 x71 C4 C5 C6 C7 O4 O5 O6 R5 R7 hb4 hb5 hb6 hb7 OA4 OA6 HB4 HB5 HB6 O3 HB3 B3 KE KQ KK
  obtain ⟨lx, kx, fx⟩ := HB7
  go_wp2_with fail
  refine (KA.out _).mono ?_
  rintro e w8 ⟨ba8, bc8, rfl, OA8, hb8⟩
  have O8 := hid (O7.out.more hb8)
  have D8 := hid (below2 D7.out hb8 D7.out.size)
  replace OA8 := hid OA8
  clear O7 hb8 lx kx fx D7
  go_wp2_with fail
  refine (refCat_len _ _ 11 2 (by simp [leB_length]) (leB_length _ _) _ _ _ _ _ O8.out OA8.out (by omega)).mono ?_
  rintro e w9 ⟨ba9, bc9, rfl, R9, hb9⟩
  have O9 := hid (octs_len (by simp [leB_length]) R9)
  have D9 := hid (below2 D8.out hb9 D8.out.size)
  clear O8 OA8 D8 R9 hb9
  go_wp2_with fail
  refine (KL.out _).mono ?_
  rintro e w10 ⟨ba10, bc10, rfl, OA10, hb10⟩
  have O10 := hid (O9.out.more hb10)
  have D10 := hid (below2 D9.out hb10 D9.out.size)
  replace OA10 := hid OA10
  clear O9 hb10 D9
  go_wp2_with fail
  refine (refCat_len _ _ 13 1 (by simp [leB_length]) (leB_length _ _) _ _ _ _ _ O10.out OA10.out (by omega)).mono ?_
  rintro e w11 ⟨ba11, bc11, rfl, R11, hb11⟩
  have O11 := hid (octs_len (by simp [leB_length]) R11)
  have D11 := hid (below2 D10.out hb11 D10.out.size)
  have OT := hid (O0.out.more D11.out)
  clear O10 OA10 D10 R11 hb11
  go_wp2_with fail
  refine (refCat_len _ _ 14 l.length (by simp [leB_length]) rfl _ _ _ _ _ O11.out OT.out (by omega)).mono ?_
  rintro e w12 ⟨ba12, bc12, rfl, R12, hb12⟩
  have D12 := hid (below2 D11.out hb12 D11.out.size)
  have P12 := hid (own_base R12 D11.out.size)
  clear O11 OT D11 R12 hb12
  generalize hX : [67, 82] ++ leB kind.toNat 1 ++ leB t.e.toNat 4 ++ leB t.s.toNat 4 ++ leB t.a.toNat 2 ++ leB (l.length : Int).toNat 1 ++ l = X at *
  have hXl : X.length = 14 + l.length := by rw [← hX]; simp [leB_length]; omega
  replace hX := hid hX
  replace hXl := hid hXl
  go_wp2_with fail
  go_loopg [9] (238 - l.length) (fun gk v wx => ∃ (k : Nat) (va : Option Addr) (vc : Nat), k + gk = 238 - l.length ∧ v = .slice va (14 + l.length + k) vc ∧ wx.ownsRow W0.heap.size 5 1 (.slice va (14 + l.length + k) vc) (14 + l.length + k) (Lib.byteCells (X ++ List.replicate k 0)) ∧ Below W0.heap.size W0 wx)
  case atStart => exact ⟨0, ba12, bc12, by omega, rfl, by simpa using P12.out, D12.out⟩
  case round =>
    clear P12 D12
    obtain ⟨k, va, vc, hk, rfl, OW, D⟩ := hrel
    have hkI : (k : Int) ≤ 238 := by omega
    cases gk with
    | zero =>
      have e252 : 14 + l.length + k = 252 := by omega
      have ek : k = 238 - l.length := by omega
      rw [e252] at OW ⊢
      have hbd : X ++ List.replicate k 0 = bodyB kind t l := by rw [ek]; exact hsB.out
      rw [hbd] at OW
      have OB := hid (octs_len bl.out OW)
      have KS := fun wx (O : Octs wx va (bodyB kind t l)) => refSum_any (bodyB kind t l) va vc wx O (by rw [bl.out]; omega)
      rw [← crcN_int, bl.out] at KS
      have cl0 : 0 ≤ (crcN (bodyB kind t l) : Int) ∧ (crcN (bodyB kind t l) : Int) ≤ 4294967295 := by have := cl.out; omega
      have KN := hid (fun w => refNum_fit (crcN (bodyB kind t l)) 4 4 rfl cl0.1 (by omega) (by omega) w)
      have hEE := hid E.out
      replace KS := hid KS
      replace D := hid D
      clear OW hbd hsB
      have hsl : Hid (∀ (v : Value) (w1 w' : World), Fresh w1 w' v (bodyB kind t l ++ leB (crcN (bodyB kind t l)) 4) → Fresh w1 w' v (sealB kind t l)) := hid (fun v w1 w' h => h)
      generalize sealB kind t l = SB at *
      generalize bodyB kind t l = body at *
      go_wp2_with fail
      refine (KS.out _ OB.out).mono ?_
      rintro e w13 ⟨rfl, hw13⟩
      rw [hw13]
      clear hw13 w13
      go_wp2_with fail
      refine (KN.out _).mono ?_
      rintro e w14 ⟨ba14, bc14, rfl, OA14, hb14⟩
      have O14 := hid (OB.out.more hb14)
      have D14 := hid (hb0.out.trans ((below2 D.out hb14 D.out.size).mono (by have h := hb0.out.size; omega)))
      replace OA14 := hid OA14
      clear hb14
      have KC := hid (refCat_any body (leB (crcN body) 4) va ba14 vc bc14 w14 O14.out OA14.out (by rw [bl.out, leB_length]; omega))
      rw [bl.out, leB_length] at KC
      go_wp2_with fail
      refine KC.out.mono ?_
      rintro e w15 ⟨v, rfl, F⟩
      have E2 := hid (hEE.out v w14 w15 D14.out (hsl.out _ _ _ F))
      clear F
      go_wp2_with fail
      go_ret2
      exact E2.out
    | succ gk =>
      have hlt : ((14 + l.length + k : Nat) : Int) < 252 := by omega
      have hXk : (X ++ List.replicate k 0).length = 14 + l.length + k := by rw [List.length_append, List.length_replicate, hXl.out]
      have hXk1 : (X ++ List.replicate k 0 ++ [0]).length = 14 + l.length + (k + 1) := by rw [List.length_append, hXk]; rfl
      have ps := push_octet W0.heap.size 22 wr (.slice va (14 + l.length + k) vc) (X ++ List.replicate k 0) (by rw [hXk]; exact OW) 0 (by rw [hXk]; omega) D.size
      obtain ⟨v', w', hr, R', S', _⟩ := ps
      rw [hXk1] at R'
      obtain ⟨va', vc', rfl⟩ := own_form R'
      have D' := hid (D.trans (S'.below (B := W0.heap.size) D.size fun j hj => (OW.lt j hj).1))
      have R2 := hid (show w'.ownsRow W0.heap.size 5 1 (.slice va' (14 + l.length + (k + 1)) vc') (14 + l.length + (k + 1)) (Lib.byteCells (X ++ List.replicate (k + 1) 0)) by
        rw [List.replicate_succ', ← List.append_assoc]; exact R')
      rw [show (((0 : UInt8).toNat : Nat) : Int) = 0 from rfl] at hr
      clear R' S' OW hXk hXk1
      replace D := hid D
      go_wp2_with (at_builtin; refine Lib.wpList_append_run _ rfl _ _ _ _ rfl _ _ rfl rfl _ _ hr ?_)
      go_roundg gk
      case rel => exact ⟨k + 1, va', vc', by omega, rfl, R2.out, D'.out⟩
      case measure => omega
theorem sector_any (kind : Int) (t : Stp) (l : List UInt8) (a : Option Addr) (cap : Nat) (hl : l.length ≤ 9223372036854775807) (w : World) (O : Octs w a l) :
    Calls Try.prog 49 #[.int .i64 kind, sval t, .slice a l.length cap] w (SealPost kind t l w) := by
  by_cases h : stFits kind t ∧ l.length ≤ 238
  · exact sector_ok kind t l a cap h.1 h.2 w O
  · exact sector_bad kind t l a cap hl h w
end Go.Proofs.Ytgnnikjpnmalmaa
