/-
  Joined: MarkSeal, MarkHead, MarkMay, MarkPieces, MarkBody, MarkLists.
-/
import Derived.Test.YtdagddahpccnkaaMarkMath
import Derived.Test.YtdagddahpccnkaaFrameSeal
import Derived.Test.YtdagddahpccnkaaLittleChain
import Derived.Test.YtdagddahpccnkaaRefPoint
import Derived.Deep.MidRow
import Derived.RangeFuncNested
import Derived.RangeFuncBox
import Derived.RangeFuncBound
import Derived.RangeFuncCalls
import Derived.RangeFuncLeaves
import Derived.Shelf.Abstract
import Derived.WalkKit
import Derived.OwnWalkIn
import Derived.TacticsInMore
import Derived.LoopNIn
import Derived.LoopIn
import Derived.BigRegion
import Derived.RegionTactic

/-
  Package mark: seal: a sector of what was written.
-/




namespace Go.Proofs.Ytdagddahpccnkaa
open Go.RowKit
set_option linter.unusedVariables false
set_option linter.unusedSimpArgs false

set_option maxRecDepth 100000 in
set_option maxHeartbeats 1000000 in
theorem mseal_ok (kind : Int) (t : Stp) (hf : stFits kind t) (room : Int) (l : List UInt8) (hl : l.length ≤ 238) (w0 w : World) (p : Nat) (h : WS w0 p room w l) :
    Calls Try.prog 17 #[at' p, .int .i64 kind, sval t] w fun e w' => ∃ v, e = .returned (.tuple #[v, .int .i64 0]) ∧ Fresh w w' v (sealB kind t l) := by
  have hb := (Below.refl w.heap.size w).alloc (Nat.le_refl _) (.cells (scells t) 54)
  have BX := Blk.new w (scells t) 54
  have KD := hid (ws_done (h.more hb) (by omega))
  have KS := hid (fun a cap wx O => seal_ok kind t l a cap hf hl wx O)
  have eC : Hid (sealC kind t l.length = 0) := hid (by unfold sealC; rw [if_pos hf, if_pos hl])
  have eL : Hid (sealL kind t l = sealB kind t l) := hid (by unfold sealL; rw [if_pos ⟨hf, hl⟩])
  generalize hZ : sealB kind t l = Z at *
  have hbh := hid hb
  have BXh := hid BX
  clear hZ h hb BX hf
  obtain ⟨te, ts, ta⟩ := t
  dsimp only [sval, scells] at *
  go_enter Try.func17, Try.ntmps17
  go_wp2_with fail
  refine KD.out.mono ?_
  rintro e w1 ⟨v, rfl, ⟨xa, xc, rfl, OX, hb1⟩, _⟩
  have O1 := hid (Octs.of_own OX)
  have D1 := hid (below2 hbh.out hb1 hbh.out.size)
  obtain ⟨lx, kx, fx⟩ := BXh.out.more hb1
  clear OX hb1 KD
  go_wp2_with fail
  refine (KS.out _ _ _ O1.out).mono ?_
  rintro e w2 ⟨v2, rfl, F2⟩
  rw [eC.out]
  rw [eL.out] at F2
  obtain ⟨ya, yc, rfl, OY, hb2⟩ := F2
  have F : Hid (Fresh w w2 (.slice ya Z.length yc) Z) := hid ⟨ya, yc, rfl, own_base OY D1.out.size, below2 D1.out hb2 D1.out.size⟩
  clear OY hb2 KS lx kx fx
  go_wp2_with fail
  go_ret2
  exact ⟨_, rfl, F.out⟩
end Go.Proofs.Ytdagddahpccnkaa

/-
  Package mark: Head: the sector of a mark's head.
-/


namespace Go.Proofs.Ytdagddahpccnkaa
open Go.RowKit
set_option linter.unusedVariables false
set_option linter.unusedSimpArgs false

theorem mindex_any (t : TypeId) (m : Nat) (h : Try.prog.underlying t = some (.array m 3)) {c : Array Value} {k : IntKind} {F : Nat → Int} (hc : ∀ j, j < m → c[j]? = some (.int k (F j))) (i : Nat) (hi : i < m) (w : World) :
    (Instr.index t (.agg c) (.int .i64 (i : Int))).run Try.prog w = .ok (.int k (F i)) w := by
  have hi' : (0 : Int) ≤ (i : Int) ∧ (i : Int) < (m : Int) := by omega
  have e1 : ∀ w, (isAgg 3).run Try.prog w = .ok false w := fun w => by kernel_rfl
  have e2 : ∀ w, (sizeOf 3).run Try.prog w = .ok 1 w := fun w => by kernel_rfl
  simp [Instr.index, asIntOf, run_underlying h, hi', hi, part, e1, e2, hc i hi]
theorem mtab : (Try.prog.info? 27).map (·.size) = some 292 := by kernel_rfl
theorem mtab32 : (Try.prog.info? 24).map (·.size) = some 32 := by kernel_rfl

/-- A head's octets. -/
def agesO (F : Nat → Int) (k : Nat) : List UInt8 := ((agesL F).take k).flatMap fun z => leB z.toNat 4
def headP (F : Nat → Int) : List UInt8 := [] ++ leB (F 1).toNat 1 ++ leB (F 2).toNat 1 ++ leB (F 3).toNat 1
def headT (F : Nat → Int) : List UInt8 := headP F ++ agesO F 32
def headO (F : Nat → Int) : List UInt8 := sealB 2 ⟨F 0, 0, 3⟩ (headT F)
def headL (F : Nat → Int) : List UInt8 := if mOk F then headO F else []
theorem agesO_len (F : Nat → Int) : ∀ k, k ≤ 32 → (agesO F k).length = 4 * k := by
  have gen : ∀ l : List Int, (l.flatMap fun z => leB z.toNat 4).length = 4 * l.length := by
    intro l
    induction l with
    | nil => rfl
    | cons z l ih => simp only [List.flatMap_cons, List.length_append, leB_length, List.length_cons, ih]; omega
  intro k hk
  unfold agesO
  rw [gen, List.length_take, agesL_len]
  omega
theorem agesO_succ (F : Nat → Int) (k : Nat) (hk : k < 32) : agesO F (k + 1) = agesO F k ++ leB (F (4 + k)).toNat 4 := by
  unfold agesO
  have hl : k < (agesL F).length := by rw [agesL_len]; exact hk
  rw [List.take_add_one, List.getElem?_eq_getElem hl, ← atR_eq (T := miT) (agesL F) k hl, show atR miT (agesL F) k = miAt (agesL F) k from rfl, agesL_at F k hk]
  simp
theorem headP_len (F : Nat → Int) : (headP F).length = 3 := by simp [headP, leB_length]
/-- What a mark that may be has. -/
theorem mOk_parts {F : Nat → Int} (h : mOk F = true) : (1 ≤ F 0 ∧ F 0 ≤ 4294967295) ∧ F 1 ≠ F 3 ∧ (0 ≤ F 1 ∧ F 1 ≤ 31) ∧ (0 ≤ F 3 ∧ F 3 ≤ 31) ∧ (0 ≤ F 2 ∧ F 2 ≤ 32) ∧ (∀ i, i < 32 → 0 ≤ F (4 + i) ∧ F (4 + i) ≤ 4294967295) ∧ (∀ i, i < 256 → 0 ≤ F (36 + i) ∧ F (36 + i) ≤ 65535) ∧ F 36 = 0 := by
  unfold mOk at h
  simp only [Bool.and_eq_true, decide_eq_true_eq, Bool.not_eq_true', beq_eq_false_iff_ne, ne_eq, beq_iff_eq, List.all_cons, List.all_nil, Bool.and_true, inB_iff] at h
  obtain ⟨a1, a2, a3, ⟨a4, a5⟩, a6, a7, a8, a9⟩ := h
  refine ⟨⟨a1, a2⟩, a3, a4, a5, a6, fun i hi => ?_, fun i hi => ?_, a9⟩
  · have := List.all_eq_true.1 a7 (F (4 + i)) (by unfold agesL; exact List.mem_map.2 ⟨i, List.mem_range.2 hi, rfl⟩)
    exact (inB_iff _ _).1 this
  · have := List.all_eq_true.1 a8 (F (36 + i)) (by unfold mapL; exact List.mem_map.2 ⟨i, List.mem_range.2 hi, rfl⟩)
    exact (inB_iff _ _).1 this
theorem head_fits {F : Nat → Int} (h : mOk F = true) (a : Int) (h0 : 0 ≤ a) (h1 : a ≤ 65535) (kind : Int) (k0 : 0 ≤ kind) (k1 : kind ≤ 255) : stFits kind ⟨F 0, 0, a⟩ := by
  obtain ⟨⟨b0, b1⟩, _⟩ := mOk_parts h
  exact ⟨k0, k1, by show 0 ≤ F 0; omega, b1, by show (0 : Int) ≤ 0; omega, by show (0 : Int) ≤ _; omega, h0, h1⟩

set_option maxRecDepth 100000 in
theorem mstamp_any (x : Int) (w : World) : Calls Try.prog 18 #[.int .i64 x] w fun e w' => e = .returned (sval ⟨x, 0, 3⟩) ∧ Below w.heap.size w w' := by
  have B := Blk.new w #[.int .i64 x, .int .i64 0, .int .i64 3] 54
  have hb := hid ((Below.refl w.heap.size w).alloc (Nat.le_refl _) (.cells #[.int .i64 x, .int .i64 0, .int .i64 3] 54))
  obtain ⟨l3, k3, f3⟩ := B
  go_enter Try.func18, Try.ntmps18
  go_wp2_with fail
  refine bodyPost_ret (v := sval ⟨x, 0, 3⟩) (by simp [results, Try.results18, go_sem, k3]) rfl ⟨rfl, hb.out⟩

theorem ages_range {w : World} {g : Nat} {c : Array Value} {F : Nat → Int} (B : Blk w g c) (N : Nums c .i64 292 F) : w.rangeAt g 4 ((List.range 32).map fun i => Value.int .i64 (F (4 + i))) := fun j v hv => by
  have hj : j < 32 := by
    have := (List.getElem?_eq_some_iff.1 hv).1
    simpa using this
  rw [B.cell, N.get (4 + j) (by omega)]
  rw [← hv]
  simp [hj]

set_option maxRecDepth 100000 in
set_option maxHeartbeats 8000000 in
theorem mhead_any (c : Array Value) (F : Nat → Int) (N : Nums c .i64 292 F) (w : World) :
    Calls Try.prog 8 #[.agg c] w fun e w' => ∃ v, e = .returned (.tuple #[v, .int .i64 (mCk F)]) ∧ Fresh w w' v (headL F) := by
  have BX := Blk.new w c 27
  have hb := (Below.refl w.heap.size w).alloc (Nat.le_refl _) (.cells c 27)
  have KC := hid (fun w => mcheck_any c F N w)
  have BXh := hid BX
  have hbh := hid hb
  have hr := hid BX.range
  have hsz : c.size = 292 := N.size
  have Nh := hid N
  have n0 := N.get 0 (by omega)
  have n1 := N.get 1 (by omega)
  have n2 := N.get 2 (by omega)
  have n3 := N.get 3 (by omega)
  have hall : c.toList.length = 292 := by simpa using hsz
  replace hsz := hid hsz
  replace hall := hid hall
  clear N BX hb
  go_enter Try.func8, Try.ntmps8
  go_wp2_with (refine wpList_load_mid rfl 27 _ rfl w.heap.size 0 rfl c.toList _ hr.out Try.underlying27 rfl (by rw [mtab, hall.out]) ?_)
  refine (KC.out _).mono ?_
  rintro e w1 ⟨rfl, hb1⟩
  have HB1 := hid (BXh.out.more hb1)
  have D1 := hid (below2 hbh.out hb1 hbh.out.size)
  clear hb1 KC BXh hr
  obtain ⟨lx, kx, fx⟩ := HB1.out
  cases hM : mOk F
  · have hC : mCk F = 4 := by unfold mCk; rw [hM]; rfl
    rw [hC]
    have hCh := hid hC
    have hMh : Hid (headL F = []) := hid (by unfold headL; rw [hM]; rfl)
    clear hC hM
    go_wp2_with fail
    go_ret2
    exact ⟨.slice none 0 0, by rw [hCh.out]; rfl, by rw [hMh.out]; exact ⟨none, 0, rfl, World.ownsRow_nil _ _ _ _, D1.out⟩⟩
  · have hC : mCk F = 0 := by unfold mCk; rw [hM]; rfl
    rw [hC]
    obtain ⟨⟨a0, a1⟩, a2, ⟨b0, b1⟩, ⟨c0, c1⟩, ⟨d0, d1⟩, hAges, _, _⟩ := mOk_parts hM
    have hfit := hid (head_fits hM 3 (by omega) (by omega) 2 (by omega) (by omega))
    have hag := hid hAges
    have hP : Hid ([] ++ leB (F 1).toNat 1 ++ leB (F 2).toNat 1 ++ leB (F 3).toNat 1 = headP F) := hid rfl
    have hPl := hid (headP_len F)
    have hAl := hid (fun k hk => agesO_len F k hk)
    have hAs := hid (fun k hk => agesO_succ F k hk)
    have hA0 : Hid (agesO F 0 = []) := hid rfl
    have hT : Hid (headP F ++ agesO F 32 = headT F) := hid rfl
    have hO : Hid (sealB 2 ⟨F 0, 0, 3⟩ (headT F) = headO F) := hid rfl
    have hTl := hid (show (headT F).length = 131 by unfold headT; rw [List.length_append, headP_len, agesO_len F 32 (by omega)])
    have KN := hid (fun w => ws_new 131 131 rfl w)
    obtain ⟨cs, hcs⟩ : ∃ cs : List Value, (List.range 32).map (fun i => Value.int .i64 (F (4 + i))) = cs := ⟨_, rfl⟩
    have hcl := hid (show cs.length = 32 by rw [← hcs]; simp)
    have KI := hid (fun i (hi : i < 32) w => mindex_any 24 32 Try.underlying24 (c := cs.toArray) (k := .i64) (F := fun i => F (4 + i)) (fun j hj => by rw [← hcs]; simp [hj]) i hi w)
    replace hcs := hid hcs
    have KS := hid (fun w => mstamp_any (F 0) w)
    have HB := hid (fun (wx : World) (m : List UInt8) (S : WS w1 w1.heap.size 131 wx m) => HB1.out.below S.below HB1.out.lt)
    have HW := hid (fun (wx : World) (m : List UInt8) (S : WS w1 w1.heap.size 131 wx m) => D1.out.trans (S.below.mono D1.out.size))
    have hCh := hid hC
    have hMh : Hid (headL F = headO F) := hid (by unfold headL; rw [hM]; rfl)
    clear hC hM a2 hAges
    generalize headO F = HO at *
    generalize headT F = HT at *
    generalize headP F = HP at *
    generalize hf0 : F 0 = f0 at *
    generalize F 1 = f1 at *
    generalize F 2 = f2 at *
    generalize F 3 = f3 at *
    clear hf0
    go_wp2_with fail
    refine (KN.out _).mono ?_
    rintro e w2 ⟨rfl, S2⟩
    clear lx kx fx KN
    obtain ⟨lx, kx, fx⟩ := HB.out _ _ S2
    have K := hid (ws_num S2 (by omega) (by omega) f1 1 1 rfl b0 (by omega) (by simp))
    clear S2
    go_wp2_with fail
    refine K.out.mono ?_
    rintro e w3 ⟨rfl, S3⟩
    clear lx kx fx K
    obtain ⟨lx, kx, fx⟩ := HB.out _ _ S3
    have K := hid (ws_num S3 (by omega) (by omega) f2 1 1 rfl d0 (by omega) (by simp [leB_length]))
    clear S3
    go_wp2_with fail
    refine K.out.mono ?_
    rintro e w4 ⟨rfl, S4⟩
    clear lx kx fx K
    obtain ⟨lx, kx, fx⟩ := HB.out _ _ S4
    have K := hid (ws_num S4 (by omega) (by omega) f3 1 1 rfl c0 (by omega) (by simp [leB_length]))
    clear S4
    go_wp2_with fail
    refine K.out.mono ?_
    rintro e w5 ⟨rfl, S5⟩
    rw [hP.out] at S5
    clear lx kx fx K
    have HB5 := HB.out _ _ S5
    have hr5 := hid (hcs.out ▸ ages_range HB5 Nh.out)
    obtain ⟨lx, kx, fx⟩ := HB5
    replace S5 := hid S5
    go_wp2_with (refine wpList_load_mid rfl 24 _ rfl w.heap.size 4 rfl cs _ hr5.out Try.underlying24 rfl (by rw [mtab32, hcl.out]) ?_)
    clear lx kx fx hr5
    go_loopw [31, 7] (fun i z7 wx => ∃ k : Nat, k ≤ 32 ∧ i = .int .i64 (k : Int) ∧ WS w1 w1.heap.size 131 wx (HP ++ agesO F k)) (fun i _ _ => 32 - (intOf i).toNat)
    case atStart => exact ⟨0, by omega, rfl, by rw [hA0.out, List.append_nil]; exact S5.out⟩
    case round =>
      clear S5
      obtain ⟨k, hk, rfl, S⟩ := hrel
      have hl : (HP ++ agesO F k).length = 3 + 4 * k := by rw [List.length_append, hPl.out, hAl.out k hk]
      by_cases hlt : k < 32
      · have hlt' : decide ((k : Int) < 32) = true := decide_eq_true (by omega)
        have hz := hag.out k hlt
        have ki := KI.out k hlt wr
        have hst := hid (hAs.out k hlt)
        have K := hid (ws_num S (by omega) (by omega) (F (4 + k)) 4 4 rfl hz.1 (by omega) (by rw [hl]; omega))
        clear S hl hz
        go_wp2_with fail
        refine K.out.mono ?_
        rintro e w9 ⟨rfl, S9⟩
        rw [List.append_assoc, ← hst.out] at S9
        replace S9 := hid S9
        clear K ki
        go_wp2_with fail
        go_roundw
        case rel => exact ⟨k + 1, by omega, by go_num, S9.out⟩
        case measure => simp [intOf]; omega
      · obtain rfl : k = 32 := by omega
        rw [hT.out] at S
        have hW := hid (HW.out _ _ S)
        obtain ⟨lx, kx, fx⟩ := HB.out _ _ S
        have S' := hid S
        clear S hl
        go_wp2_with fail
        refine (KS.out _).mono ?_
        rintro e w8 ⟨rfl, hb8⟩
        have KZ := hid (mseal_ok 2 ⟨f0, 0, 3⟩ hfit.out 131 HT (by have := hTl.out; omega) _ _ _ (S'.out.more hb8))
        have D8 := hid (below2 hW.out hb8 hW.out.size)
        rw [hO.out] at KZ
        clear hb8 KS S' lx kx fx
        go_wp2_with fail
        refine KZ.out.mono ?_
        rintro e w9 ⟨v, rfl, xa, xc, hv, OX, hb9⟩
        have Fr : Hid (Fresh w w9 v HO) := hid ⟨xa, xc, hv, own_base OX D8.out.size, below2 D8.out hb9 D8.out.size⟩
        clear OX hb9 KZ hv
        go_wp2_with fail
        go_ret2
        exact ⟨v, by rw [hCh.out]; rfl, by rw [hMh.out]; exact Fr.out⟩
end Go.Proofs.Ytdagddahpccnkaa

/-
  Layer 13: the document's own question, which marks may be.
-/

namespace Go.Proofs.Ytdagddahpccnkaa
open Go.RowKit
set_option linter.unusedVariables false
set_option linter.unusedSimpArgs false

theorem mOk_of {F : Nat → Int} (h0 : 1 ≤ F 0 ∧ F 0 ≤ 4294967295) (h1 : F 1 ≠ F 3) (h2 : 0 ≤ F 1 ∧ F 1 ≤ 31) (h3 : 0 ≤ F 3 ∧ F 3 ≤ 31) (h4 : 0 ≤ F 2 ∧ F 2 ≤ 32) (h5 : ∀ i, i < 32 → 0 ≤ F (4 + i) ∧ F (4 + i) ≤ 4294967295) (h6 : ∀ i, i < 256 → 0 ≤ F (36 + i) ∧ F (36 + i) ≤ 65535) (h7 : F 36 = 0) : mOk F = true := by
  unfold mOk
  simp only [Bool.and_eq_true, decide_eq_true_eq, Bool.not_eq_true', beq_eq_false_iff_ne, ne_eq, beq_iff_eq, List.all_cons, List.all_nil, Bool.and_true, inB_iff]
  refine ⟨h0.1, h0.2, h1, ⟨h2, h3⟩, h4, List.all_eq_true.2 fun z hz => ?_, List.all_eq_true.2 fun z hz => ?_, h7⟩
  · obtain ⟨i, hi, rfl⟩ := List.mem_map.1 hz
    exact (inB_iff _ _).2 (h5 i (List.mem_range.1 hi))
  · obtain ⟨i, hi, rfl⟩ := List.mem_map.1 hz
    exact (inB_iff _ _).2 (h6 i (List.mem_range.1 hi))
theorem mOk_bad {F : Nat → Int} (h : ¬ mOk F = true) : mOk F = false := by
  cases hm : mOk F
  · rfl
  · exact absurd hm h

set_option maxRecDepth 100000 in
set_option maxHeartbeats 16000000 in
theorem mmay_any (c : Array Value) (F : Nat → Int) (N : Nums c .i64 292 F) (w : World) :
    Calls Try.prog 9 #[.agg c] w fun e w' => e = .returned (.bool (mOk F)) ∧ Below w.heap.size w w' := by
  have BX := Blk.new w c 27
  have hb := (Below.refl w.heap.size w).alloc (Nat.le_refl _) (.cells c 27)
  have hb1 := (Below.refl _ (w.alloc (.cells c 27))).alloc (Nat.le_refl _) (.cells #[.int .i64 (F 1), .int .i64 (F 2), .int .i64 (F 3)] 23)
  have BX1 := BX.more hb1
  have hbb := hid (below2 hb hb1 hb.size)
  have n0 := N.get 0 (by omega)
  have n1 := N.get 1 (by omega)
  have n2 := N.get 2 (by omega)
  have n3 := N.get 3 (by omega)
  have n36 := N.get 36 (by omega)
  have hBX1 := hid BX1
  have BXh := hid BX
  have BP := hid (Blk.new (w.alloc (.cells c 27)) #[.int .i64 (F 1), .int .i64 (F 2), .int .i64 (F 3)] 23)
  have Nh := hid N
  have hok := hid (fun a b c d e f g h => mOk_of (F := F) a b c d e f g h)
  have hparts := hid (fun h => mOk_parts (F := F) h)
  obtain ⟨M, hM⟩ : ∃ M, mOk F = M := ⟨_, rfl⟩
  have hMh := hid hM
  rw [hM]
  clear N hb hb1 BX BX1 hM
  obtain ⟨f0, e0⟩ : ∃ f, F 0 = f := ⟨_, rfl⟩
  obtain ⟨f1, e1⟩ : ∃ f, F 1 = f := ⟨_, rfl⟩
  obtain ⟨f2, e2⟩ : ∃ f, F 2 = f := ⟨_, rfl⟩
  obtain ⟨f3, e3⟩ : ∃ f, F 3 = f := ⟨_, rfl⟩
  obtain ⟨f36, e36⟩ : ∃ f, F 36 = f := ⟨_, rfl⟩
  rw [e0] at n0
  rw [e1] at n1
  rw [e2] at n2
  rw [e3] at n3
  rw [e36] at n36
  rw [e1, e2, e3] at BP hBX1 hbb
  have hbad : Hid ((f0 < 1 ∨ 4294967296 ≤ f0 ∨ f1 < 0 ∨ 31 < f1 ∨ f3 < 0 ∨ 31 < f3 ∨ f2 < 0 ∨ 32 < f2 ∨ f1 = f3 ∨ f36 ≠ 0) → M = false) := hid (fun hx => by
    rw [← hMh.out]
    refine mOk_bad fun h => ?_
    obtain ⟨⟨a0, a1⟩, a2, ⟨b0, b1⟩, ⟨c0, c1⟩, ⟨d0, d1⟩, _, _, g⟩ := hparts.out h
    rw [e0] at a0 a1
    rw [e1] at b0 b1 a2
    rw [e3] at c0 c1 a2
    rw [e2] at d0 d1
    rw [e36] at g
    omega)
  replace e0 := hid e0
  replace e1 := hid e1
  replace e2 := hid e2
  replace e3 := hid e3
  replace e36 := hid e36
  go_enter Try.func9, Try.ntmps9
  go_upto_region 1 with (fail)
  generalize w.alloc _ = W0 at *
  obtain ⟨lx, kx, fx⟩ := BXh.out
  go_upto_region 2 with (fail)
  generalize W0.alloc _ = W1 at *
  clear lx kx fx BXh
  obtain ⟨lx, kx, fx⟩ := hBX1.out
  obtain ⟨ly, ky, fy⟩ := BP.out
  by_cases q0 : f0 < 1
  · have q0' : decide (f0 < 1) = true := decide_eq_true q0
    have hz := hid (hbad.out (by omega))
    clear q0
    go_wp2_with fail
    go_ret
    exact ⟨by rw [hz.out]; rfl, hbb.out⟩
  have q0' : decide (f0 < 1) = false := decide_eq_false q0
  by_cases q1 : 4294967296 ≤ f0
  · have q1' : decide (4294967296 ≤ f0) = true := decide_eq_true q1
    have hz := hid (hbad.out (by omega))
    clear q1
    go_wp2_with fail
    go_ret
    exact ⟨by rw [hz.out]; rfl, hbb.out⟩
  have q1' : decide (4294967296 ≤ f0) = false := decide_eq_false q1
  by_cases q2 : f1 < 0
  · have q2' : decide (f1 < 0) = true := decide_eq_true q2
    have hz := hid (hbad.out (by omega))
    clear q2
    go_wp2_with fail
    go_ret
    exact ⟨by rw [hz.out]; rfl, hbb.out⟩
  have q2' : decide (f1 < 0) = false := decide_eq_false q2
  by_cases q3 : 31 < f1
  · have q3' : decide (31 < f1) = true := decide_eq_true q3
    have hz := hid (hbad.out (by omega))
    clear q3
    go_wp2_with fail
    go_ret
    exact ⟨by rw [hz.out]; rfl, hbb.out⟩
  have q3' : decide (31 < f1) = false := decide_eq_false q3
  by_cases q4 : f3 < 0
  · have q4' : decide (f3 < 0) = true := decide_eq_true q4
    have hz := hid (hbad.out (by omega))
    clear q4
    go_wp2_with fail
    go_ret
    exact ⟨by rw [hz.out]; rfl, hbb.out⟩
  have q4' : decide (f3 < 0) = false := decide_eq_false q4
  by_cases q5 : 31 < f3
  · have q5' : decide (31 < f3) = true := decide_eq_true q5
    have hz := hid (hbad.out (by omega))
    clear q5
    go_wp2_with fail
    go_ret
    exact ⟨by rw [hz.out]; rfl, hbb.out⟩
  have q5' : decide (31 < f3) = false := decide_eq_false q5
  by_cases q6 : f2 < 0
  · have q6' : decide (f2 < 0) = true := decide_eq_true q6
    have hz := hid (hbad.out (by omega))
    clear q6
    go_wp2_with fail
    go_ret
    exact ⟨by rw [hz.out]; rfl, hbb.out⟩
  have q6' : decide (f2 < 0) = false := decide_eq_false q6
  by_cases q7 : 32 < f2
  · have q7' : decide (32 < f2) = true := decide_eq_true q7
    have hz := hid (hbad.out (by omega))
    clear q7
    go_wp2_with fail
    go_ret
    exact ⟨by rw [hz.out]; rfl, hbb.out⟩
  have q7' : decide (32 < f2) = false := decide_eq_false q7
  by_cases q8 : f1 = f3
  · have q8' : (f1 == f3) = true := by simpa using q8
    have hz := hid (hbad.out (by omega))
    clear q8
    go_wp2_with fail
    go_ret
    exact ⟨by rw [hz.out]; rfl, hbb.out⟩
  have q8' : (f1 == f3) = false := by simpa using q8
  by_cases q9 : f36 ≠ 0
  · have q9' : (f36 != 0) = true := by simpa using q9
    have hz := hid (hbad.out (by omega))
    clear q9
    go_wp2_with fail
    go_ret
    exact ⟨by rw [hz.out]; rfl, hbb.out⟩
  replace q9 : f36 = 0 := by omega
  have q9' : (f36 != 0) = false := by simpa using q9
  have hfirst : Hid ((1 ≤ f0 ∧ f0 ≤ 4294967295) ∧ f1 ≠ f3 ∧ (0 ≤ f1 ∧ f1 ≤ 31) ∧ (0 ≤ f3 ∧ f3 ≤ 31) ∧ (0 ≤ f2 ∧ f2 ≤ 32) ∧ f36 = 0) := hid ⟨by omega, q8, by omega, by omega, by omega, q9⟩
  clear q0 q1 q2 q3 q4 q5 q6 q7 q8 q9
  go_wp2_with fail
  clear q0' q1' q2' q3' q4' q5' q6' q7' q8' q9'
  go_loopw [4] (fun i wx => wx = W1 ∧ ∃ k : Nat, k ≤ 32 ∧ i = .int .i64 (k : Int) ∧ ∀ j, j < k → 0 ≤ F (4 + j) ∧ F (4 + j) ≤ 4294967295) (fun i _ => 32 - (intOf i).toNat)
  case atStart => exact ⟨rfl, 0, by omega, rfl, fun j hj => absurd hj (Nat.not_lt_zero _)⟩
  case round =>
    obtain ⟨rfl, k, hk, rfl, hA⟩ := hrel
    have hAh := hid hA
    clear hA
    by_cases hlt : k < 32
    · have nz := Nh.out.get (4 + k) (by omega)
      have hx := hid (fun h => (hparts.out h).2.2.2.2.2.1 k hlt)
      have hx2 : Hid (∀ z, F (4 + k) = z → (z < 0 ∨ 4294967296 ≤ z) → M = false) := hid (fun z hz hbad2 => by
        rw [← hMh.out]
        exact mOk_bad fun h => by have := hx.out h; rw [hz] at this; omega)
      obtain ⟨z, hz⟩ : ∃ z, F (4 + k) = z := ⟨_, rfl⟩
      rw [hz] at nz
      replace hz := hid hz
      have kc := (kx (4 + k)).trans nz
      have hlt' : decide ((k : Int) < 32) = true := decide_eq_true (by omega)
      by_cases p0 : z < 0
      · have p0' : decide (z < 0) = true := decide_eq_true p0
        have hy := hid (hx2.out z hz.out (.inl p0))
        clear p0 hx2 hx
        go_wp2_with fail
        go_ret
        exact ⟨by rw [hy.out]; rfl, hbb.out⟩
      · have p0' : decide (z < 0) = false := decide_eq_false p0
        by_cases p1 : 4294967296 ≤ z
        · have p1' : decide (4294967296 ≤ z) = true := decide_eq_true p1
          have hy := hid (hx2.out z hz.out (.inr p1))
          clear p0 p1 hx2 hx
          go_wp2_with fail
          go_ret
          exact ⟨by rw [hy.out]; rfl, hbb.out⟩
        · have p1' : decide (4294967296 ≤ z) = false := decide_eq_false p1
          have hn : Hid (∀ j, j < k + 1 → 0 ≤ F (4 + j) ∧ F (4 + j) ≤ 4294967295) := hid (fun j hj => by
            by_cases e : j = k
            · subst e; rw [hz.out]; omega
            · exact hAh.out j (by omega))
          clear p0 p1 hx2 hx
          go_wp2_with fail
          go_roundw
          case rel => exact ⟨by first | trivial | rfl, k + 1, by omega, by go_num, hn.out⟩
          case measure => simp [intOf]; omega
    · obtain rfl : k = 32 := by omega
      go_wp2_with fail
      go_loopw [5] (fun i wx => wx = wr ∧ ∃ k : Nat, k ≤ 256 ∧ i = .int .i64 (k : Int) ∧ ∀ j, j < k → 0 ≤ F (36 + j) ∧ F (36 + j) ≤ 65535) (fun i _ => 256 - (intOf i).toNat)
      case atStart => exact ⟨rfl, 0, by omega, rfl, fun j hj => absurd hj (Nat.not_lt_zero _)⟩
      case round =>
        obtain ⟨rfl, k, hk2, rfl, hB⟩ := hrel
        have hBh := hid hB
        clear hB
        by_cases hlt2 : k < 256
        · have nz := Nh.out.get (36 + k) (by omega)
          have hx := hid (fun h => (hparts.out h).2.2.2.2.2.2.1 k hlt2)
          have hx2 : Hid (∀ z, F (36 + k) = z → (z < 0 ∨ 65535 < z) → M = false) := hid (fun z hz hbad2 => by
            rw [← hMh.out]
            exact mOk_bad fun h => by have := hx.out h; rw [hz] at this; omega)
          obtain ⟨z, hz⟩ : ∃ z, F (36 + k) = z := ⟨_, rfl⟩
          rw [hz] at nz
          replace hz := hid hz
          have kc := (kx (36 + k)).trans nz
          have hlt' : decide ((k : Int) < 256) = true := decide_eq_true (by omega)
          by_cases p0 : z < 0
          · have p0' : decide (z < 0) = true := decide_eq_true p0
            have hy := hid (hx2.out z hz.out (.inl p0))
            clear p0 hx2 hx
            go_wp2_with fail
            go_ret
            exact ⟨by rw [hy.out]; rfl, hbb.out⟩
          · have p0' : decide (z < 0) = false := decide_eq_false p0
            by_cases p1 : 65535 < z
            · have p1' : decide (65535 < z) = true := decide_eq_true p1
              have hy := hid (hx2.out z hz.out (.inr p1))
              clear p0 p1 hx2 hx
              go_wp2_with fail
              go_ret
              exact ⟨by rw [hy.out]; rfl, hbb.out⟩
            · have p1' : decide (65535 < z) = false := decide_eq_false p1
              have hn : Hid (∀ j, j < k + 1 → 0 ≤ F (36 + j) ∧ F (36 + j) ≤ 65535) := hid (fun j hj => by
                by_cases e : j = k
                · subst e; rw [hz.out]; omega
                · exact hBh.out j (by omega))
              clear p0 p1 hx2 hx
              go_wp2_with fail
              go_roundw
              case rel => exact ⟨by first | trivial | rfl, k + 1, by omega, by go_num, hn.out⟩
              case measure => simp [intOf]; omega
        · obtain rfl : k = 256 := by omega
          have hy : Hid (M = true) := hid (by
            rw [← hMh.out]
            obtain ⟨a, b, c', d, e, g⟩ := hfirst.out
            exact hok.out (by rw [e0.out]; exact a) (by rw [e1.out, e3.out]; exact b) (by rw [e1.out]; exact c') (by rw [e3.out]; exact d) (by rw [e2.out]; exact e) hAh.out hBh.out (by rw [e36.out]; exact g))
          go_wp2_with fail
          go_ret
          exact ⟨by rw [hy.out]; rfl, hbb.out⟩
end Go.Proofs.Ytdagddahpccnkaa

/-
  Package mark: pieces: a body's sectors, one by one.
-/












namespace Go.Proofs.Ytdagddahpccnkaa
open Go.RowKit Go.Shelf
set_option linter.unusedVariables false
set_option linter.unusedSimpArgs false

attribute [local go_sem] Oper.semAt_some

theorem mgrown_of {w w' : World} (h : Below w.heap.size w w') : w.grownBy w' none := ⟨h.os, h.tape, h.output, h.size, fun k hk _ => h.block k hk⟩
/-- Where a sector's Ids end. -/
def pEnd (i : Nat) : Nat := min (86 * i + 86) 256
abbrev pVal (i : Nat) : Value := .agg #[.int .i64 (86 * (i : Int)), .int .i64 (min (86 * (i : Int) + 86) 256)]

/-- The first k of three. -/
def tk (k : Nat) : List (Fin 3) := (List.finRange 3).take k
theorem tk_len (k : Nat) (h : k ≤ 3) : (tk k).length = k := by simp [tk]; omega
theorem tk_succ (k : Nat) (h : k < 3) : tk (k + 1) = tk k ++ [⟨k, h⟩] := by
  match k, h with
  | 0, _ => rfl
  | 1, _ => rfl
  | 2, _ => rfl

set_option maxRecDepth 100000 in
set_option maxHeartbeats 4000000 in
theorem pieces1_in (fr : Nat) (hn : 1 ≤ fr) (l n₀ : Nat) (J Jx : List (Fin 3) → World → Prop) (W : World) (hJ : AbidesFrom W.heap.size J)
    (hY : ∀ pre (x : Fin 3) W1, J pre W1 → pre.length < 3 → YieldAt Fence.wide (fr - 1) Try.prog l #[.int .i64 ((x.val : Nat) : Int), pVal x.val] W1 fun e W' => (e = .returned (.bool true) ∧ J (pre ++ [x]) W' ∧ Below n₀ W1 W') ∨ (e = .returned (.bool false) ∧ Jx (pre ++ [x]) W'))
    (hn0 : n₀ ≤ W.heap.size) (h0 : J [] W) :
    CallsIn Fence.wide fr Try.prog 25 #[.func (.yield l) #[] #[]] W fun e W' => (∃ v, e = .returned v) ∧
      ((∃ ys, ys = tk 3 ∧ J ys W') ∨ (∃ pre, (∃ k, k ≤ 3 ∧ pre = tk k) ∧ Jx pre W')) := by
  have hro : Fence.wide.round = none := rfl
  refine callsIn_of_wp Try.func25 rfl trivial ?_ hro
  simp only [Try.ntmps25, List.size_toArray, List.length_cons, List.length_nil, Nat.reduceAdd, Nat.reduceSub, Array.replicate_succ, Array.replicate_zero, List.push_toArray, List.append_toArray, List.nil_append, List.cons_append]
  gi_wp2
  gi_loopw [4] (fun i wr => ∃ k : Nat, k ≤ 3 ∧ i = .int .i64 k ∧ J (tk k) wr ∧ Below n₀ W wr)
    (fun i _ => 3 - (intOf i).toNat)
  case atStart => exact ⟨0, Nat.zero_le _, rfl, h0, Below.refl _ _⟩
  case round =>
    obtain ⟨k, hk, rfl, hJs, hnx⟩ := hrel
    by_cases hlt : k < 3
    · have hlt' : (k : Int) < 3 := by omega
      have e1 : IntKind.i64.wrap ((k : Int) * 86) = 86 * (k : Int) := by rw [IntWalk.i64_in _ ⟨by omega, by omega⟩]; omega
      have e2 : IntKind.i64.wrap (86 * (k : Int) + 86) = 86 * (k : Int) + 86 := IntWalk.i64_in _ ⟨by omega, by omega⟩
      have hk1 : IntKind.i64.wrap ((k : Int) + 1) = (k : Int) + 1 := IntWalk.i64_in _ ⟨by omega, by omega⟩
      obtain ⟨fn, tmps, assign, body, hy, hRd⟩ := hY _ ⟨k, hlt⟩ wr hJs (by rw [tk_len k hk]; exact hlt)
      have hRd' := hid hRd
      have hnx' := hid hnx
      clear hRd hnx hJs hY
      gi_wp2
      refine hRd'.out.mono ?_
      rintro e W3 (⟨rfl, hJ3, hk3⟩ | ⟨rfl, hJx3⟩)
      · have hb3 : Below n₀ W W3 := hnx'.out.trans hk3
        gi_wp2
        go_roundw
        case rel => exact ⟨k + 1, by omega, by simp, by rw [tk_succ k hlt]; exact hJ3, hb3⟩
        case measure => simp [intOf]; omega
      · gi_wp2
        refine bodyPost_ret (results_none rfl _ _ _) rfl ?_
        exact ⟨⟨_, rfl⟩, .inr ⟨_, ⟨k + 1, by omega, (tk_succ k hlt).symm⟩, hJx3⟩⟩
    · obtain rfl : k = 3 := by omega
      gi_wp2
      go_end0
      exact ⟨⟨_, rfl⟩, .inl ⟨_, rfl, hJs⟩⟩
theorem pieces_any (w : World) : Calls Try.prog 14 #[] w fun e w' => e = .returned (.func (.func 25) #[] #[]) ∧ w' = w := by
  go_enter Try.func14, Try.ntmps14
  go_wp2
  go_ret
  exact ⟨rfl, rfl⟩

/-- All pieces come, in order; or some, where a round has said 'no more'. -/
theorem pieces_stops (fr : Nat) (hn : 1 ≤ fr) (n₀ : Nat) (w : World) (hn0 : n₀ ≤ w.heap.size) :
    SeqStopsK Fence.wide fr Try.prog 25 #[] (fun i : Fin 3 => #[.int .i64 ((i.val : Nat) : Int), pVal i.val]) (Below n₀) (fun ys => ys = tk 3) (fun pre => ∃ k, k ≤ 3 ∧ pre = tk k) 3 w := fun l J Jx W hW hJ _ hY h0 =>
  pieces1_in fr hn l n₀ J Jx W hJ hY (Nat.le_trans hn0 hW.size) h0
end Go.Proofs.Ytdagddahpccnkaa

/-
  Package mark: Body: the sectors of a mark's body.
-/

namespace Go.Proofs.Ytdagddahpccnkaa
open Go.RowKit Go.Shelf
set_option linter.unusedVariables false
set_option linter.unusedSimpArgs false

attribute [local go_sem] Oper.semAt_some

/-- Octets as a slice: where they lie. -/
structure OcS where
  a : Option Addr
  cap : Nat
  l : List UInt8
def ocT : RowT OcS := { ty := 33, sl := 29, sz := 1, bytes := 24, zero := .slice none 0 0, cells := fun x => [.slice x.a x.l.length x.cap], dflt := ⟨none, 0, []⟩ }
theorem ocOk : ocT.Ok := ⟨Try.underlying29, by kernel_rfl, rfl, by decide, fun _ => rfl, fun x u hu => by
  simp [ocT] at hu
  rcases hu with rfl; rfl⟩
def OcS.there (w : World) (x : OcS) : Prop := Octs w x.a x.l ∧ x.l.length ≤ x.cap ∧ x.cap ≤ maxLen
theorem OcS.there.more {w w' : World} {x : OcS} (h : x.there w) (hb : Below w.heap.size w w') : x.there w' := ⟨h.1.more hb, h.2⟩

/-- A whole struct, or array, is loaded, under the wide fence. -/
theorem mload_in {fr : Nat} {P : Program} {op : Oper} {a : Act} {w : World} {K : Act → World → Prop} {Q : Exit → Act → World → Prop} (ty : TypeId) (x : Operand) (ho : op.op = .load ty x)
    (b o : Nat) (hx : a.eval x = .pointer (some ⟨b, o, none⟩)) (cs : List Value) (d : TypeDesc) (hc : w.rangeAt b o cs)
    (hu : P.underlying ty = some d) (hd : d.isRow = true) (hi : (P.info? ty).map (·.size) = some cs.length)
    (h : K (a.put op.dst (.agg cs.toArray)) w) : op.wpIn Fence.wide fr P a w K Q := by
  unfold Oper.wpIn
  refine ⟨fun _ _ => trivial, ?_⟩
  show op.uponIn Fence.wide fr P a K Q ((execOp a.eval op).run P w)
  unfold execOp
  simp only [ho, hx, Instr.loadAt, Instr.sureAddr, Sem.run_bind, Sem.run_pure, Result.andThen_ok, run_loadVar_mid w b o ty cs d hc hu hd hi]
  exact h

/-- A body's octets, sector by sector. -/
def mapO (F : Nat → Int) (i k : Nat) : List UInt8 := (((mapL F).drop (86 * i)).take k).flatMap fun z => leB z.toNat 2
def secN (i : Nat) : Nat := min (86 * i + 86) 256 - 86 * i
def bodyT (F : Nat → Int) (i : Nat) : List UInt8 := mapO F i (secN i)
def bodyS (F : Nat → Int) (i : Nat) : List UInt8 := sealB 3 ⟨F 0, 0, (i : Int)⟩ (bodyT F i)
def bodyL (F : Nat → Int) : List (List UInt8) := if mOk F then [bodyS F 0, bodyS F 1, bodyS F 2] else []
theorem mapO_len (F : Nat → Int) (i k : Nat) (h : 86 * i + k ≤ 256) : (mapO F i k).length = 2 * k := by
  have gen : ∀ l : List Int, (l.flatMap fun z => leB z.toNat 2).length = 2 * l.length := by
    intro l
    induction l with
    | nil => rfl
    | cons z l ih => simp only [List.flatMap_cons, List.length_append, leB_length, List.length_cons, ih]; omega
  unfold mapO
  rw [gen, List.length_take, List.length_drop, mapL_len]
  omega
theorem mapO_succ (F : Nat → Int) (i k : Nat) (h : 86 * i + k < 256) : mapO F i (k + 1) = mapO F i k ++ leB (F (36 + (86 * i + k))).toNat 2 := by
  unfold mapO
  have hl : k < ((mapL F).drop (86 * i)).length := by rw [List.length_drop, mapL_len]; omega
  have hl2 : 86 * i + k < (mapL F).length := by rw [mapL_len]; exact h
  rw [List.take_add_one, List.getElem?_eq_getElem hl, List.getElem_drop, ← atR_eq (T := miT) (mapL F) (86 * i + k) hl2, show atR miT (mapL F) (86 * i + k) = miAt (mapL F) (86 * i + k) from rfl, mapL_at F _ h]
  simp

/-- The rows of a body stay, whatever else is turned. -/
theorem ocrow_kept {W W' : World} {row : Option Nat} {base : Nat} {v : Value} {L : List OcS} (h : RowOwn ocT W base v L) (hg : W.grownBy W' row) (hr : ∀ r, row = some r → ∃ o : Obj, W.heap[r]? = some o ∧ o.isCells = false) : RowOwn ocT W' base v L := by
  refine ⟨h.1, h.2.imp id ?_⟩
  rintro ⟨g, cap, cur, rfl, hb, hg0, h1, h2, h3, h4⟩
  exact ⟨g, cap, cur, rfl, hb, (grownBy_keeps_cells hg hr hg0 rfl).trans hg0, h1, h2, h3, h4⟩
theorem oc_kept {W W' : World} {row : Option Nat} {x : OcS} (h : x.there W) (hg : W.grownBy W' row) (hr : ∀ r, row = some r → ∃ o : Obj, W.heap[r]? = some o ∧ o.isCells = false) : x.there W' := by
  refine ⟨?_, h.2⟩
  rcases h.1 with h0 | ⟨b, o, e, hlt, hc⟩
  · exact .inl h0
  · exact .inr ⟨b, o, e, Nat.lt_of_lt_of_le hlt hg.size, fun i hi => cell_kept (hc i hi) hg hr⟩
/-- Where octets lie: behind a block, and in no row. -/
def Ap (n₀ : Nat) (w : World) (v : Value) (x : OcS) : Prop := ∀ b o t, x.a = some ⟨b, o, t⟩ → (n₀ < b ∧ b < w.heap.size) ∧ v.ownBlock ≠ some b
/-- What a body's rounds have made. -/
def BodyI (F : Nat → Int) (n₀ : Nat) (pre : List (Fin 3)) (W : World) : Prop := ∃ v L, Boxed W n₀ 29 v ∧ RowOwn ocT W (n₀ + 1) v L ∧ L.map OcS.l = pre.map (fun i => bodyS F i.val) ∧ ∀ x ∈ L, x.there W ∧ Ap n₀ W v x
theorem bodyI_own (F : Nat → Int) (n₀ : Nat) : Own (BodyI F n₀) := by
  rintro pre W W' row ⟨v, L, h1, h2, h3, h4⟩ hg hr
  refine ⟨v, L, ?_, ocrow_kept h2 hg hr, h3, fun x hx => ⟨oc_kept (h4 x hx).1 hg hr, fun b o t e => ⟨⟨((h4 x hx).2 b o t e).1.1, Nat.lt_of_lt_of_le ((h4 x hx).2 b o t e).1.2 hg.size⟩, ((h4 x hx).2 b o t e).2⟩⟩⟩
  exact (grownBy_keeps_cells hg hr h1 rfl).trans h1
theorem oc_sole {S : Nat → Prop} {w w' : World} {x : OcS} (h : x.there w) (hs : Sole S w w') (hn : ∀ b o, x.a = some ⟨b, o, none⟩ → ¬ S b) : x.there w' := ⟨h.1.sole hs fun b o e _ => hn b o e, h.2⟩
theorem own_cells {α : Type} {T : RowT α} {w : World} {base : Nat} {v : Value} {L : List α} (h : RowOwn T w base v L) (j : Nat) (o : Obj) (e : v.ownBlock = some j) (ho : w.heap[j]? = some o) : o.isCells = true := by
  rcases h.2 with ⟨rfl, _⟩ | ⟨g, cap, cur, rfl, hb, hg0, _⟩
  · cases e
  · have : g = j := by simpa [Value.ownBlock] using e
    subst this
    rw [hg0] at ho
    cases ho; rfl

/-- Where a sector's Ids begin, and where they end. -/
def Boxed2W (W : World) (Bi i : Nat) : Prop := W.heap[Bi]? = some (.cells #[.int .i64 ((86 * i : Nat) : Int), .int .i64 ((pEnd i : Nat) : Int)] 48)

/-- One more sector: where all lies then. -/
theorem body_grow (F : Nat → Int) (n₀ B : Nat) (pre : List (Fin 3)) (i : Fin 3) {W w9 : World} {V : Value} {L : List OcS} (BV : Boxed W n₀ 29 V) (OV : RowOwn ocT W (n₀ + 1) V L) (hL : L.map OcS.l = pre.map (fun i => bodyS F i.val)) (hT : ∀ x ∈ L, x.there W ∧ Ap n₀ W V x)
    (hpre : pre.length < 3) (hb9 : Below W.heap.size W w9) (a : Option Addr) (cap : Nat) (hx : (⟨a, cap, bodyS F i.val⟩ : OcS).there w9) (hxa : ∀ b o t, a = some ⟨b, o, t⟩ → W.heap.size ≤ b ∧ b < w9.heap.size) :
    ∃ v' w10, (∃ q n c, v' = .slice q n c) ∧ (Builtin.append_ #[29, 29] 29 #[V, .slice (some ⟨w9.heap.size, 0, none⟩) 1 1]).run Try.prog (w9.alloc (.cells #[.slice a (bodyS F i.val).length cap] 33)) = .ok v' w10 ∧ Boxed w10 n₀ 29 V ∧
      KeepsFrom B W (w10.setCell ⟨n₀, 0, none⟩ v') ∧ Below n₀ W (w10.setCell ⟨n₀, 0, none⟩ v') ∧ BodyI F n₀ (pre ++ [i]) (w10.setCell ⟨n₀, 0, none⟩ v') := by
  have hLl : L.length = pre.length := by have := congrArg List.length hL; simpa using this
  have hn := BV.lt
  have hs9 := hb9.size
  have hbA : Below W.heap.size W (w9.alloc (.cells #[.slice a (bodyS F i.val).length cap] 33)) := hb9.alloc hs9 _
  have hsA : (w9.alloc (.cells #[.slice a (bodyS F i.val).length cap] 33)).heap.size = w9.heap.size + 1 := by simp
  have RI := rowOf_one ocOk (Blk.new w9 #[.slice a (bodyS F i.val).length cap] 33) (x := ⟨a, cap, bodyS F i.val⟩) rfl
  have hxA : (⟨a, cap, bodyS F i.val⟩ : OcS).there (w9.alloc (.cells #[.slice a (bodyS F i.val).length cap] 33)) := hx.more ((Below.refl _ _).alloc (Nat.le_refl _) _)
  generalize w9.alloc (.cells #[.slice a (bodyS F i.val).length cap] 33) = wA at *
  have BA := BV.kept (mgrown_of hbA) (by simp)
  have OA := OV.more hbA
  have hTA : ∀ x ∈ L, x.there wA := fun x hx => (hT x hx).1.more hbA
  obtain ⟨v', w10, hr, O', gr, mv⟩ := append_row ocOk (n₀ + 1) 29 wA V L OA (some ⟨w9.heap.size, 0, none⟩) 1 [⟨a, cap, bodyS F i.val⟩] RI (by show (L.length + 1) * 24 ≤ _; omega) (by unfold maxLen; simp; omega) (by omega)
  have hw := OV.within
  have hne : some n₀ ≠ V.ownBlock := fun e => by have := (hw n₀ e.symm).1; omega
  have BX := BA.kept gr hne
  have hbw : Below n₀ W w10 := (hbA.mono (Nat.le_of_lt hn)).grown gr (by omega) (fun k e => by have := (hw k e).1; omega)
  have hne' : v'.ownBlock ≠ some n₀ := fun e => by
    rcases mv with h | h
    · rw [h] at e; exact hne e.symm
    · rw [h] at e; cases e; omega
  have S1 : Sole (fun k => V.ownBlock = some k) wA w10 := Sole.grown gr fun k e => e
  have S2 : Sole (fun k => k = n₀) w10 (w10.setCell ⟨n₀, 0, none⟩ v') := Sole.setCell w10 v' rfl
  obtain ⟨q', c', hv', _⟩ := O'.open ocOk
  refine ⟨v', w10, ⟨q', _, c', hv'⟩, hr, BX, ?_, hbw.setCell (p := ⟨n₀, 0, none⟩) (Nat.le_refl _) _, v', L ++ [⟨a, cap, bodyS F i.val⟩], BX.set _, O'.sole S2 (fun k e h => hne' (by rw [e, h])), ?_, ?_⟩
  · exact ((KeepsFrom.of_grownBy (mgrown_of hbA) (fun j e => by cases e)).trans ((KeepsOthers.of_grownBy gr (fun j o e ho => own_cells OA j o e ho)).from _)).trans ((KeepsOthers.setCell _ _ _).from _)
  · simp [hL]
  · intro x hxm
    have hs10 : w10.heap.size = (w10.setCell ⟨n₀, 0, none⟩ v').heap.size := by simp
    have key : x.there wA ∧ ∀ b o t, x.a = some ⟨b, o, t⟩ → (n₀ < b ∧ b < w9.heap.size) ∧ V.ownBlock ≠ some b := by
      rcases List.mem_append.1 hxm with h | h
      · refine ⟨hTA x h, fun b o t e => ?_⟩
        have := (hT x h).2 b o t e
        exact ⟨⟨this.1.1, by omega⟩, this.2⟩
      · simp only [List.mem_singleton] at h
        subst h
        refine ⟨hxA, fun b o t e => ?_⟩
        have := hxa b o t e
        exact ⟨⟨by omega, this.2⟩, fun e2 => by have := (hw b e2).2; omega⟩
    have hgs := gr.size
    refine ⟨oc_sole (oc_sole key.1 S1 fun b o e => (key.2 b o none e).2) S2 fun b o e h => by have := (key.2 b o none e).1.1; omega, fun b o t e => ⟨⟨(key.2 b o t e).1.1, by have := (key.2 b o t e).1.2; omega⟩, fun e2 => ?_⟩⟩
    rcases mv with h | h
    · exact (key.2 b o t e).2 (h ▸ e2)
    · rw [h] at e2
      cases e2
      have := (key.2 _ o t e).1.2
      omega

/-- An append whose run is known, inside a fence. -/
theorem wpListIn_append_run {Fc : Fence} {n : Nat} {P : Program} (w : World) {ops : Array Oper} {rest : List Oper} {o : Oper} {a : Act} {Q : Exit → Act → World → Prop} (hgd : o.guard = none) (s x : Operand) (t : TypeId)
    (ho : o.op = .call { callee := .builtin .append, args := #[s, x], argTypes := #[t, t] }) (v u : Value) (hs : a.eval s = v) (hx : a.eval x = u) {v' : Value} {w' : World}
    (hr : (Builtin.append_ #[t, t] o.type #[v, u]).run P w = .ok v' w') (h : wpListIn Fc n P ops Q rest (a.put o.dst v') w') : wpListIn Fc n P ops Q (o :: rest) a w := by
  refine wpListIn_plain hgd fun K hK' => ?_
  unfold Oper.wpIn
  refine ⟨?_, ?_⟩
  · simp [Oper.about, ho, resolve, Target.leads, Sem.run_pure]
  · rw [Oper.semAt_plain Fc _ _ (by rw [ho]; intro c hc'; cases hc')]
    simp [execOp, ho, resolve, invoke, builtin, hs, hx, hr, Result.andThen]
    exact hK' _ _ h
theorem pVal_eq (i : Nat) : pVal i = .agg #[.int .i64 ((86 * i : Nat) : Int), .int .i64 ((pEnd i : Nat) : Int)] := by
  have e : min (86 * (i : Int) + 86) 256 = ((min (86 * i + 86) 256 : Nat) : Int) := by omega
  unfold pVal pEnd
  rw [e]
  simp

set_option maxRecDepth 100000 in
set_option maxHeartbeats 8000000 in
theorem mbody_in (c : Array Value) (F : Nat → Int) (N : Nums c .i64 292 F) (w : World) :
    CallsIn Fence.wide 5 Try.prog 7 #[.agg c] w fun e w' => ∃ v L, e = .returned (.tuple #[v, .int .i64 (mCk F)]) ∧ RowOwn ocT w' w.heap.size v L ∧ L.map OcS.l = bodyL F ∧ (∀ x ∈ L, x.there w' ∧ ∀ b o t, x.a = some ⟨b, o, t⟩ → v.ownBlock ≠ some b) ∧ Below w.heap.size w w' := by
  have hro : Fence.wide.round = none := rfl
  have BX := Blk.new w c 27
  have hb0 := (Below.refl w.heap.size w).alloc (Nat.le_refl _) (.cells c 27)
  have bR := (Boxed.new (w.alloc (.cells c 27)) 29 (.slice none 0 0)).alloc (.cells #[.int .i64 0] 30)
  have bE := Boxed.new ((w.alloc (.cells c 27)).alloc (.cells #[.slice none 0 0] 29)) 30 (.int .i64 0)
  have hb1 := (hb0.alloc hb0.size (.cells #[.slice none 0 0] 29)).alloc (by simp; omega) (.cells #[.int .i64 0] 30)
  have hb12 := ((Below.refl _ (w.alloc (.cells c 27))).alloc (Nat.le_refl _) (.cells #[.slice none 0 0] 29)).alloc (by simp) (.cells #[.int .i64 0] 30)
  have BX1 := BX.more hb12
  have hsz : c.size = 292 := N.size
  have hall := hid (show c.toList.length = 292 by simpa using hsz)
  simp only [World.size_alloc] at bR bE
  have KC := hid (fun w => mcheck_any c F N w)
  have Nh := hid N
  replace hsz := hid hsz
  clear BX hb0 hb12 N
  refine callsIn_of_wp_marks Try.func7 rfl trivial ?_ hro
  simp only [Try.ntmps7, List.size_toArray, List.length_cons, List.length_nil, Nat.reduceAdd, Nat.reduceSub, Array.replicate_succ, Array.replicate_zero, List.push_toArray, List.append_toArray, List.nil_append, List.cons_append]
  gi_wp2
  refine mload_in 27 _ rfl w.heap.size 0 rfl c.toList _ BX1.range Try.underlying27 rfl (by rw [mtab, hall.out]) ?_
  have BXh := hid BX1
  have bRh := hid bR
  have bEh := hid bE
  have hb1h := hid hb1
  generalize ((w.alloc _).alloc _).alloc _ = W1 at *
  clear BX1 bR bE hb1
  try simp only [Array.toArray_toList]
  cases hM : mOk F
  · have hC : mCk F = 4 := by unfold mCk; rw [hM]; rfl
    have hL : bodyL F = [] := by unfold bodyL; rw [hM]; rfl
    rw [hC] at KC
    have hCh := hid hC
    have hLh := hid hL
    clear hC hL hM
    gi_wp2_with (refine ⟨trivial, ?_⟩; gi_at_call 10; refine (callsIn_wide.2 (KC.out _)).mono ?_; rintro e w' ⟨rfl, hbC⟩; have hcr := (hbC.cell (p := ⟨w.heap.size + 1, 0, none⟩) bRh.out.lt).trans bRh.out.cell; have hce := (hbC.cell (p := ⟨w.heap.size + 1 + 1, 0, none⟩) bEh.out.lt).trans bEh.out.cell; have hfr := (bRh.out.kept (mgrown_of hbC) (by simp)).frozen; have hfe := (bEh.out.kept (mgrown_of hbC) (by simp)).frozen; have HBC := hid hbC)
    rename World => W2
    have hs2 := HBC.out.size
    have hlR := bRh.out.lt
    have hlE := bEh.out.lt
    have bR2 := (bRh.out.kept (mgrown_of HBC.out) (by simp)).set (.slice none 0 0)
    have bR3 := bR2.kept (grownBy_setCell' _ (w.heap.size + 1 + 1) (.int .i64 4)) (by simp)
    have bE2 := (bEh.out.kept (mgrown_of HBC.out) (by simp)).kept (grownBy_setCell' _ (w.heap.size + 1) (.slice none 0 0)) (by simp)
    have bE3 := bE2.set (.int .i64 4)
    have k1 := bR3.cell
    have k2 := bE3.cell
    refine ⟨.tuple #[.slice none 0 0, .int .i64 4], ?_, .slice none 0 0, [], by rw [hCh.out], RowOwn.nil _ _, by rw [hLh.out]; rfl, by simp, ?_⟩
    · simp [results, Try.f7, go_sem, k1, k2]
    · exact ((hb1h.out.trans (HBC.out.mono hb1h.out.size)).setCell (p := ⟨w.heap.size + 1, 0, none⟩) (by simp) _).setCell (p := ⟨w.heap.size + 1 + 1, 0, none⟩) (by simp; omega) _
  · have hC : mCk F = 0 := by unfold mCk; rw [hM]; rfl
    have hL : Hid (bodyL F = [bodyS F 0, bodyS F 1, bodyS F 2]) := hid (by unfold bodyL; rw [hM]; rfl)
    rw [hC] at KC
    have hCh := hid hC
    have hMh := hid hM
    clear hC hM
    gi_wp2_with (refine ⟨trivial, ?_⟩; first | (gi_at_call 10; refine (callsIn_wide.2 (KC.out _)).mono ?_; rintro e w' ⟨rfl, hbC⟩; have HBC := hid hbC) | (gi_at_call 14; refine (callsIn_wide.2 (pieces_any _)).mono ?_; rintro e w' ⟨rfl, rfl⟩))
    rename World => W2
    have hs2 := HBC.out.size
    have bN := Boxed.new W2 29 (.slice none 0 0)
    have hbN : Below W2.heap.size W2 (W2.alloc (.cells #[.slice none 0 0] 29)) := (Below.refl _ W2).alloc (Nat.le_refl _) _
    have hs3 : (W2.alloc (.cells #[.slice none 0 0] 29)).heap.size = W2.heap.size + 1 := by simp
    generalize W2.alloc (.cells #[.slice none 0 0] 29) = W3 at *
    refine wpIn_rangeFunc_ownH hro (by omega) (gf := 25) (lb := #[]) rfl trivial (enters_of Try.func25 (by kernel_rfl) rfl)
      (pieces_stops (5 - 1) (by omega) W2.heap.size W3 (by omega)) belowK_t (belowK_b (by omega)) (Below.refl _ _) (fun _ => rfl)
      (fun pre W => BodyI F W2.heap.size pre W ∧ Below W2.heap.size W2 W)
      (fun _ _ _ => False)
      (OwnFrom.and (Own.from (bodyI_own _ _) _) (ownFrom_below (Nat.le_refl _) (by omega)))
      (fun cd => fun _ _ _ _ h _ _ => h)
      ⟨⟨_, [], bN, RowOwn.nil _ _, rfl, by simp⟩, hbN⟩
      (fun i a' W => ∃ Bi, W2.heap.size < Bi ∧ Boxed2W W Bi i.val ∧ a' = { tmps := #[.agg c, .pointer (some ⟨w.heap.size, 0, none⟩), .pointer (some ⟨w.heap.size + 1, 0, none⟩), .pointer (some ⟨w.heap.size + 1 + 1, 0, none⟩), .int .i64 0, .pointer (some ⟨W2.heap.size, 0, none⟩), .int .i64 ((i.val : Nat) : Int), .pointer (some ⟨Bi, 0, none⟩), undef, undef, undef, undef, .agg c, .int .i64 0, .int .i64 0, .bool false, undef, .func (.func 25) #[] #[], .int .i64 ((i.val : Nat) : Int), .agg #[.int .i64 ((86 * i.val : Nat) : Int), .int .i64 ((pEnd i.val : Nat) : Int)], undef, undef, undef, undef, undef, undef, undef, undef, undef, undef, undef, undef, undef, undef, undef, undef, undef, undef, undef, undef, undef, undef, undef, undef, undef, undef, undef, undef, undef, undef, undef, undef], defers := [] })
      ?hAx ?assign ?body ?done ?stop
    case hAx =>
      rintro i a' _ X Y row ⟨Bi, h3, h5, h7⟩ hg hr
      exact ⟨Bi, h3, (grownBy_keeps_cells hg (fun r e => (hr r e).2) h5 rfl).trans h5, h7⟩
    case assign =>
      rintro l pre i W K ⟨hB, hbW⟩ hK
      simp only [pVal_eq]
      gi_wp2
      have hn : W2.heap.size < W.heap.size := by obtain ⟨v, L, h1, _⟩ := hB; exact h1.lt
      have hb2 : Below W.heap.size W (W.alloc (.cells #[.int .i64 ((86 * i.val : Nat) : Int), .int .i64 ((pEnd i.val : Nat) : Int)] 48)) := (Below.refl _ W).alloc (Nat.le_refl _) _
      refine hK _ _ ((KeepsOthers.alloc _ _).from _) (hb2.mono (Nat.le_of_lt hn)) ⟨bodyI_own _ _ _ _ _ none hB (World.grownBy_alloc W _ none) (fun r e => by cases e), hbW.trans (hb2.mono (Nat.le_of_lt hn))⟩ ⟨W.heap.size, hn, World.alloc_heap_new W _, rfl⟩
    case body =>
      rintro l pre i a' W hl ⟨r, hr⟩ ⟨⟨V, L, BV, OV, hLm, hT⟩, hbW⟩ ⟨Bi, h3, h5, rfl⟩ hlt
      have hi3 := i.isLt
      obtain ⟨⟨x0, x1⟩, _, _, _, _, _, hMap, _⟩ := mOk_parts hMh.out
      have hlR := bRh.out.lt
      have hsW : W2.heap.size ≤ W.heap.size := hbW.size
      have hlX := BXh.out.lt
      have BXW := hid ((BXh.out.more HBC.out).more hbW)
      have hsecN : 86 * i.val + secN i.val = pEnd i.val := by unfold secN pEnd; omega
      have hend : pEnd i.val ≤ 256 := by unfold pEnd; omega
      have hsec : secN i.val ≤ 86 := by unfold secN; omega
      have hbt : Hid (mapO F i.val (secN i.val) = bodyT F i.val) := hid rfl
      have hm0 : Hid (mapO F i.val 0 = []) := hid rfl
      have hml := hid (fun k h => mapO_len F i.val k h)
      have hms := hid (fun k h => mapO_succ F i.val k h)
      have hfit := hid (head_fits hMh.out (i.val : Int) (by omega) (by omega) 3 (by omega) (by omega))
      have hBi : Bi < W.heap.size := (Array.getElem?_eq_some_iff.1 h5).1
      have a0 : W.cell? ⟨Bi, 0, none⟩ = some (.int .i64 ((86 * i.val : Nat) : Int)) := by simp [World.cell?, show W.heap[Bi]? = _ from h5]
      have a1 : W.cell? ⟨Bi, 1, none⟩ = some (.int .i64 ((pEnd i.val : Nat) : Int)) := by simp [World.cell?, show W.heap[Bi]? = _ from h5]
      have a0h := hid a0
      have a1h := hid a1
      have hMaph := hid hMap
      have HV := hid BV
      have HO := hid OV
      have HLm := hid hLm
      have HT := hid hT
      have HW := hid hbW
      clear a0 a1 h5 hr x0 x1 hMap BV OV hLm hT hbW
      have KN := hid (ws_new 172 172 rfl W)
      generalize hA : 86 * i.val = A at *
      generalize hE : pEnd i.val = E at *
      generalize hS : secN i.val = S at *
      gi_wp2_with (refine ⟨trivial, ?_⟩; gi_at_call 15; refine (CallsIn.inRound l (callsIn_wide.2 KN.out)).mono ?_; rintro e w' ⟨rfl, S0⟩; have a0 := (S0.below.cell (p := ⟨Bi, 0, none⟩) hBi).trans a0h.out; have a1 := (S0.below.cell (p := ⟨Bi, 1, none⟩) hBi).trans a1h.out; have HS0 := hid S0)
      gi_loopw [9] (fun v wr => ∃ k : Nat, k ≤ S ∧ v = .int .i64 ((A + k : Nat) : Int) ∧ WS W W.heap.size 172 wr (mapO F i.val k)) (fun v _ => A + S - (intOf v).toNat)
      case atStart => exact ⟨0, by omega, rfl, by rw [hm0.out]; exact HS0.out⟩
      case round =>
        clear a0 a1 HS0
        obtain ⟨k, hk, rfl, Sk⟩ := hrel
        have a1 := (Sk.below.cell (p := ⟨Bi, 1, none⟩) hBi).trans a1h.out
        have BXr := hid (BXW.out.below Sk.below BXW.out.lt)
        by_cases hlk : k < S
        · have hlt' : decide (A + k < E) = true := decide_eq_true (by omega)
          have hz := hMaph.out (A + k) (by omega)
          have hst := hid (hms.out k (by omega))
          have K := hid (ws_num Sk (by omega) (by omega) (F (36 + (A + k))) 2 2 rfl hz.1 (by omega) (by rw [hml.out k (by omega)]; omega))
          have hj : (0 : Int) ≤ ((A + k : Nat) : Int) ∧ ((A + k : Nat) : Int) < 256 := by omega
          have k1 : wr.cell? ⟨w.heap.size, 36 + (A + k), none⟩ = some (.int .i64 (F (36 + (A + k)))) := by rw [BXr.out.cell, Nh.out.get _ (by omega)]
          have hnx : IntKind.i64.wrap (((A + k : Nat) : Int) + 1) = ((A + (k + 1) : Nat) : Int) := by rw [IntWalk.i64_in _ ⟨by omega, by omega⟩]; omega
          clear Sk hz
          generalize F (36 + (A + k)) = z at *
          have hnxh := hid hnx
          generalize hJ : A + k = j at *
          replace hJ := hid hJ
          replace hnx : IntKind.i64.wrap ((j : Int) + 1) = ((A + (k + 1) : Nat) : Int) := hnx
          gi_wp2_with (refine ⟨trivial, ?_⟩; gi_at_call 16; refine (CallsIn.inRound l (callsIn_wide.2 K.out)).mono ?_; rintro e w' ⟨rfl, S9⟩; have S9h := hid S9)
          go_roundw
          case rel => exact ⟨k + 1, by omega, by rfl, by rw [hst.out]; exact S9h.out⟩
          case measure => have := hJ.out; simp [intOf]; omega
        · obtain rfl : k = S := by omega
          have hlt' : decide (A + k < E) = false := decide_eq_false (by omega)
          have hlen := hml.out k (by omega)
          rw [hbt.out] at Sk hlen
          have KS0 := mseal_ok 3 ⟨F 0, 0, (i.val : Int)⟩ hfit.out 172 (bodyT F i.val) (by omega) W wr W.heap.size Sk
          rw [show sealB 3 ⟨F 0, 0, (i.val : Int)⟩ (bodyT F i.val) = bodyS F i.val from rfl] at KS0
          have KS := hid KS0
          have k0 : wr.cell? ⟨w.heap.size, 0, none⟩ = some (.int .i64 (F 0)) := by rw [BXr.out.cell, Nh.out.get 0 (by omega)]
          have HSk := hid Sk.below
          clear Sk hlen KS0
          generalize hJ : A + k = j at *
          replace hJ := hid hJ
          gi_wp2_with fail
          refine ⟨trivial, ?_⟩
          gi_at_call 17
          refine (CallsIn.inRound l (callsIn_wide.2 KS.out)).mono ?_
          rintro e w9 ⟨v, rfl, a, cap, rfl, O9, b9⟩
          have hb9 : Below W.heap.size W w9 := HSk.out.trans (b9.mono HSk.out.size)
          have hx : (⟨a, cap, bodyS F i.val⟩ : OcS).there w9 := by
            refine ⟨Octs.of_own O9, ?_⟩
            rcases O9.2 with ⟨h1, h2⟩ | ⟨g, cap', cur, h1, _, _, h2, h3, _⟩
            · simp only [Value.slice.injEq] at h1
              obtain ⟨_, h4, h5⟩ := h1
              exact ⟨by show (bodyS F i.val).length ≤ cap; omega, by show cap ≤ maxLen; omega⟩
            · cases h1
              exact ⟨h2, h3⟩
          have hxa : ∀ b o t, a = some ⟨b, o, t⟩ → W.heap.size ≤ b ∧ b < w9.heap.size := by
            rintro b o t rfl
            have h := World.ownsRow.lt O9 b rfl
            have h2 := HSk.out.size
            omega
          obtain ⟨v', w10, ⟨q', n', c', hv'⟩, hr, BX, KF, BN, BI⟩ := body_grow F W2.heap.size W3.heap.size pre i HV.out HO.out HLm.out HT.out hlt hb9 a cap hx hxa
          subst hv'
          have hcN := (HV.out.kept (mgrown_of hb9) (by simp)).cell
          have hc10 := BX.cell
          have hf10 := BX.frozen
          have hrh := hid hr
          have hEnd := hid (show KeepsFrom W3.heap.size W (w10.setCell ⟨W2.heap.size, 0, none⟩ (.slice q' n' c')) ∧ Below W2.heap.size W (w10.setCell ⟨W2.heap.size, 0, none⟩ (.slice q' n' c')) ∧ BodyI F W2.heap.size (pre ++ [i]) (w10.setCell ⟨W2.heap.size, 0, none⟩ (.slice q' n' c')) ∧ Below W2.heap.size W2 (w10.setCell ⟨W2.heap.size, 0, none⟩ (.slice q' n' c')) from ⟨KF, BN, BI, HW.out.trans BN⟩)
          clear KF BN BI BX hr hx hxa O9 b9 hb9 k0
          generalize (bodyS F i.val).length = bl at *
          gi_wp2_with (refine wpListIn_append_run _ rfl _ _ 29 rfl V (.slice (some ⟨w9.heap.size, 0, none⟩) 1 1) rfl rfl hrh.out ?_)
          exact hEnd.out
    case done =>
      rintro D zs W hD rfl ⟨⟨V, L, BV, OV, hLm, hT⟩, hbW⟩ hK
      obtain ⟨pv, cv, hVe, _, _, _⟩ := OV.open ocOk
      subst hVe
      have hlR := bRh.out.lt
      have hlE := bEh.out.lt
      have hsW : W2.heap.size ≤ W.heap.size := hbW.size
      have bRW := (bRh.out.kept (mgrown_of HBC.out) (by simp)).kept (mgrown_of hbW) (by simp)
      have bEW := (bEh.out.kept (mgrown_of HBC.out) (by simp)).kept (mgrown_of hbW) (by simp)
      have hcN := BV.cell
      have hcr := bRW.cell
      have hfr := bRW.frozen
      have hce := bEW.cell
      have hfe := bEW.frozen
      have HV := hid BV
      have HO := hid OV
      have HLm := hid hLm
      have HT := hid hT
      have HW := hid hbW
      have HRW := hid bRW
      have HEW := hid bEW
      clear BV OV hLm hT hbW bRW bEW
      gi_wp2
      have hK' := (KeepsOthers.setCell _ ⟨w.heap.size + 1 + 1, 0, none⟩ (.int .i64 0)).same D _ ((KeepsOthers.setCell W ⟨w.heap.size + 1, 0, none⟩ (.slice pv L.length cv)).same D _ hK rfl) rfl
      refine ⟨by simp, .inl ⟨_, _, rfl, run_takeDeferred hK', ?_⟩⟩
      have hno : ∀ r, some D = some r → ∃ o : Obj, ((W.setCell ⟨w.heap.size + 1, 0, none⟩ (.slice pv L.length cv)).setCell ⟨w.heap.size + 1 + 1, 0, none⟩ (.int .i64 0)).heap[r]? = some o ∧ o.isCells = false := fun r e => by cases e; exact ⟨_, hK', rfl⟩
      have hgD := grownBy_putObj' ((W.setCell ⟨w.heap.size + 1, 0, none⟩ (.slice pv L.length cv)).setCell ⟨w.heap.size + 1 + 1, 0, none⟩ (.int .i64 0)) D (.deferred none)
      have k1 := cell_kept (((HRW.out.set (.slice pv L.length cv)).kept (grownBy_setCell' _ (w.heap.size + 1 + 1) (.int .i64 0)) (by simp)).cell) hgD hno
      have k2 := cell_kept (((HEW.out.kept (grownBy_setCell' _ (w.heap.size + 1) (.slice pv L.length cv)) (by simp)).set (.int .i64 0)).cell) hgD hno
      have S1 : Sole (fun k => k = w.heap.size + 1) W (W.setCell ⟨w.heap.size + 1, 0, none⟩ (.slice pv L.length cv)) := Sole.setCell W _ rfl
      have S2 : Sole (fun k => k = w.heap.size + 1 + 1) (W.setCell ⟨w.heap.size + 1, 0, none⟩ (.slice pv L.length cv)) ((W.setCell ⟨w.heap.size + 1, 0, none⟩ (.slice pv L.length cv)).setCell ⟨w.heap.size + 1 + 1, 0, none⟩ (.int .i64 0)) := Sole.setCell _ _ rfl
      have hwi := HO.out.within
      refine ⟨.tuple #[.slice pv L.length cv, .int .i64 0], ?_, .slice pv L.length cv, L, by rw [hCh.out], ?_, by rw [HLm.out, hL.out]; rfl, ?_, ?_⟩
      · simp [results, Try.f7, go_sem, k1, k2]
      · exact (ocrow_kept ((HO.out.sole S1 (fun k e h => by have := (hwi k e).1; omega)).sole S2 (fun k e h => by have := (hwi k e).1; omega)) hgD hno).mono (by omega)
      · intro x hx
        have hp := (HT.out x hx).2
        refine ⟨?_, fun b o t e => (hp b o t e).2⟩
        exact oc_kept (oc_sole (oc_sole (HT.out x hx).1 S1 fun b o e h => by have := (hp b o none e).1.1; omega) S2 fun b o e h => by have := (hp b o none e).1.1; omega) hgD hno
      · have hbw : Below w.heap.size w W := (hb1h.out.trans (HBC.out.mono hb1h.out.size)).trans (HW.out.mono (by have := hb1h.out.size; omega))
        have hbx := (hbw.setCell (p := ⟨w.heap.size + 1, 0, none⟩) (by simp) (.slice pv L.length cv)).setCell (p := ⟨w.heap.size + 1 + 1, 0, none⟩) (by simp; omega) (.int .i64 0)
        exact hbx.trans (belowK_b (w := w) (Nat.le_refl _) _ D _ _ (by omega) hK' rfl rfl)
    case stop =>
      rintro D cd pre W hD hpre hf hK
      exact hf.elim
end Go.Proofs.Ytdagddahpccnkaa

/-
  Package croftplain: Lists: are rows of octets one and the same?
-/



namespace Go.Proofs.Ytdagddahpccnkaa
open Go.RowKit
set_option linter.unusedVariables false
set_option linter.unusedSimpArgs false

theorem mbody_any (c : Array Value) (F : Nat → Int) (N : Nums c .i64 292 F) (w : World) :
    Calls Try.prog 7 #[.agg c] w fun e w' => ∃ v L, e = .returned (.tuple #[v, .int .i64 (mCk F)]) ∧ RowOwn ocT w' w.heap.size v L ∧ L.map OcS.l = bodyL F ∧ (∀ x ∈ L, x.there w' ∧ ∀ b o t, x.a = some ⟨b, o, t⟩ → v.ownBlock ≠ some b) ∧ Below w.heap.size w w' :=
  callsIn_wide.1 (mbody_in c F N w)

def ocA (L : List OcS) (i : Nat) : OcS := atR ocT L i
theorem ocA_eq (L : List OcS) (i : Nat) (h : i < L.length) : ocA L i = L[i] := atR_eq L i h
theorem ocA_mem (L : List OcS) (i : Nat) (h : i < L.length) : ocA L i ∈ L := by rw [ocA_eq L i h]; exact List.getElem_mem h
theorem map_same (L M : List OcS) (hl : L.length = M.length) (h : ∀ i, i < L.length → (ocA L i).l = (ocA M i).l) : L.map OcS.l = M.map OcS.l := by
  refine List.ext_getElem (by simp [hl]) fun i h1 h2 => ?_
  have hi : i < L.length := by simpa using h1
  rw [List.getElem_map, List.getElem_map, ← ocA_eq L i hi, ← ocA_eq M i (by omega)]
  exact h i hi
theorem map_other (L M : List OcS) (i : Nat) (hi : i < L.length) (hm : i < M.length) (h : (ocA L i).l ≠ (ocA M i).l) : L.map OcS.l ≠ M.map OcS.l := fun e => by
  have h1 : i < (L.map OcS.l).length := by simpa using hi
  have h2 : i < (M.map OcS.l).length := by simpa using hm
  have : (L.map OcS.l)[i] = (M.map OcS.l)[i] := by simp only [e]
  rw [List.getElem_map, List.getElem_map, ← ocA_eq L i hi, ← ocA_eq M i hm] at this
  exact h this
theorem textOf_eq (l m : List UInt8) : (textOf l = textOf m) ↔ l = m := by
  unfold textOf
  constructor
  · intro h
    have := congrArg (fun b : ByteArray => b.data.toList) h
    simpa using this
  · rintro rfl; rfl

set_option maxRecDepth 100000 in
set_option maxHeartbeats 4000000 in
theorem lists_any (L M : List OcS) (p q : Option Addr) (c1 c2 : Nat) (h1 : L.length ≤ maxLen) (h2 : M.length ≤ maxLen) (w : World) (RL : RowOf ocT w p L) (RM : RowOf ocT w q M) (TL : ∀ x ∈ L, x.there w) (TM : ∀ x ∈ M, x.there w) :
    Calls Try.prog 12 #[.slice p L.length c1, .slice q M.length c2] w fun e w' => e = .returned (.bool (decide (L.map OcS.l = M.map OcS.l))) ∧ Below w.heap.size w w' := by
  have hL : Hid (RowP w p 1 L.length (fun i => [.slice (ocA L i).a (ocA L i).l.length (ocA L i).cap])) := hid RL
  have hM : Hid (RowP w q 1 M.length (fun i => [.slice (ocA M i).a (ocA M i).l.length (ocA M i).cap])) := hid RM
  have tL := hid (fun i h => TL _ (ocA_mem L i h))
  have tM := hid (fun i h => TM _ (ocA_mem M i h))
  have hsame := hid (map_same L M)
  have hother := hid (map_other L M)
  have hlen : Hid (L.length ≠ M.length → L.map OcS.l ≠ M.map OcS.l) := hid (fun h e => h (by have := congrArg List.length e; simpa using this))
  generalize ocA L = f at *
  generalize ocA M = g at *
  obtain ⟨n, hn⟩ : ∃ n, L.length = n := ⟨_, rfl⟩
  obtain ⟨m, hm⟩ : ∃ m, M.length = m := ⟨_, rfl⟩
  rw [hn] at h1 hL tL hsame hother hlen ⊢
  rw [hm] at h2 hM tM hsame hother hlen ⊢
  have hn63 : (n : Int) ≤ 9223372036854775807 := by unfold maxLen at h1; omega
  generalize L.map OcS.l = X at *
  generalize M.map OcS.l = Y at *
  clear RL RM TL TM hn hm
  by_cases hnm : n = m
  · subst hnm
    clear hlen h2
    go_enter Try.func12, Try.ntmps12
    go_wp2_with fail
    go_loopw [5] (fun i wr => ∃ k : Nat, k ≤ n ∧ i = .int .i64 (k : Int) ∧ (∀ j, j < k → (f j).l = (g j).l) ∧ Below w.heap.size w wr) (fun i _ => n - (intOf i).toNat)
    case atStart => exact ⟨0, by omega, rfl, fun j h => absurd h (Nat.not_lt_zero j), Below.refl _ _⟩
    case round =>
      obtain ⟨k, hk, rfl, hg, hb⟩ := hrel
      by_cases hlt : k < n
      · obtain ⟨b, o, rfl, R1⟩ := hL.out.row (by omega)
        obtain ⟨b', o', rfl, R2⟩ := hM.out.row (by omega)
        have hb' := hb.drew
        have z1 := (R1.more hb).at0 hlt (v := .slice (f k).a (f k).l.length (f k).cap) rfl
        have z2 := (R2.more hb).at0 hlt (v := .slice (g k).a (g k).l.length (g k).cap) rfl
        rw [Nat.mul_one] at z1 z2
        have k1 := conv_octs ((tL.out k hlt).1.more hb) (f k).cap
        have k2 := conv_octs ((tM.out k hlt).1.more hb) (g k).cap
        have k3 := conv_octs ((tL.out k hlt).1.more hb') (f k).cap
        have k4 := conv_octs ((tM.out k hlt).1.more hb') (g k).cap
        have hlt1 : (k : Int) < (n : Int) := by omega
        have hk1 : IntKind.i64.wrap ((k : Int) + 1) = (k : Int) + 1 := IntWalk.i64_in _ ⟨by omega, by omega⟩
        have hbh := hid hb
        have hgh := hid hg
        clear R1 R2 hb hg hb'
        cases he : ((f k).l == (g k).l) with
        | true =>
          have heh := hid (show (f k).l = (g k).l by simpa using he)
          have hst := hid (show ∀ j, j < k + 1 → (f j).l = (g j).l from fun j hj => by
            rcases Nat.lt_succ_iff_lt_or_eq.1 hj with h | h
            · exact hgh.out j h
            · rw [h]; exact heh.out)
          clear heh
          generalize f k = x at *
          generalize g k = y at *
          obtain ⟨xa, xc, xl⟩ := x
          obtain ⟨ya, yc, yl⟩ := y
          replace he : (xl == yl) = true := he
          go_wp2_with fail
          go_region
          go_wp2_with fail
          go_roundw
          case rel => exact ⟨k + 1, by omega, by simp, hst.out, hbh.out.drew⟩
          case measure => simp [intOf]; omega
        | false =>
          have hne := hid (hother.out k hlt hlt (by simpa using he))
          generalize f k = x at *
          generalize g k = y at *
          obtain ⟨xa, xc, xl⟩ := x
          obtain ⟨ya, yc, yl⟩ := y
          replace he : (xl == yl) = false := he
          go_wp2_with fail
          go_region
          go_wp2_with fail
          go_ret
          exact ⟨by rw [decide_eq_false hne.out]; rfl, hbh.out.drew⟩
      · obtain rfl : k = n := by omega
        have hXY := hid (hsame.out trivial hg)
        have hbh := hid hb
        clear hg hb
        go_wp2_with fail
        go_ret
        exact ⟨by rw [decide_eq_true hXY.out]; rfl, hbh.out⟩
  · have hne := hid (hlen.out hnm)
    have hnm' : ((n : Int) != (m : Int)) = true := by simp; omega
    clear hL hM tL tM hsame hother hlen
    go_enter Try.func12, Try.ntmps12
    go_wp2_with fail
    go_ret
    exact ⟨by rw [decide_eq_false hne.out]; rfl, Below.refl _ _⟩
end Go.Proofs.Ytdagddahpccnkaa
