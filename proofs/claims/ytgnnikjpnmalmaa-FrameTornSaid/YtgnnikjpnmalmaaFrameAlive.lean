/-
  The example of layer 9.
-/
import Derived.Test.YtgnnikjpnmalmaaFrameIs
import Derived.Lib.SlBytesConst
namespace Go.Proofs.Ytgnnikjpnmalmaa
open Go.RowKit
set_option linter.unusedVariables false
set_option linter.unusedSimpArgs false

theorem fresh_cap {w w' : World} {v : Value} {l : List UInt8} (h : Fresh w w' v l) (hl : l ≠ []) : ∃ a cap, v = .slice a l.length cap ∧ Octs w' a l ∧ l.length ≤ cap ∧ cap ≤ maxLen ∧ Below w.heap.size w w' := by
  obtain ⟨a, cap, rfl, O, hb⟩ := h
  rcases O.2 with ⟨_, h0⟩ | ⟨g', cap', cur, hv, _, _, q1, q2, _⟩
  · exact absurd (List.eq_nil_of_length_eq_zero h0) hl
  · cases hv; exact ⟨_, _, rfl, Octs.of_own O, q1, q2, hb⟩
theorem wpList_make_at {P : Program} (w : World) {ops : Array Oper} {rest : List Oper} {o : Oper} {a : Act} {Q : Exit → Act → World → Prop} (hgd : o.guard = none) (l c : Operand) (t : TypeId)
    (ho : o.op = .makeSlice t l c) (vl vc : Value) (hl : a.eval l = vl) (hc : a.eval c = vc)
    (v' : Value) (w' : World) (hr : (Instr.makeSlice t vl vc).run P w = .ok v' w') (h : wpList P ops Q rest (a.put o.dst v') w') : wpList P ops Q (o :: rest) a w := by
  refine wpList_plain hgd fun K hK => ?_
  unfold Oper.wp
  simp [execOp, ho, hl, hc, hr, Result.andThen]
  exact hK _ _ h

set_option maxRecDepth 100000 in
set_option maxHeartbeats 4000000 in
theorem alive09 (w : World) : Calls Try.prog 47 #[] w fun e w' => e = .returned (.bool true) ∧ Below w.heap.size w w' := by
  have kc := fun (w : World) (C : Array Value) (n c : Nat) => Lib.run_convert_bytes_const (P := Try.prog) w 22 5 C n c Try.underlying22 Try.underlying5
  have G := seal_good 3 ⟨1, 0, 0⟩ [120] (by decide) (by decide)
  have L := sealB_length 3 ⟨1, 0, 0⟩ [120] (by decide)
  have KS := fun (w : World) O => seal_ok 3 ⟨1, 0, 0⟩ [120] (some ⟨w.heap.size, 0, none⟩) 1 (by decide) (by decide) (w.alloc (.cells #[.int .u8 120] 5 (1, 2))) O
  unfold SealPost at KS
  rw [show sealC 3 ⟨1, 0, 0⟩ ([120] : List UInt8).length = 0 from by decide, show sealL 3 ⟨1, 0, 0⟩ [120] = sealB 3 ⟨1, 0, 0⟩ [120] from by unfold sealL; rw [if_pos (by decide)]] at KS
  have KB := fun a w => seal_bad 0 ⟨0, 0, 0⟩ (List.replicate 239 0) a 239 (by simp) (by simp) w
  unfold SealPost at KB
  rw [List.length_replicate, show sealC 0 ⟨0, 0, 0⟩ 239 = 5 from by decide] at KB
  have isT : isB (sealB 3 ⟨1, 0, 0⟩ [120]) 3 ⟨1, 0, 0⟩ = true := by
    unfold isB
    rw [G.2.1, G.2.2.1, G.2.2.2.1]
    rfl
  have sT := G.1
  clear G
  generalize sealB 3 ⟨1, 0, 0⟩ [120] = SB at *
  replace KS := hid KS
  replace KB := hid KB
  go_enter Try.func47, Try.ntmps47
  go_wp2_with fail
  have hb1 : Below w.heap.size w (w.alloc (.cells #[.int .u8 120] 5 (1, 2))) := Below.alloc (Below.refl _ _) (Nat.le_refl _) _
  have O1 : Octs (w.alloc (.cells #[.int .u8 120] 5 (1, 2))) (some ⟨w.heap.size, 0, none⟩) [120] := by
    refine .inr ⟨w.heap.size, 0, rfl, by simp, fun i hi => ?_⟩
    have : i = 0 := by simpa using hi
    subst this
    exact cell_of_row _ _ _ _ _ (1, 2) (heap_alloc_new w _)
  refine (KS.out w O1).mono ?_
  rintro e w1 ⟨v, rfl, F1⟩
  obtain ⟨xa, xc, rfl, OX, c1, c2, hbx⟩ := fresh_cap F1 (by intro h; rw [h] at L; cases L)
  have D1 := hid (below2 hb1 hbx hb1.size)
  obtain ⟨w2, hm, _, hb2⟩ := make_octs w1 239 (by omega) (by omega)
  rw [show ((239 : Int)).toNat = 239 from rfl] at hm
  have OX2 := OX.more hb2
  have D2 := hid (below2 D1.out hb2 D1.out.size)
  have KBw := hid (KB.out (some ⟨w1.heap.size, 0, none⟩) w2)
  have KSo := hid (fun wx O => sound_any SB xa xc c1 c2 wx O)
  have KIs := hid (fun wx O => is_any SB xa xc c1 c2 3 ⟨1, 0, 0⟩ wx O)
  rw [sT, L] at KSo
  rw [isT, L] at KIs
  replace OX2 := hid OX2
  rw [L]
  clear hb1 O1 F1 OX c1 c2 hbx hb2 D1 KS KB L
  go_wp2_with (at_make; refine wpList_make_at _ rfl _ _ _ rfl _ _ rfl rfl _ _ hm ?_)
  refine KBw.out.mono ?_
  rintro e w3 ⟨v3, rfl, _, _, _, _, hb3⟩
  have O3 := hid (OX2.out.more hb3)
  have D3 := hid (below2 D2.out hb3 D2.out.size)
  clear hb3 OX2 hm KBw
  go_wp2_with fail
  refine (KSo.out _ O3.out).mono ?_
  rintro e w4 ⟨rfl, hb4⟩
  have O4 := hid (O3.out.more hb4)
  have D4 := hid (below2 D3.out hb4 D3.out.size)
  clear hb4
  go_wp2_with fail
  refine (KIs.out _ O4.out).mono ?_
  rintro e w5 ⟨rfl, hb5⟩
  have D5 := hid (below2 D4.out hb5 D4.out.size)
  clear hb5
  go_wp2_with fail
  go_ret
  exact ⟨rfl, D5.out⟩
end Go.Proofs.Ytgnnikjpnmalmaa
