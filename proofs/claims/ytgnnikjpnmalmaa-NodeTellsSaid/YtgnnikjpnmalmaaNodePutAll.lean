/-
  Package node: another node's octets; Put.
-/
import Derived.Test.YtgnnikjpnmalmaaNodePut
import Derived.LoopN
namespace Go.Proofs.Ytgnnikjpnmalmaa
open Go.RowKit
set_option linter.unusedVariables false
set_option linter.unusedSimpArgs false

@[go_sem high] theorem index_arr0 (a0 a1 a2 a3 : Int) (w : World) : (Instr.index 59 (.agg #[.int .i64 a0, .int .i64 a1, .int .i64 a2, .int .i64 a3]) (.int .i64 0)).run Try.prog w = .ok (.int .i64 a0) w := by
  first | kernel_rfl | rfl
@[go_sem high] theorem index_arr1 (a0 a1 a2 a3 : Int) (w : World) : (Instr.index 59 (.agg #[.int .i64 a0, .int .i64 a1, .int .i64 a2, .int .i64 a3]) (.int .i64 1)).run Try.prog w = .ok (.int .i64 a1) w := by
  first | kernel_rfl | rfl
@[go_sem high] theorem index_arr2 (a0 a1 a2 a3 : Int) (w : World) : (Instr.index 59 (.agg #[.int .i64 a0, .int .i64 a1, .int .i64 a2, .int .i64 a3]) (.int .i64 2)).run Try.prog w = .ok (.int .i64 a2) w := by
  first | kernel_rfl | rfl
@[go_sem high] theorem index_arr3 (a0 a1 a2 a3 : Int) (w : World) : (Instr.index 59 (.agg #[.int .i64 a0, .int .i64 a1, .int .i64 a2, .int .i64 a3]) (.int .i64 3)).run Try.prog w = .ok (.int .i64 a3) w := by
  first | kernel_rfl | rfl

set_option maxRecDepth 100000 in
set_option maxHeartbeats 8000000 in
theorem putOther_any (v : Value) (nx : Int) (k c : Nat → Int) (w0 w : World) (p : Nat) (hk : ∀ i, i < 4 → 0 ≤ k i ∧ k i ≤ 255 ∧ 0 ≤ c i ∧ c i ≤ 65535) (hW : WS w0 p 256 w []) :
    Calls Try.prog 86 #[at' p, ndval false v nx k c] w fun e w' => e = .returned (.tuple #[]) ∧ WS w0 p 256 w' (otherO k c) := by
  have B0 := WB.new hW (ndcells false v nx k c) 61
  obtain ⟨a0, b0, c0, d0⟩ := hk 0 (by omega)
  obtain ⟨a1, b1, c1, d1⟩ := hk 1 (by omega)
  obtain ⟨a2, b2, c2, d2⟩ := hk 2 (by omega)
  obtain ⟨a3, b3, c3, d3⟩ := hk 3 (by omega)
  have hO : otherO k c = [] ++ leB (0 : Int).toNat 1 ++ (leB (k 0).toNat 1 ++ leB (k 1).toNat 1 ++ leB (k 2).toNat 1 ++ leB (k 3).toNat 1) ++ (leB (c 0).toNat 2 ++ leB (c 1).toNat 2 ++ leB (c 2).toNat 2 ++ leB (c 3).toNat 2) := by
    simp [otherO, numsB]
  generalize otherO k c = OO at *
  replace hO := hid hO
  have HX := hid B0.blk
  have K := hid (wb_num B0 (by omega) (by omega) 0 1 1 rfl (by omega) (by omega) (by simp))
  clear hk hW
  obtain ⟨lx, kx, fx⟩ := HX.out
  go_enter Try.func86, Try.ntmps86
  go_wp2_with fail
  refine K.out.mono ?_
  rintro e w1 ⟨rfl, B1⟩
  have HX1 := B1.blk
  replace B1 := hid B1
  clear lx kx fx HX K B0
  obtain ⟨lx, kx, fx⟩ := HX1
  go_wp2_with fail
  clear lx kx fx
  refine wp_loop_rounds 5 ?_
  rw [rounds_succ]
  have K0 := hid (wb_num B1.out (by omega) (by omega) (k 0) 1 1 rfl (by omega) (by omega) (by simp [leB_length]))
  go_wp2_with fail
  refine K0.out.mono ?_
  rintro e wk0 ⟨rfl, Bk0⟩
  clear K0 B1
  have HXk0 := hid Bk0.blk
  replace Bk0 := hid Bk0
  go_wp2_with fail
  rw [rounds_succ]
  have K1 := hid (wb_num Bk0.out (by omega) (by omega) (k 1) 1 1 rfl (by omega) (by omega) (by simp [leB_length]))
  go_wp2_with fail
  refine K1.out.mono ?_
  rintro e wk1 ⟨rfl, Bk1⟩
  clear K1 Bk0
  have HXk1 := hid Bk1.blk
  replace Bk1 := hid Bk1
  go_wp2_with fail
  rw [rounds_succ]
  have K2 := hid (wb_num Bk1.out (by omega) (by omega) (k 2) 1 1 rfl (by omega) (by omega) (by simp [leB_length]))
  go_wp2_with fail
  refine K2.out.mono ?_
  rintro e wk2 ⟨rfl, Bk2⟩
  clear K2 Bk1
  have HXk2 := hid Bk2.blk
  replace Bk2 := hid Bk2
  go_wp2_with fail
  rw [rounds_succ]
  have K3 := hid (wb_num Bk2.out (by omega) (by omega) (k 3) 1 1 rfl (by omega) (by omega) (by simp [leB_length]))
  go_wp2_with fail
  refine K3.out.mono ?_
  rintro e wk3 ⟨rfl, Bk3⟩
  clear K3 Bk2
  have HXk3 := hid Bk3.blk
  replace Bk3 := hid Bk3
  go_wp2_with fail
  rw [rounds_succ]
  obtain ⟨lx, kx, fx⟩ := HXk3.out
  go_wp2_with fail
  clear lx kx fx HXk3
  have Wk := hid Bk3.out.ws
  clear Bk3
  refine wp_loop_rounds 5 ?_
  rw [rounds_succ]
  have L0 := hid (ws_num Wk.out (by omega) (by omega) (c 0) 2 2 rfl (by omega) (by omega) (by simp [leB_length]))
  go_wp2_with fail
  refine L0.out.mono ?_
  rintro e wc0 ⟨rfl, Wc0⟩
  clear L0 Wk
  replace Wc0 := hid Wc0
  go_wp2_with fail
  rw [rounds_succ]
  have L1 := hid (ws_num Wc0.out (by omega) (by omega) (c 1) 2 2 rfl (by omega) (by omega) (by simp [leB_length]))
  go_wp2_with fail
  refine L1.out.mono ?_
  rintro e wc1 ⟨rfl, Wc1⟩
  clear L1 Wc0
  replace Wc1 := hid Wc1
  go_wp2_with fail
  rw [rounds_succ]
  have L2 := hid (ws_num Wc1.out (by omega) (by omega) (c 2) 2 2 rfl (by omega) (by omega) (by simp [leB_length]))
  go_wp2_with fail
  refine L2.out.mono ?_
  rintro e wc2 ⟨rfl, Wc2⟩
  clear L2 Wc1
  replace Wc2 := hid Wc2
  go_wp2_with fail
  rw [rounds_succ]
  have L3 := hid (ws_num Wc2.out (by omega) (by omega) (c 3) 2 2 rfl (by omega) (by omega) (by simp [leB_length]))
  go_wp2_with fail
  refine L3.out.mono ?_
  rintro e wc3 ⟨rfl, Wc3⟩
  clear L3 Wc2
  replace Wc3 := hid Wc3
  go_wp2_with fail
  rw [rounds_succ]
  go_wp2
  go_end0
  exact ⟨rfl, by rw [hO.out]; simpa using Wc3.out⟩

set_option maxRecDepth 100000 in
set_option maxHeartbeats 8000000 in
theorem nput_any (lf : Bool) (p : Option Addr) (n cap : Nat) (f : Nat → Pt) (hf : ∀ i, i < n → (f i).ok) (nx : Int) (k c : Nat → Int) (h1 : n ≤ cap) (h2 : cap ≤ maxLen) (w : World) (HR : RowP w p 4 n (fun i => pcells (f i))) :
    Calls Try.prog 39 #[ndval lf (.slice p n cap) nx k c] w fun e w' => ∃ v, e = .returned (.tuple #[v, .int .i64 (nodeC (nodeB lf n f nx k c))]) ∧ Fresh w w' v (nodeL lf n f nx k c) := by
  have hb0 : Below w.heap.size w (w.alloc (.cells (ndcells lf (.slice p n cap) nx k c) 61)) := (Below.refl _ _).alloc (Nat.le_refl _) _
  have BX := Blk.new w (ndcells lf (.slice p n cap) nx k c) 61
  have D0 := hid hb0
  have HBX := hid BX
  have KC := hid (ncheck_any lf p n cap f hf nx k c h1 h2 _ (HR.more hb0))
  have hL : nodeL lf n f nx k c = if nodeB lf n f nx k c then nodeO lf n f nx k c else [] := rfl
  have HR0 := hid HR
  clear hb0 BX HR
  cases hB : nodeB lf n f nx k c with
  | false =>
    rw [hB] at hL KC
    have hL2 := hid (show nodeL lf n f nx k c = [] from hL)
    clear hL
    generalize nodeL lf n f nx k c = SL at *
    replace hB := hid hB
    unfold maxLen at h2
    obtain ⟨lx, kx, fx⟩ := HBX.out
    go_enter Try.func39, Try.ntmps39
    go_wp2_with fail
    refine KC.out.mono ?_
    rintro e w1 ⟨rfl, hb⟩
    have D1 := hid (below2 D0.out hb D0.out.size)
    rw [show nodeC false = 9 from rfl]
    clear lx kx fx hb
    go_wp2_with fail
    go_ret2
    exact ⟨_, rfl, none, 0, by rw [hL2.out]; rfl, by rw [hL2.out]; exact World.ownsRow_nil _ _ _ _, D1.out⟩
  | true =>
    rw [hB] at hL KC
    have hL2 := show nodeL lf n f nx k c = nodeO lf n f nx k c from hL
    clear hL
    have KN := fun wx (hb : Below w.heap.size w wx) => ws_new 256 256 (by decide) wx
    obtain ⟨lx, kx, fx⟩ := HBX.out
    have KP : ∀ w0 wx, Below w.heap.size w w0 → WS w0 w0.heap.size 256 wx [] → Calls Try.prog (if lf then 85 else 86) #[at' w0.heap.size, ndval lf (.slice p n cap) nx k c] wx fun e w' => e = .returned (.tuple #[]) ∧ WS w0 w0.heap.size 256 w' (nodeL lf n f nx k c) := by
      intro w0 wx hb hW
      rw [hL2]
      cases lf with
      | true => exact putLeaf_any p n cap f hf nx k c h1 h2 w0 wx (HR0.out.more hb) hB hW
      | false => exact putOther_any _ nx k c w0 wx _ (fun i hi => by obtain ⟨_, _, q⟩ := otherB_parts hB; have := q i hi; omega) hW
    have hlen : (nodeL lf n f nx k c).length ≤ 119 := by
      rw [hL2]
      cases lf with
      | true =>
        obtain ⟨n4, _, _, _, _, hg⟩ := leafB_parts hB
        have := ptsB_length f n fun i hi => (goodL_may (hg i hi)).2.2
        show (lheadB nx n ++ ptsB f n).length ≤ 119
        rw [List.length_append, lheadB_length]
        omega
      | false => show (otherO k c).length ≤ 119; simp [otherO, numsB_length, leB_length]
    generalize nodeL lf n f nx k c = SL at *
    replace hB := hid hB
    replace KP := hid KP
    replace hL2 := hid hL2
    unfold maxLen at h2
    cases lf with
    | true =>
      go_enter Try.func39, Try.ntmps39
      go_wp2_with fail
      refine KC.out.mono ?_
      rintro e w1 ⟨rfl, hb⟩
      have D1 := hid (below2 D0.out hb D0.out.size)
      have HB1 := HBX.out.more hb
      rw [show nodeC true = 0 from rfl]
      replace KN := hid (KN w1 D1.out)
      replace KP := hid (fun wx hW => KP.out w1 wx D1.out hW)
      clear lx kx fx hb
      obtain ⟨lx, kx, fx⟩ := HB1
      go_wp2_with fail
      refine KN.out.mono ?_
      rintro e w2 ⟨rfl, W2⟩
      have hx2 : Blk w2 w.heap.size (ndcells true (.slice p n cap) nx k c) := by
        have h3 : Blk w1 w.heap.size (ndcells true (.slice p n cap) nx k c) := ⟨lx, kx, fx⟩
        exact h3.more W2.below
      replace W2 := hid W2
      clear lx kx fx KN
      obtain ⟨lx, kx, fx⟩ := hx2
      go_wp2_with fail
      refine (KP.out _ W2.out).mono ?_
      rintro e w3 ⟨rfl, W3⟩
      have KD := hid (ws_done W3 (by omega))
      clear lx kx fx W2 KP
      go_wp2_with fail
      refine KD.out.mono ?_
      rintro e w4 ⟨v, rfl, ⟨a, cp, rfl, own, hb4⟩, W4⟩
      have hb5 := W4.below
      have FF := hid (own_base own (by have := D1.out.size; have := W3.below.size; omega : w.heap.size ≤ w3.heap.size))
      have D5 := hid (below2 D1.out hb5 D1.out.size)
      clear own hb4 hb5 W4 W3 KD
      go_wp2_with fail
      go_ret2
      exact ⟨_, rfl, a, cp, rfl, FF.out, D5.out⟩
    | false =>
      go_enter Try.func39, Try.ntmps39
      go_wp2_with fail
      refine KC.out.mono ?_
      rintro e w1 ⟨rfl, hb⟩
      have D1 := hid (below2 D0.out hb D0.out.size)
      have HB1 := HBX.out.more hb
      rw [show nodeC true = 0 from rfl]
      replace KN := hid (KN w1 D1.out)
      replace KP := hid (fun wx hW => KP.out w1 wx D1.out hW)
      clear lx kx fx hb
      obtain ⟨lx, kx, fx⟩ := HB1
      go_wp2_with fail
      refine KN.out.mono ?_
      rintro e w2 ⟨rfl, W2⟩
      have hx2 : Blk w2 w.heap.size (ndcells false (.slice p n cap) nx k c) := by
        have h3 : Blk w1 w.heap.size (ndcells false (.slice p n cap) nx k c) := ⟨lx, kx, fx⟩
        exact h3.more W2.below
      replace W2 := hid W2
      clear lx kx fx KN
      obtain ⟨lx, kx, fx⟩ := hx2
      go_wp2_with fail
      refine (KP.out _ W2.out).mono ?_
      rintro e w3 ⟨rfl, W3⟩
      have KD := hid (ws_done W3 (by omega))
      clear lx kx fx W2 KP
      go_wp2_with fail
      refine KD.out.mono ?_
      rintro e w4 ⟨v, rfl, ⟨a, cp, rfl, own, hb4⟩, W4⟩
      have hb5 := W4.below
      have FF := hid (own_base own (by have := D1.out.size; have := W3.below.size; omega : w.heap.size ≤ w3.heap.size))
      have D5 := hid (below2 D1.out hb5 D1.out.size)
      clear own hb4 hb5 W4 W3 KD
      go_wp2_with fail
      go_ret2
      exact ⟨_, rfl, a, cp, rfl, FF.out, D5.out⟩

set_option maxRecDepth 100000 in
theorem alive08 (w : World) : Calls Try.prog 37 #[] w fun e w' => e = .returned (.bool true) ∧ Below w.heap.size w w' := by
  have K := nput_any true none 0 0 (fun _ => ⟨0, 0, 0, ByteArray.empty⟩) (fun i hi => absurd hi (Nat.not_lt_zero _)) 0 (fun _ => 0) (fun _ => 0) (Nat.le_refl _) (Nat.zero_le _) w (.inl rfl)
  rw [show nodeC (nodeB true 0 (fun _ => ⟨0, 0, 0, ByteArray.empty⟩) 0 (fun _ => 0) (fun _ => 0)) = 0 from by decide, show nodeL true 0 (fun _ => ⟨0, 0, 0, ByteArray.empty⟩) 0 (fun _ => 0) (fun _ => 0) = [1, 0, 0] from by decide] at K
  replace K := hid K
  go_enter Try.func37, Try.ntmps37
  go_wp2_with fail
  refine K.out.mono ?_
  rintro e w1 ⟨v, rfl, a, cap, rfl, OX, hb1⟩
  have kc := conv_octs (Octs.of_own OX) cap
  rw [show ([1, 0, 0] : List UInt8).length = 3 from rfl] at kc ⊢
  have D := hid hb1
  clear OX hb1 K
  go_wp2_with fail
  go_ret
  exact ⟨rfl, D.out⟩
end Go.Proofs.Ytgnnikjpnmalmaa
