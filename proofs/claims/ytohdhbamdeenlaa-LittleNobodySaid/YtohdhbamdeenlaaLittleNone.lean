/-
  Layer 1: of what nobody made nothing is told. The walk, but the page's example.
-/
import Derived.Test.YtohdhbamdeenlaaLittleNobody
import Derived.Deep.DeepCutAuto
namespace Go.Proofs.Ytohdhbamdeenlaa
open Go.RowKit
set_option linter.unusedVariables false
set_option linter.unusedSimpArgs false

set_option maxRecDepth 100000 in
set_option maxHeartbeats 8000000 in
theorem nobody_of (KA : ∀ w, Calls Try.prog 15 #[] w fun e w' => e = .returned (.bool true) ∧ Below w.heap.size w w') (n : Int) (hn : IntKind.i64.wrap n = n) (s : ByteArray) (w : World) :
    Calls Try.prog 5 #[.int .i64 n, .string s] w fun e w' => e = .returned (.bool true) ∧ Below w.heap.size w w' := by
  replace KA := hid KA
  have N1 := hid (fun w => num_nil n n w)
  have N2 := hid (fun w => text_nil s w)
  have N3 := hid (fun w => pad_nil n w)
  have N4 := hid done_nil
  have N5 := hid (fun w => inNum_nil n w)
  have N6 := hid (fun w => inText_nil n w)
  have N7 := hid left_nil
  have N8 := hid err_nil
  replace hn := hid hn
  go_enter Try.func5, Try.ntmps5
  go_wp2
  obtain ⟨B0, B1, B2, B3, H⟩ := @boxed4 w _ (out0 0) #[.pointer none, at' w.heap.size] (in0 0) #[.pointer none, at' (w.heap.size + 1 + 1)] 48 24 51 39 (Below.refl _ _)
  generalize (((w.alloc (.cells (out0 0) 48)).alloc (.cells #[.pointer none, at' w.heap.size] 24)).alloc (.cells (in0 0) 51)).alloc (.cells #[.pointer none, at' (w.heap.size + 1 + 1)] 39) = W at B0 B1 B2 B3 H ⊢
  have HB0 := hid B0
  have HB1 := hid B1
  have HB2 := hid B2
  have HB3 := hid B3
  replace H := hid H
  obtain ⟨l0, k0, f0⟩ := B0
  obtain ⟨l1, k1, f1⟩ := B1
  obtain ⟨l2, k2, f2⟩ := B2
  obtain ⟨l3, k3, f3⟩ := B3
  refine wp_loop_rounds 3 ?_
  rw [rounds_succ]
  go_wp2_with fail
  refine (N1.out _).mono ?_
  rintro e w9 ⟨rfl, rfl⟩
  go_wp2_with fail
  refine (N2.out _).mono ?_
  rintro e w9 ⟨rfl, rfl⟩
  go_wp2_with fail
  refine (N3.out _).mono ?_
  rintro e w9 ⟨rfl, rfl⟩
  go_wp2_with fail
  refine (N4.out _).mono ?_
  rintro e w9 ⟨rfl, rfl⟩
  go_wp2_with fail
  refine (N5.out _).mono ?_
  rintro e w9 ⟨rfl, rfl⟩
  go_wp2_with fail
  refine (N6.out _).mono ?_
  rintro e w9 ⟨rfl, rfl⟩
  go_wp2_with fail
  refine (N7.out _).mono ?_
  rintro e w9 ⟨rfl, rfl⟩
  go_wp2_with fail
  refine (N8.out _).mono ?_
  rintro e w9 ⟨rfl, rfl⟩
  go_wp2_with fail
  rw [rounds_succ]
  go_wp2_with fail
  refine (num_none n n _ _ HB0.out).mono ?_
  rintro e w1 ⟨rfl, hw⟩
  have hZ : ∃ e', Blk w1 w.heap.size (out0 e') ∧ Blk w1 (w.heap.size + 1) #[.pointer none, at' w.heap.size] ∧ Blk w1 (w.heap.size + 1 + 1) (in0 0) ∧ Blk w1 (w.heap.size + 1 + 1 + 1) #[.pointer none, at' (w.heap.size + 1 + 1)] ∧ Below w.heap.size w w1 := by
    rcases hw with rfl | rfl
    · exact ⟨0, HB0.out, HB1.out, HB2.out, HB3.out, H.out⟩
    · exact ⟨4, Blk.fill [_] 3 HB0.out (by simp), Blk.past (by omega) [_] 3 HB1.out, Blk.past (by omega) [_] 3 HB2.out, Blk.past (by omega) [_] 3 HB3.out, below_fill (Nat.le_refl _) [_] 3 H.out⟩
  obtain ⟨e', Z0, Z1, Z2, Z3, ZH⟩ := hZ
  have M2 := hid (text_none s e' _ _ Z0)
  have M3 := hid (pad_none n e' _ _ Z0 hn.out)
  have M4 := hid (done_none e' _ _ Z0)
  have M5 := hid (inNum_none n 0 _ _ Z2)
  have M6 := hid (inText_none n 0 _ _ Z2)
  have M7 := hid (left_none 0 _ _ Z2)
  have M8 := hid (err_none 0 _ _ Z2)
  replace ZH := hid ZH
  clear hw l0 k0 f0 l1 k1 f1 l2 k2 f2 l3 k3 f3 HB0 HB1 HB2 HB3 H N1 N2 N3 N4 N5 N6 N7 N8
  obtain ⟨l0, k0, f0⟩ := Z0
  obtain ⟨l1, k1, f1⟩ := Z1
  obtain ⟨l2, k2, f2⟩ := Z2
  obtain ⟨l3, k3, f3⟩ := Z3
  go_wp2_with fail
  refine M2.out.mono ?_
  rintro e w9 ⟨rfl, rfl⟩
  go_wp2_with fail
  refine M3.out.mono ?_
  rintro e w9 ⟨rfl, rfl⟩
  go_wp2_with fail
  refine M4.out.mono ?_
  rintro e w9 ⟨rfl, rfl⟩
  go_wp2_with fail
  refine M5.out.mono ?_
  rintro e w9 ⟨rfl, rfl⟩
  go_wp2_with fail
  refine M6.out.mono ?_
  rintro e w9 ⟨rfl, rfl⟩
  go_wp2_with fail
  refine M7.out.mono ?_
  rintro e w9 ⟨rfl, rfl⟩
  go_wp2_with fail
  refine M8.out.mono ?_
  rintro e w9 ⟨rfl, rfl⟩
  go_wp2_with fail
  rw [rounds_succ]
  go_wp2_with fail
  refine (KA.out _).mono ?_
  rintro e w2 ⟨rfl, hb⟩
  go_wp2
  go_ret
  exact ⟨rfl, below2 ZH.out hb ZH.out.size⟩
end Go.Proofs.Ytohdhbamdeenlaa
