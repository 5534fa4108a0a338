/-
  Layer 22: nodes that nobody made are none.
-/
import Derived.Test.YtghboanmiggcnaaGroveNil
import Derived.Test.YtghboanmiggcnaaNodeDef
import Derived.BigQuiet
import Derived.WideKeyElems
namespace Go.Proofs.Ytghboanmiggcnaa
open Go.RowKit Go.MapKept
set_option linter.unusedVariables false
set_option linter.unusedSimpArgs false

theorem gzero (w : World) : (zeroValue 29).run Try.prog w = .ok gnode0 w := by
  first | kernel_rfl | rfl
theorem glookup_empty (b : Nat) (k : Int) (w : World) (hb : w.heap[b]? = some (.map #[] 0)) : (Instr.lookup 71 (.map (some b)) (.int .i64 k) true).run Try.prog w = .ok (.tuple #[gnode0, .bool false]) w := by
  have hz := gzero w
  have hkey : IsKey (.int .i64) (.int .i64 k) := by simp [IsKey]
  simp [Instr.lookup, run_underlying Try.underlying71, Go.MapKept.run_getObj_map hb, run_checkKey Try.underlying3 hkey, hz, Result.andThen, Instr.findKey, Instr.findNow, Instr.findAsking]

set_option maxRecDepth 100000 in
theorem gnew (w : World) : Calls Try.prog 6 #[] w fun e w' => e = .returned (.pointer (some ⟨w.heap.size + 1, 0, none⟩)) ∧ w' = (w.alloc (.map #[] 0)).alloc (.cells #[.map (some w.heap.size)] 73) := by
  have hmm := @run_makeMap Try.prog
  go_enter Try.func6, Try.ntmps6
  go_wp2_with fail
  go_ret
  exact ⟨by simp, rfl⟩
set_option maxRecDepth 100000 in
theorem gfresh1 (p b : Nat) (w : World) (B : Blk w p #[.map (some b)]) (hb : w.heap[b]? = some (.map #[] 0)) : Calls Try.prog 14 #[.pointer (some ⟨p, 0, none⟩)] w fun e w' => e = .returned (.tuple #[.int .i64 1, .int .i64 0]) ∧ Below w.heap.size w w' := by
  have K := hid (gmadeOf p (some b) w B)
  have kl := fun k => glookup_empty b k w hb
  have D0 := hid (below_one w (.cells #[.bool false, .slice none 0 0, .int .i64 0, .int .i64 0, .int .i64 0, .int .i64 0, .int .i64 0, .int .i64 0, .int .i64 0, .int .i64 0, .int .i64 0] 29))
  obtain ⟨lb, kb, fb⟩ := B
  go_enter Try.func14, Try.ntmps14
  go_wp2_with fail
  refine K.out.mono ?_
  rintro e w1 ⟨rfl, hw⟩
  rw [hw]
  clear hw w1 K
  go_wp2_with fail
  refine wp_loop_rounds 1 ?_
  rw [rounds_succ]
  go_wp2_with fail
  go_ret2
  exact ⟨rfl, D0.out⟩
set_option maxRecDepth 100000 in
theorem alive22 (w : World) : Calls Try.prog 5 #[] w fun e w' => e = .returned (.bool true) ∧ Below w.heap.size w w' := by
  have K := hid (gnew w)
  have hb0 := ((Below.refl w.heap.size w).alloc (Nat.le_refl _) (.map #[] 0)).alloc (by simp) (.cells #[.map (some w.heap.size)] 73)
  have B := Blk.new (w.alloc (.map #[] 0)) #[.map (some w.heap.size)] 73
  have hm : ((w.alloc (.map #[] 0)).alloc (.cells #[.map (some w.heap.size)] 73)).heap[w.heap.size]? = some (.map #[] 0) := by
    rw [Below.heap_alloc _ _ _ (by simp)]
    exact heap_alloc_new w _
  have KF := hid (gfresh1 _ _ _ B hm)
  have hbh := hid hb0
  clear hb0 B hm
  rw [show (w.alloc (.map #[] 0)).heap.size = w.heap.size + 1 by simp] at KF
  go_enter Try.func5, Try.ntmps5
  go_wp2_with fail
  refine K.out.mono ?_
  rintro e w1 ⟨rfl, hw⟩
  rw [hw]
  clear hw w1 K
  go_wp2_with fail
  refine KF.out.mono ?_
  rintro e w2 ⟨rfl, hb2⟩
  have D2 := hid (below2 hbh.out hb2 hbh.out.size)
  clear hb2 KF
  go_wp2_with fail
  go_ret
  exact ⟨rfl, D2.out⟩

end Go.Proofs.Ytghboanmiggcnaa
