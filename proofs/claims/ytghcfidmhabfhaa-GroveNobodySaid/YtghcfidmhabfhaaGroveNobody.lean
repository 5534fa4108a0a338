/-
  Layer 22: nodes that nobody made are none.
-/
import Derived.Test.YtghcfidmhabfhaaGroveNil
import Derived.Test.YtghcfidmhabfhaaNodeDef
import Derived.BigQuiet
import Derived.WideKeyElems
namespace Go.Proofs.Ytghcfidmhabfhaa
open Go.RowKit Go.MapKept
set_option linter.unusedVariables false
set_option linter.unusedSimpArgs false

theorem gzero (w : World) : (zeroValue 52).run Try.prog w = .ok gnode0 w := by
  first | kernel_rfl | rfl
theorem glookup_empty (b : Nat) (k : Int) (w : World) (hb : w.heap[b]? = some (.map #[] 0)) : (Instr.lookup 54 (.map (some b)) (.int .i64 k) true).run Try.prog w = .ok (.tuple #[gnode0, .bool false]) w := by
  have hz := gzero w
  have hkey : IsKey (.int .i64) (.int .i64 k) := by simp [IsKey]
  simp [Instr.lookup, run_underlying Try.underlying54, Go.MapKept.run_getObj_map hb, run_checkKey Try.underlying3 hkey, hz, Result.andThen, Instr.findKey, Instr.findNow, Instr.findAsking]

set_option maxRecDepth 100000 in
theorem gnew (w : World) : Calls Try.prog 50 #[] w fun e w' => e = .returned (.pointer (some ⟨w.heap.size + 1, 0, none⟩)) ∧ w' = (w.alloc (.map #[] 0)).alloc (.cells #[.map (some w.heap.size)] 56) := by
  have hmm := @run_makeMap Try.prog
  go_enter Try.func50, Try.ntmps50
  go_wp2_with fail
  go_ret
  exact ⟨by simp, rfl⟩
set_option maxRecDepth 100000 in
theorem gfresh1 (p b : Nat) (w : World) (B : Blk w p #[.map (some b)]) (hb : w.heap[b]? = some (.map #[] 0)) : Calls Try.prog 18 #[.pointer (some ⟨p, 0, none⟩)] w fun e w' => e = .returned (.tuple #[.int .i64 1, .int .i64 0]) ∧ Below w.heap.size w w' := by
  have K := hid (gmadeOf p (some b) w B)
  have kl := fun k => glookup_empty b k w hb
  have D0 := hid (below_one w (.cells #[.bool false, .slice none 0 0, .int .i64 0, .int .i64 0, .int .i64 0, .int .i64 0, .int .i64 0, .int .i64 0, .int .i64 0, .int .i64 0, .int .i64 0] 52))
  obtain ⟨lb, kb, fb⟩ := B
  go_enter Try.func18, Try.ntmps18
  go_wp2_with fail
  refine K.out.mono ?_
  rintro e w1 ⟨rfl, hw⟩
  rw [hw]
  clear hw w1 K
  go_wp2_with fail
  refine wp_loop_rounds 1 ?_
  rw [rounds_succ]
  go_wp2_with fail
  go_ret2
  exact ⟨rfl, D0.out⟩
set_option maxRecDepth 100000 in
theorem alive22 (w : World) : Calls Try.prog 24 #[] w fun e w' => e = .returned (.bool true) ∧ Below w.heap.size w w' := by
  have K := hid (gnew w)
  have hb0 := ((Below.refl w.heap.size w).alloc (Nat.le_refl _) (.map #[] 0)).alloc (by simp) (.cells #[.map (some w.heap.size)] 56)
  have B := Blk.new (w.alloc (.map #[] 0)) #[.map (some w.heap.size)] 56
  have hm : ((w.alloc (.map #[] 0)).alloc (.cells #[.map (some w.heap.size)] 56)).heap[w.heap.size]? = some (.map #[] 0) := by
    rw [Below.heap_alloc _ _ _ (by simp)]
    exact heap_alloc_new w _
  have KF := hid (gfresh1 _ _ _ B hm)
  have hbh := hid hb0
  clear hb0 B hm
  rw [show (w.alloc (.map #[] 0)).heap.size = w.heap.size + 1 by simp] at KF
  go_enter Try.func24, Try.ntmps24
  go_wp2_with fail
  refine K.out.mono ?_
  rintro e w1 ⟨rfl, hw⟩
  rw [hw]
  clear hw w1 K
  go_wp2_with fail
  refine KF.out.mono ?_
  rintro e w2 ⟨rfl, hb2⟩
  have D2 := hid (below2 hbh.out hb2 hbh.out.size)
  clear hb2 KF
  go_wp2_with fail
  go_ret
  exact ⟨rfl, D2.out⟩

set_option maxRecDepth 100000 in
set_option maxHeartbeats 8000000 in
theorem groveNobody (id : Int) (lf : Bool) (v : Value) (nx : Int) (k c : Nat → Int) (w : World) : Calls Try.prog 4 #[.int .i64 id, ndval lf v nx k c] w fun e w' => e = .returned (.bool true) ∧ Below w.heap.size w w' := by
  dsimp only [ndval]
  generalize k 0 = k0
  generalize k 1 = k1
  generalize k 2 = k2
  generalize k 3 = k3
  generalize c 0 = c0
  generalize c 1 = c1
  generalize c 2 = c2
  generalize c 3 = c3
  obtain ⟨cs, hcs⟩ : ∃ cs : Array Value, cs = #[.bool lf, v, .int .i64 nx, .int .i64 k0, .int .i64 k1, .int .i64 k2, .int .i64 k3, .int .i64 c0, .int .i64 c1, .int .i64 c2, .int .i64 c3] := ⟨_, rfl⟩
  have BX := Blk.new w cs 52
  have hb0 := below_one w (.cells cs 52)
  rw [hcs] at BX hb0
  go_enter Try.func4, Try.ntmps4
  go_wp2_with fail
  generalize hW0 : w.alloc _ = W0 at *
  have hsz : W0.heap.size = w.heap.size + 1 := by rw [← hW0]; simp
  have Bz := Blk.new W0 #[.map none] 56
  have hbz := below_one W0 (.cells #[.map none] 56)
  generalize hW1 : W0.alloc (.cells #[.map none] 56) = W1 at *
  have hsz1 : W1.heap.size = w.heap.size + 1 + 1 := by rw [← hW1]; simp [hsz]
  have Bs := Blk.new W1 #[.pointer none, .pointer (some ⟨w.heap.size + 1, 0, none⟩)] 53
  have hbs := below_one W1 (.cells #[.pointer none, .pointer (some ⟨w.heap.size + 1, 0, none⟩)] 53)
  generalize hW2 : W1.alloc _ = W2 at *
  rw [hsz] at Bz
  rw [hsz1] at Bs
  have M0 := hid (show NoGrove W2 (.pointer (some ⟨w.heap.size + 1, 0, none⟩)) from .inr ⟨_, rfl, Bz.more hbs⟩)
  have N0 := hid (show NoGrove W2 (.pointer none) from .inl rfl)
  have S0 := hid Bs
  have X0 := hid ((BX.more hbz).more hbs)
  have D0 := hid (below2 (below2 hb0 hbz hb0.size) hbs (below2 hb0 hbz hb0.size).size)
  clear hcs hW0 hW1 hW2 BX hb0 Bz hbz Bs hbs hsz hsz1
  generalize w.heap.size + 1 = g1 at *
  refine wp_loop_rounds 3 ?_
  rw [rounds_succ]
  obtain ⟨l0, j0, f0⟩ := S0.out
  go_wp2_with fail
  refine (ngGet (.pointer none) id _ N0.out).mono ?_
  rintro e U1 ⟨rfl, hu1⟩
  have hv1 := hu1.trans ((below_one U1 (.cells #[.bool false, .slice none 0 0, .int .i64 0, .int .i64 0, .int .i64 0, .int .i64 0, .int .i64 0, .int .i64 0, .int .i64 0, .int .i64 0, .int .i64 0] 52)).mono hu1.size)
  have N1 := hid (N0.out.more hv1)
  have M1 := hid (M0.out.more hv1)
  have S1 := hid (S0.out.more hv1)
  have X1 := hid (X0.out.more hv1)
  have D1 := hid (below2 D0.out hv1 D0.out.size)
  have S1u := S0.out.more hu1
  clear hu1 hv1 l0 j0 f0
  obtain ⟨l0, j0, f0⟩ := S1u
  go_wp2_with fail
  generalize hV1 : U1.alloc _ = V1 at *
  clear l0 j0 f0
  obtain ⟨l0, j0, f0⟩ := S1.out
  go_wp2_with fail
  refine (ngFresh (.pointer none) _ N1.out).mono ?_
  rintro e w' ⟨rfl, hw'⟩
  rw [hw']
  clear hw' w'
  have KPut := hid (fun (u : Later V1) => ngPut (.pointer none) id #[.bool lf, v, .int .i64 nx, .int .i64 k0, .int .i64 k1, .int .i64 k2, .int .i64 k3, .int .i64 c0, .int .i64 c1, .int .i64 c2, .int .i64 c3] u.val (N1.out.more u.h))
  have KDrop := hid (fun (u : Later V1) => ngDrop (.pointer none) id u.val (N1.out.more u.h))
  have KIds := hid (fun (u : Later V1) => ngIds (.pointer none) u.val (N1.out.more u.h))
  have KCh := hid (fun (u : Later V1) => ngChanged (.pointer none) u.val (N1.out.more u.h))
  have KCl := hid (fun (u : Later V1) => ngClone (.pointer none) u.val (N1.out.more u.h))
  have q0 := fun u : Later V1 => u.blk S1.out
  have q1 := fun u : Later V1 => u.blk X1.out
  go_upto_region 8 with (fail)
  refine wp_region_late 46 (by kernel_rfl) (by kernel_rfl) ?_
  simp only [List.take_succ_cons, List.take_zero, List.drop_succ_cons, List.drop_zero]
  repeat (go_big_quiet_step (first
      | (go_at_call 19; with_reducible exact late_call (KPut.out _))
      | (go_at_call 20; with_reducible exact late_call (KDrop.out _))
      | (go_at_call 21; with_reducible exact late_call (KIds.out _))
      | (go_at_call 22; with_reducible exact late_same (KCh.out _))
      | (go_at_call 23; with_reducible exact late_same (KCl.out _))))
  refine wpQuiet_nil ?_
  intro W2 h1'
  have h1 := late_out h1'
  clear h1'
  have M2 := hid (M1.out.more h1)
  have S2 := hid (S1.out.more h1)
  have X2 := hid (X1.out.more h1)
  have D2 := hid (below2 D1.out h1 D1.out.size)
  clear KPut KDrop KIds KCh KCl q0 q1 h1 l0 j0 f0
  obtain ⟨l0, j0, f0⟩ := S2.out
  go_wp2_with fail
  rw [rounds_succ]
  go_wp2_with fail
  have N2 := M2
  refine (ngGet (.pointer (some ⟨g1, 0, none⟩)) id _ N2.out).mono ?_
  rintro e U3 ⟨rfl, hu3⟩
  have hv3 := hu3.trans ((below_one U3 (.cells #[.bool false, .slice none 0 0, .int .i64 0, .int .i64 0, .int .i64 0, .int .i64 0, .int .i64 0, .int .i64 0, .int .i64 0, .int .i64 0, .int .i64 0] 52)).mono hu3.size)
  have N3 := hid (N2.out.more hv3)
  have M3 := N3
  have S3 := hid (S2.out.more hv3)
  have X3 := hid (X2.out.more hv3)
  have D3 := hid (below2 D2.out hv3 D2.out.size)
  have S3u := S2.out.more hu3
  clear hu3 hv3 l0 j0 f0
  obtain ⟨l0, j0, f0⟩ := S3u
  go_wp2_with fail
  generalize hV3 : U3.alloc _ = V3 at *
  clear l0 j0 f0
  obtain ⟨l0, j0, f0⟩ := S3.out
  go_wp2_with fail
  refine (ngFresh (.pointer (some ⟨g1, 0, none⟩)) _ N3.out).mono ?_
  rintro e w' ⟨rfl, hw'⟩
  rw [hw']
  clear hw' w'
  have KPut := hid (fun (u : Later V3) => ngPut (.pointer (some ⟨g1, 0, none⟩)) id #[.bool lf, v, .int .i64 nx, .int .i64 k0, .int .i64 k1, .int .i64 k2, .int .i64 k3, .int .i64 c0, .int .i64 c1, .int .i64 c2, .int .i64 c3] u.val (N3.out.more u.h))
  have KDrop := hid (fun (u : Later V3) => ngDrop (.pointer (some ⟨g1, 0, none⟩)) id u.val (N3.out.more u.h))
  have KIds := hid (fun (u : Later V3) => ngIds (.pointer (some ⟨g1, 0, none⟩)) u.val (N3.out.more u.h))
  have KCh := hid (fun (u : Later V3) => ngChanged (.pointer (some ⟨g1, 0, none⟩)) u.val (N3.out.more u.h))
  have KCl := hid (fun (u : Later V3) => ngClone (.pointer (some ⟨g1, 0, none⟩)) u.val (N3.out.more u.h))
  have q0 := fun u : Later V3 => u.blk S3.out
  have q1 := fun u : Later V3 => u.blk X3.out
  go_upto_region 8 with (fail)
  refine wp_region_late 46 (by kernel_rfl) (by kernel_rfl) ?_
  simp only [List.take_succ_cons, List.take_zero, List.drop_succ_cons, List.drop_zero]
  repeat (go_big_quiet_step (first
      | (go_at_call 19; with_reducible exact late_call (KPut.out _))
      | (go_at_call 20; with_reducible exact late_call (KDrop.out _))
      | (go_at_call 21; with_reducible exact late_call (KIds.out _))
      | (go_at_call 22; with_reducible exact late_same (KCh.out _))
      | (go_at_call 23; with_reducible exact late_same (KCl.out _))))
  refine wpQuiet_nil ?_
  intro W4 h3'
  have h3 := late_out h3'
  clear h3'
  have M4 := hid (M3.out.more h3)
  have S4 := hid (S3.out.more h3)
  have X4 := hid (X3.out.more h3)
  have D4 := hid (below2 D3.out h3 D3.out.size)
  clear KPut KDrop KIds KCh KCl q0 q1 h3 l0 j0 f0
  obtain ⟨l0, j0, f0⟩ := S4.out
  go_wp2_with fail
  rw [rounds_succ]
  go_wp2_with fail
  refine (alive22 _).mono ?_
  rintro e w6 ⟨rfl, hb6⟩
  have hb7 := hid (below2 D4.out hb6 D4.out.size)
  clear hb6
  go_wp2_with fail
  go_ret
  exact ⟨rfl, hb7.out⟩
end Go.Proofs.Ytghcfidmhabfhaa
