/-
  Layer 14: a disk that nobody made has nothing.
-/
import Derived.Test.YtoadcbegbkcigaaDiskNil
import Derived.Test.YtoadcbegbkcigaaDiskAlive
import Derived.BigQuiet
namespace Go.Proofs.Ytoadcbegbkcigaa
open Go.RowKit
set_option linter.unusedVariables false
set_option linter.unusedSimpArgs false

theorem dbelow_one (w : World) (o : Obj) : Below w.heap.size w (w.alloc o) := (Below.refl _ _).alloc (Nat.le_refl _) _
set_option maxRecDepth 100000 in
set_option maxHeartbeats 8000000 in
theorem diskNobody (z : Int) (qb : Option Addr) (nb cb : Nat) (qf : Option Addr) (nf cf : Nat) (w : World) : Calls Try.prog 6 #[.int .i64 z, .slice qb nb cb, .slice qf nf cf] w fun e w' => e = .returned (.bool true) ∧ Below w.heap.size w w' := by
  go_enter Try.func6, Try.ntmps6
  go_wp2_with fail
  have Bz := Blk.new w #[.bool false, .bool false, .slice none 0 0, .slice none 0 0, .map none, .map none, .bool false, .int .i64 0, .slice none 0 0, .bool false, .int .i64 0] 61
  have hbz := dbelow_one w (.cells #[.bool false, .bool false, .slice none 0 0, .slice none 0 0, .map none, .map none, .bool false, .int .i64 0, .slice none 0 0, .bool false, .int .i64 0] 61)
  generalize hW1 : w.alloc (.cells #[.bool false, .bool false, .slice none 0 0, .slice none 0 0, .map none, .map none, .bool false, .int .i64 0, .slice none 0 0, .bool false, .int .i64 0] 61) = W1 at *
  have hsz1 : W1.heap.size = w.heap.size + 1 := by rw [← hW1]; simp
  have Bs := Blk.new W1 #[.pointer none, .pointer (some ⟨w.heap.size, 0, none⟩)] 24
  have hbs := dbelow_one W1 (.cells #[.pointer none, .pointer (some ⟨w.heap.size, 0, none⟩)] 24)
  generalize hW2 : W1.alloc _ = W2 at *
  rw [hsz1] at Bs
  have M0 := hid (show NoDisk W2 (.pointer (some ⟨w.heap.size, 0, none⟩)) from .inr ⟨_, rfl, Bz.more hbs⟩)
  have N0 := hid (show NoDisk W2 (.pointer none) from .inl rfl)
  have S0 := hid Bs
  have D0 := hid (below2 hbz hbs hbz.size)
  clear hW1 hW2 Bz hbz Bs hbs hsz1

  refine wp_loop_rounds 3 ?_
  rw [rounds_succ]
  obtain ⟨l0, j0, f0⟩ := S0.out
  go_wp2_with fail
  have hv1 := dbelow_one W2 (.cells #[.slice qb nb cb] 35)
  have N1 := hid (N0.out.more hv1)
  have M1 := hid (M0.out.more hv1)
  have S1 := hid (S0.out.more hv1)
  have D1 := hid (below2 D0.out hv1 D0.out.size)
  replace hv1 := hid hv1
  refine (ndCut (.pointer none) z qf nf cf _ N0.out).mono ?_
  rintro e w' ⟨rfl, hw'⟩
  rw [hw']
  clear hw' w'
  go_wp2_with fail
  refine (ndPower (.pointer none) qf nf cf _ N0.out).mono ?_
  rintro e w' ⟨rfl, hw'⟩
  rw [hw']
  clear hw' w'
  go_wp2_with fail
  refine (ndFail (.pointer none) z _ N0.out).mono ?_
  rintro e w' ⟨rfl, hw'⟩
  rw [hw']
  clear hw' w'
  go_wp2_with fail
  generalize hV1 : World.alloc W2 _ = V1 at *
  clear hV1 hv1 l0 j0 f0
  obtain ⟨l0, j0, f0⟩ := S1.out
  refine (ndLoad (.pointer none) _ _ _ _ N1.out).mono ?_
  rintro e w' ⟨rfl, hw'⟩
  rw [hw']
  clear hw' w'
  go_wp2_with fail
  refine (ndRead (.pointer none) z _ N1.out).mono ?_
  rintro e w' ⟨rfl, hw'⟩
  rw [hw']
  clear hw' w'
  have KW := hid (fun (u : Later V1) => ndWrite (.pointer none) z qb nb cb u.val (N1.out.more u.h))
  have KF := hid (fun (u : Later V1) => ndFlush (.pointer none) u.val (N1.out.more u.h))
  have KC := hid (fun (u : Later V1) => ndCount (.pointer none) u.val (N1.out.more u.h))
  have KA := hid (fun (u : Later V1) => ndWaits (.pointer none) u.val (N1.out.more u.h))
  have KO := hid (fun (u : Later V1) => ndOdd (.pointer none) u.val (N1.out.more u.h))
  have q0 := fun u : Later V1 => u.blk S1.out
  go_wp2_with fail
  refine wp_region_late 45 (by kernel_rfl) (by kernel_rfl) ?_
  simp only [List.take_succ_cons, List.take_zero, List.drop_succ_cons, List.drop_zero]
  repeat (go_big_quiet_step (first
      | (go_at_call 15; with_reducible exact late_same (KW.out _))
      | (go_at_call 17; with_reducible exact late_same (KF.out _))
      | (go_at_call 14; with_reducible exact late_same (KC.out _))
      | (go_at_call 13; with_reducible exact late_same (KA.out _))
      | (go_at_call 12; with_reducible exact late_call (KO.out _))))
  refine wpQuiet_nil ?_
  intro X1 h1'
  have h1 := late_out h1'
  clear h1'
  have P1 := hid (M1.out.more h1)
  have R1 := hid (S1.out.more h1)
  have E1 := hid (below2 D1.out h1 D1.out.size)
  clear KW KF KC KA KO q0 h1 l0 j0 f0
  obtain ⟨l0, j0, f0⟩ := R1.out
  go_wp2_with fail
  rw [rounds_succ]
  go_wp2_with fail
  have hv2 := dbelow_one X1 (.cells #[.slice qb nb cb] 35)
  have N2 := hid (P1.out.more hv2)
  have M2 := hid (P1.out.more hv2)
  have S2 := hid (R1.out.more hv2)
  have D2 := hid (below2 E1.out hv2 E1.out.size)
  replace hv2 := hid hv2
  refine (ndCut (.pointer (some ⟨w.heap.size, 0, none⟩)) z qf nf cf _ P1.out).mono ?_
  rintro e w' ⟨rfl, hw'⟩
  rw [hw']
  clear hw' w'
  go_wp2_with fail
  refine (ndPower (.pointer (some ⟨w.heap.size, 0, none⟩)) qf nf cf _ P1.out).mono ?_
  rintro e w' ⟨rfl, hw'⟩
  rw [hw']
  clear hw' w'
  go_wp2_with fail
  refine (ndFail (.pointer (some ⟨w.heap.size, 0, none⟩)) z _ P1.out).mono ?_
  rintro e w' ⟨rfl, hw'⟩
  rw [hw']
  clear hw' w'
  go_wp2_with fail
  generalize hV2 : World.alloc X1 _ = V2 at *
  clear hV2 hv2 l0 j0 f0
  obtain ⟨l0, j0, f0⟩ := S2.out
  refine (ndLoad (.pointer (some ⟨w.heap.size, 0, none⟩)) _ _ _ _ N2.out).mono ?_
  rintro e w' ⟨rfl, hw'⟩
  rw [hw']
  clear hw' w'
  go_wp2_with fail
  refine (ndRead (.pointer (some ⟨w.heap.size, 0, none⟩)) z _ N2.out).mono ?_
  rintro e w' ⟨rfl, hw'⟩
  rw [hw']
  clear hw' w'
  have KW := hid (fun (u : Later V2) => ndWrite (.pointer (some ⟨w.heap.size, 0, none⟩)) z qb nb cb u.val (N2.out.more u.h))
  have KF := hid (fun (u : Later V2) => ndFlush (.pointer (some ⟨w.heap.size, 0, none⟩)) u.val (N2.out.more u.h))
  have KC := hid (fun (u : Later V2) => ndCount (.pointer (some ⟨w.heap.size, 0, none⟩)) u.val (N2.out.more u.h))
  have KA := hid (fun (u : Later V2) => ndWaits (.pointer (some ⟨w.heap.size, 0, none⟩)) u.val (N2.out.more u.h))
  have KO := hid (fun (u : Later V2) => ndOdd (.pointer (some ⟨w.heap.size, 0, none⟩)) u.val (N2.out.more u.h))
  have q0 := fun u : Later V2 => u.blk S2.out
  go_wp2_with fail
  refine wp_region_late 45 (by kernel_rfl) (by kernel_rfl) ?_
  simp only [List.take_succ_cons, List.take_zero, List.drop_succ_cons, List.drop_zero]
  repeat (go_big_quiet_step (first
      | (go_at_call 15; with_reducible exact late_same (KW.out _))
      | (go_at_call 17; with_reducible exact late_same (KF.out _))
      | (go_at_call 14; with_reducible exact late_same (KC.out _))
      | (go_at_call 13; with_reducible exact late_same (KA.out _))
      | (go_at_call 12; with_reducible exact late_call (KO.out _))))
  refine wpQuiet_nil ?_
  intro X2 h1'
  have h1 := late_out h1'
  clear h1'
  have P2 := hid (M2.out.more h1)
  have R2 := hid (S2.out.more h1)
  have E2 := hid (below2 D2.out h1 D2.out.size)
  clear KW KF KC KA KO q0 h1 l0 j0 f0
  obtain ⟨l0, j0, f0⟩ := R2.out
  go_wp2_with fail
  rw [rounds_succ]
  go_wp2_with fail
  refine (alive14 _).mono ?_
  rintro e w6 ⟨rfl, hb6⟩
  have hb7 := hid (below2 E2.out hb6 E2.out.size)
  clear hb6
  go_wp2_with fail
  go_ret
  exact ⟨rfl, hb7.out⟩
end Go.Proofs.Ytoadcbegbkcigaa
