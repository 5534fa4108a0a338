/-
  poly.Cross: have two sides a place in common?
-/
import Derived.Test.YtohdhbamdeenlaaPolyOn
import Derived.Test.YtohdhbamdeenlaaAidMore
import Derived.Test.YtohdhbamdeenlaaRegionAlloc
import Derived.Deep.DeepCutAuto
namespace Go.Proofs.Ytohdhbamdeenlaa
open Go.RowKit
set_option linter.unusedVariables false
set_option linter.unusedSimpArgs false

def crossB (a b c d : P2) : Bool := (onB a b c || onB a b d || onB c d a || onB c d b) || (decide (tn a b c * tn a b d < 0) && decide (tn c d a * tn c d b < 0))

theorem tn_bd (a b c : P2) : -1 ≤ tn a b c ∧ tn a b c ≤ 1 := by
  unfold tn turnI cmpI; split <;> (try split) <;> omega
theorem sgn_prod {s t : Int} (h1 : -1 ≤ s) (h2 : s ≤ 1) (h3 : -1 ≤ t) (h4 : t ≤ 1) : IntKind.i64.wrap (s * t) = s * t := by
  have e1 : s = -1 ∨ s = 0 ∨ s = 1 := by omega
  have e2 : t = -1 ∨ t = 0 ∨ t = 1 := by omega
  rcases e1 with rfl | rfl | rfl <;> rcases e2 with rfl | rfl | rfl <;> rfl
theorem pl_makes (dst : Option Tmp) (ty : TypeId) (pos : String) (af : Array Edge) : Makes Try.prog { dst := dst, op := .alloc 122, type := ty, pos := pos, after := af, guard := none } #[.int .u32 0, .int .u32 0] :=
  ⟨rfl, _, rfl, fun w => by kernel_rfl⟩

theorem four_blk {W : World} {B p q r s : Nat} {w0 : World} {ax ay bx by' cx cy dx dy : Int} (hb : Below B w0 W) (hp : B ≤ p) (hq : B ≤ q) (hr : B ≤ r) (hs : B ≤ s)
    (Bp : Blk W p #[.int .u32 0, .int .u32 0]) (Bq : Blk W q #[.int .u32 0, .int .u32 0]) (Br : Blk W r #[.int .u32 0, .int .u32 0]) (Bs : Blk W s #[.int .u32 0, .int .u32 0])
    (n1 : p ≠ q) (n2 : p ≠ r) (n3 : p ≠ s) (n4 : q ≠ r) (n5 : q ≠ s) (n6 : r ≠ s) {W3 : World}
    (e : setAll (setAll (setAll (setAll W p 0 [.int .u32 ax, .int .u32 ay]) q 0 [.int .u32 bx, .int .u32 by']) r 0 [.int .u32 cx, .int .u32 cy]) s 0 [.int .u32 dx, .int .u32 dy] = W3) :
    Blk W3 p #[.int .u32 ax, .int .u32 ay] ∧ Blk W3 q #[.int .u32 bx, .int .u32 by'] ∧ Blk W3 r #[.int .u32 cx, .int .u32 cy] ∧ Blk W3 s #[.int .u32 dx, .int .u32 dy] ∧ Below B w0 W3 := by
  subst e
  exact ⟨Blk.past n3.symm _ 0 (Blk.past n2.symm _ 0 (Blk.past n1.symm _ 0 (Blk.fill _ 0 Bp (by simp)))), Blk.past n5.symm _ 0 (Blk.past n4.symm _ 0 (Blk.fill _ 0 (Blk.past n1 _ 0 Bq) (by simp))), Blk.past n6.symm _ 0 (Blk.fill _ 0 (Blk.past n4 _ 0 (Blk.past n2 _ 0 Br)) (by simp)), Blk.fill _ 0 (Blk.past n6 _ 0 (Blk.past n5 _ 0 (Blk.past n3 _ 0 Bs))) (by simp), below_fill hs _ 0 (below_fill hr _ 0 (below_fill hq _ 0 (below_fill hp _ 0 hb)))⟩

set_option maxRecDepth 100000 in
set_option maxHeartbeats 8000000 in
theorem cross_any (ia ib ic id' : Int) (a b c d : P2) (da db dc dd : Value) (ha : a.ok) (hb : b.ok) (hc : c.ok) (hd : d.ok) (w : World) :
    Calls Try.prog 49 #[pt ia a.x a.y da, pt ib b.x b.y db, pt ic c.x c.y dc, pt id' d.x d.y dd] w fun e w' => e = .returned (.bool (crossB a b c d)) ∧ Below w.heap.size w w' := by
  have F1 := hid (fun w => of2 ia a da w)
  have F2 := hid (fun w => of2 ib b db w)
  have F3 := hid (fun w => of2 ic c dc w)
  have F4 := hid (fun w => of2 id' d dd w)
  have O1 := hid (fun w => on_any a b c ha hb hc w)
  have O2 := hid (fun w => on_any a b d ha hb hd w)
  have O3 := hid (fun w => on_any c d a hc hd ha w)
  have O4 := hid (fun w => on_any c d b hc hd hb w)
  have T1 := hid (fun w => turn2 a b c ha hb hc w)
  have T2 := hid (fun w => turn2 a b d ha hb hd w)
  have T3 := hid (fun w => turn2 c d a hc hd ha w)
  have T4 := hid (fun w => turn2 c d b hc hd hb w)
  have m1 := sgn_prod (tn_bd a b c).1 (tn_bd a b c).2 (tn_bd a b d).1 (tn_bd a b d).2
  have m2 := sgn_prod (tn_bd c d a).1 (tn_bd c d a).2 (tn_bd c d b).1 (tn_bd c d b).2
  unfold crossB
  generalize onB a b c = o1 at *
  generalize onB a b d = o2 at *
  generalize onB c d a = o3 at *
  generalize onB c d b = o4 at *
  generalize tn a b c = t1 at *
  generalize tn a b d = t2 at *
  generalize tn c d a = t3 at *
  generalize tn c d b = t4 at *
  have ways : ∃ r, ((o1 || o2 || o3 || o4) || (decide (t1 * t2 < 0) && decide (t3 * t4 < 0))) = r ∧ ((o1 = true ∧ r = true) ∨ (o1 = false ∧ o2 = true ∧ r = true) ∨ (o1 = false ∧ o2 = false ∧ o3 = true ∧ r = true) ∨ (o1 = false ∧ o2 = false ∧ o3 = false ∧ o4 = true ∧ r = true) ∨
      (o1 = false ∧ o2 = false ∧ o3 = false ∧ o4 = false ∧ decide (t1 * t2 < 0) = false ∧ r = false) ∨ (o1 = false ∧ o2 = false ∧ o3 = false ∧ o4 = false ∧ t1 * t2 < 0 ∧ decide (t3 * t4 < 0) = false ∧ r = false) ∨ (o1 = false ∧ o2 = false ∧ o3 = false ∧ o4 = false ∧ t1 * t2 < 0 ∧ t3 * t4 < 0 ∧ r = true)) := by
    refine ⟨_, rfl, ?_⟩
    by_cases h1 : t1 * t2 < 0 <;> by_cases h2 : t3 * t4 < 0 <;> cases o1 <;> cases o2 <;> cases o3 <;> cases o4 <;> simp [h1, h2]
  obtain ⟨res, e, ways⟩ := ways
  rw [e]
  clear e ha hb hc hd
  obtain ⟨ax, ay⟩ := a
  obtain ⟨bx, by'⟩ := b
  obtain ⟨cx, cy⟩ := c
  obtain ⟨dx, dy⟩ := d
  simp only at *
  replace ways := hid ways
  go_enter Try.func49, Try.ntmps49
  go_wp2_with fail
  obtain ⟨B0, B1, B2, B3, H⟩ := @boxed4 w _ #[.int .i64 ia, .int .u32 ax, .int .u32 ay, da] #[.int .i64 ib, .int .u32 bx, .int .u32 by', db] #[.int .i64 ic, .int .u32 cx, .int .u32 cy, dc] #[.int .i64 id', .int .u32 dx, .int .u32 dy, dd] 86 86 86 86 (Below.refl _ _)
  generalize (((w.alloc (.cells #[.int .i64 ia, .int .u32 ax, .int .u32 ay, da] 86)).alloc (.cells #[.int .i64 ib, .int .u32 bx, .int .u32 by', db] 86)).alloc (.cells #[.int .i64 ic, .int .u32 cx, .int .u32 cy, dc] 86)).alloc (.cells #[.int .i64 id', .int .u32 dx, .int .u32 dy, dd] 86) = W at B0 B1 B2 B3 H ⊢
  replace B0 := hid B0
  replace B1 := hid B1
  replace B2 := hid B2
  replace B3 := hid B3
  have H1 := hid H
  clear H
  refine wp_region_late_alloc 8 [#[.int .u32 0, .int .u32 0], #[.int .u32 0, .int .u32 0], #[.int .u32 0, .int .u32 0], #[.int .u32 0, .int .u32 0]] ?A (by kernel_rfl) (by kernel_rfl) ?hz ?walk ?rest
  case hz =>
    rintro (_ | _ | _ | _ | i) z h
    · simp at h; subst h; exact ⟨_, rfl, pl_makes _ _ _ _⟩
    · simp at h; subst h; exact ⟨_, rfl, pl_makes _ _ _ _⟩
    · simp at h; subst h; exact ⟨_, rfl, pl_makes _ _ _ _⟩
    · simp at h; subst h; exact ⟨_, rfl, pl_makes _ _ _ _⟩
    · simp at h
  case walk =>
    intro S hS hN
    have q0 := fun u : LaterC W S => LaterC.blk B0.out u
    have q1 := fun u : LaterC W S => LaterC.blk B1.out u
    have q2 := fun u : LaterC W S => LaterC.blk B2.out u
    have q3 := fun u : LaterC W S => LaterC.blk B3.out u
    simp only [List.take_succ_cons, List.take_zero, List.drop_succ_cons, List.drop_zero]
    repeat (go_big_quiet_step (first
      | (go_at_call 77; first | (with_reducible exact latec_call hS (F1.out _)) | (with_reducible exact latec_call hS (F2.out _)) | (with_reducible exact latec_call hS (F3.out _)) | (with_reducible exact latec_call hS (F4.out _)))))
    refine wpQuiet_nil ?_
    rfl
  case rest =>
    intro β w5 hb5 hnew hne
    obtain ⟨g0, N0⟩ := hnew 0 _ rfl
    obtain ⟨g1, N1⟩ := hnew 1 _ rfl
    obtain ⟨g2, N2⟩ := hnew 2 _ rfl
    obtain ⟨g3, N3⟩ := hnew 3 _ rfl
    have n1 := hne 0 1 (by simp) (by simp) (by omega)
    have n2 := hne 0 2 (by simp) (by simp) (by omega)
    have n3 := hne 0 3 (by simp) (by simp) (by omega)
    have n4 := hne 1 2 (by simp) (by simp) (by omega)
    have n5 := hne 1 3 (by simp) (by simp) (by omega)
    have n6 := hne 2 3 (by simp) (by simp) (by omega)
    simp only [laid, puts, List.range', List.foldl_cons, List.foldl_nil, List.length_cons, List.length_nil]
    simp only [Nat.add_zero, Nat.reduceAdd] at g0 N0 g1 N1 g2 N2 g3 N3 n1 n2 n3 n4 n5 n6 ⊢
    generalize β 8 = p at *
    generalize β 9 = q at *
    generalize β 10 = r at *
    generalize β 11 = s at *
    have N0' := hid N0
    have N1' := hid N1
    have N2' := hid N2
    have N3' := hid N3
    obtain ⟨l0, k0, f0⟩ := N0
    obtain ⟨l1, k1, f1⟩ := N1
    obtain ⟨l2, k2, f2⟩ := N2
    obtain ⟨l3, k3, f3⟩ := N3
    have sz := H1.out.size
    have H5 := hid (below2 H1.out hb5 H1.out.size)
    clear hnew hne hb5 B0 B1 B2 B3 H1
    go_upto_region 2 with (fail)
    generalize hW : World.setCell _ _ _ = W3
    obtain ⟨Z0, Z1, Z2, Z3, H6⟩ := four_blk (W3 := W3) H5.out (by omega) (by omega) (by omega) (by omega) N0'.out N1'.out N2'.out N3'.out n1 n2 n3 n4 n5 n6 hW
    replace Z0 := hid Z0
    replace Z1 := hid Z1
    replace Z2 := hid Z2
    replace Z3 := hid Z3
    replace H6 := hid H6
    clear hW l0 k0 f0 l1 k1 f1 l2 k2 f2 l3 k3 f3 N0' N1' N2' N3' g0 g1 g2 g3 n1 n2 n3 n4 n5 n6 H5 F1 F2 F3 F4
    have ways := ways.out
    have step1 : ∀ w4, Below W3.heap.size W3 w4 → (Hid (Blk w4 p #[.int .u32 ax, .int .u32 ay]) ∧ Hid (Blk w4 q #[.int .u32 bx, .int .u32 by']) ∧ Hid (Blk w4 r #[.int .u32 cx, .int .u32 cy]) ∧ Hid (Blk w4 s #[.int .u32 dx, .int .u32 dy]) ∧ Hid (Below w.heap.size w w4)) :=
      fun w4 hb => ⟨hid (Z0.out.more hb), hid (Z1.out.more hb), hid (Z2.out.more hb), hid (Z3.out.more hb), hid (below2 H6.out hb H6.out.size)⟩
    replace step1 := hid step1
    rcases ways with ⟨rfl, rfl⟩ | ⟨rfl, rfl, rfl⟩ | ⟨rfl, rfl, rfl, rfl⟩ | ⟨rfl, rfl, rfl, rfl, rfl⟩ | ⟨rfl, rfl, rfl, rfl, g1, rfl⟩ | ⟨rfl, rfl, rfl, rfl, g1, g2, rfl⟩ | ⟨rfl, rfl, rfl, rfl, g1, g2, rfl⟩
    · obtain ⟨l0, k0, f0⟩ := Z0.out
      obtain ⟨l1, k1, f1⟩ := Z1.out
      obtain ⟨l2, k2, f2⟩ := Z2.out
      obtain ⟨l3, k3, f3⟩ := Z3.out
      go_wp2_with fail
      refine (O1.out _).mono ?_
      rintro e w4 ⟨rfl, hb4⟩
      obtain ⟨_, _, _, _, G⟩ := step1.out _ hb4
      clear l0 k0 f0 l1 k1 f1 l2 k2 f2 l3 k3 f3 hb4
      go_wp2
      go_ret
      exact ⟨rfl, G.out⟩
    all_goals
      obtain ⟨l0, k0, f0⟩ := Z0.out
      obtain ⟨l1, k1, f1⟩ := Z1.out
      obtain ⟨l2, k2, f2⟩ := Z2.out
      obtain ⟨l3, k3, f3⟩ := Z3.out
      go_wp2_with fail
      refine (O1.out _).mono ?_
      rintro e w4 ⟨rfl, hb4⟩
      obtain ⟨Y0, Y1, Y2, Y3, G⟩ := step1.out _ hb4
      clear l0 k0 f0 l1 k1 f1 l2 k2 f2 l3 k3 f3 hb4 step1 Z0 Z1 Z2 Z3 H6
      obtain ⟨l0, k0, f0⟩ := Y0.out
      obtain ⟨l1, k1, f1⟩ := Y1.out
      obtain ⟨l2, k2, f2⟩ := Y2.out
      obtain ⟨l3, k3, f3⟩ := Y3.out
      go_wp2_with fail
      refine (O2.out _).mono ?_
      rintro e w5 ⟨rfl, hb5⟩
      have X0 := hid (Y0.out.more hb5)
      have X1 := hid (Y1.out.more hb5)
      have X2 := hid (Y2.out.more hb5)
      have X3 := hid (Y3.out.more hb5)
      have G2 := hid (below2 G.out hb5 G.out.size)
      clear l0 k0 f0 l1 k1 f1 l2 k2 f2 l3 k3 f3 hb5 Y0 Y1 Y2 Y3 G
    · go_wp2
      go_ret
      exact ⟨rfl, G2.out⟩
    all_goals
      obtain ⟨l0, k0, f0⟩ := X0.out
      obtain ⟨l1, k1, f1⟩ := X1.out
      obtain ⟨l2, k2, f2⟩ := X2.out
      obtain ⟨l3, k3, f3⟩ := X3.out
      go_wp2_with fail
      refine (O3.out _).mono ?_
      rintro e w6 ⟨rfl, hb6⟩
      have V0 := hid (X0.out.more hb6)
      have V1 := hid (X1.out.more hb6)
      have V2 := hid (X2.out.more hb6)
      have V3 := hid (X3.out.more hb6)
      have G3 := hid (below2 G2.out hb6 G2.out.size)
      clear l0 k0 f0 l1 k1 f1 l2 k2 f2 l3 k3 f3 hb6 X0 X1 X2 X3 G2
    · go_wp2
      go_ret
      exact ⟨rfl, G3.out⟩
    all_goals
      obtain ⟨l0, k0, f0⟩ := V0.out
      obtain ⟨l1, k1, f1⟩ := V1.out
      obtain ⟨l2, k2, f2⟩ := V2.out
      obtain ⟨l3, k3, f3⟩ := V3.out
      go_wp2_with fail
      refine (O4.out _).mono ?_
      rintro e w7 ⟨rfl, hb7⟩
      have U0 := hid (V0.out.more hb7)
      have U1 := hid (V1.out.more hb7)
      have U2 := hid (V2.out.more hb7)
      have U3 := hid (V3.out.more hb7)
      have G4 := hid (below2 G3.out hb7 G3.out.size)
      clear l0 k0 f0 l1 k1 f1 l2 k2 f2 l3 k3 f3 hb7 V0 V1 V2 V3 G3
    · go_wp2
      go_ret
      exact ⟨rfl, G4.out⟩
    all_goals
      have q0 := fun u : Later w7 => u.blk U0.out
      have q1 := fun u : Later w7 => u.blk U1.out
      have q2 := fun u : Later w7 => u.blk U2.out
      have q3 := fun u : Later w7 => u.blk U3.out
      clear U0 U1 U2 U3 O1 O2 O3 O4
      go_upto_region 4 with (fail)
      refine wp_region_late 22 (by kernel_rfl) (by kernel_rfl) ?_
      simp only [List.take_succ_cons, List.take_zero, List.drop_succ_cons, List.drop_zero]
      repeat (go_big_quiet_step ((go_at_call 79; first | (with_reducible exact late_call (T1.out _)) | (with_reducible exact late_call (T2.out _)) | (with_reducible exact late_call (T3.out _)) | (with_reducible exact late_call (T4.out _)))))
      refine wpQuiet_nil ?_
      intro w8 h8'
      have h8 := late_out h8'
      clear h8'
      go_wp2
      go_ret
      exact ⟨rfl, G4.out.trans (h8.mono G4.out.size)⟩
end Go.Proofs.Ytohdhbamdeenlaa
