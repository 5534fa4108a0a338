/-
  Layer 34: the walk of PolyCrosses.
-/
import Derived.Test.YtohdhbamdeenlaaPolyCrossLaw
import Derived.Test.YtohdhbamdeenlaaPolyCut4
namespace Go.Proofs.Ytohdhbamdeenlaa
open Go.RowKit
set_option linter.unusedVariables false
set_option linter.unusedSimpArgs false

/-- What the law wants, after so many rounds. -/
def wk (w0 o1 o2 o3 o4 : Bool) : Nat → Bool
  | 0 => w0
  | 1 => w0 || o1 || o2
  | _ => (w0 || o1 || o2) || o3 || o4

set_option maxRecDepth 100000 in
set_option maxHeartbeats 16000000 in
theorem polyCrosses (ia ib ic id' : Int) (a b c d : P2) (da db dc dd : Value) (ha : a.ok) (hb : b.ok) (hc : c.ok) (hd : d.ok) (w : World) :
    Calls Try.prog 12 #[pt ia a.x a.y da, pt ib b.x b.y db, pt ic c.x c.y dc, pt id' d.x d.y dd] w fun e w' => e = .returned (.bool true) ∧ Below w.heap.size w w' := by
  have KX := fun w => cross_any ia ib ic id' a b c d da db dc dd ha hb hc hd w
  have KB := fun w => cross_any ib ia ic id' b a c d db da dc dd hb ha hc hd w
  have KO := fun w => cross_any ic id' ia ib c d a b dc dd da db hc hd ha hb w
  have KI := fun w => cross_any ia ib ia ib a b a b da db da db ha hb ha hb w
  have KM := fun w => cross_any ia ib ib ic a b b c da db db dc ha hb hb hc w
  rw [crossB_swap] at KB
  rw [crossB_turn] at KO
  rw [crossB_self] at KI
  rw [crossB_meet] at KM
  have la : (P2.mk (sm a.x) (sm a.y)).low := ⟨(sm_bd _).1, (sm_bd _).2, (sm_bd _).1, (sm_bd _).2⟩
  have lb : (P2.mk (sm b.x) (sm b.y)).low := ⟨(sm_bd _).1, (sm_bd _).2, (sm_bd _).1, (sm_bd _).2⟩
  have lc : (P2.mk (sm c.x) (sm c.y)).low := ⟨(sm_bd _).1, (sm_bd _).2, (sm_bd _).1, (sm_bd _).2⟩
  have ld : (P2.mk (sm d.x) (sm d.y)).low := ⟨(sm_bd _).1, (sm_bd _).2, (sm_bd _).1, (sm_bd _).2⟩
  have KS := fun w => cross_any ia ib ic id' _ _ _ _ es es es es la.ok lb.ok lc.ok ld.ok w
  have L1 : ∀ w g o cap, _ → _ := fun w g o cap R => lawon_any ia ib ic _ _ _ es la lb lc w g o cap R
  have L2 : ∀ w g o cap, _ → _ := fun w g o cap R => lawon_any ic id' ia _ _ _ es lc ld la w g o cap R
  have L3 : ∀ w g o cap, _ → _ := fun w g o cap R => lawon_any ia ib id' _ _ _ es la lb ld w g o cap R
  have L4 : ∀ w g o cap, _ → _ := fun w g o cap R => lawon_any ic id' ib _ _ _ es lc ld lb w g o cap R
  have T1 : ∀ w, Calls Try.prog 51 #[pt ia a.x a.y da, pt ib b.x b.y db, pt ic c.x c.y dc] w fun e w' => e = .returned (.int .i64 (tn ⟨sm a.x, sm a.y⟩ ⟨sm b.x, sm b.y⟩ ⟨sm c.x, sm c.y⟩)) ∧ Below w.heap.size w w' := fun w => lawturn_any ia ib ic a.x a.y b.x b.y c.x c.y da db dc ha.1 ha.2.1 ha.2.2.1 ha.2.2.2 hb.1 hb.2.1 hb.2.2.1 hb.2.2.2 hc.1 hc.2.1 hc.2.2.1 hc.2.2.2 w
  have T2 : ∀ w, Calls Try.prog 51 #[pt ia a.x a.y da, pt ib b.x b.y db, pt id' d.x d.y dd] w fun e w' => e = .returned (.int .i64 (tn ⟨sm a.x, sm a.y⟩ ⟨sm b.x, sm b.y⟩ ⟨sm d.x, sm d.y⟩)) ∧ Below w.heap.size w w' := fun w => lawturn_any ia ib id' a.x a.y b.x b.y d.x d.y da db dd ha.1 ha.2.1 ha.2.2.1 ha.2.2.2 hb.1 hb.2.1 hb.2.2.1 hb.2.2.2 hd.1 hd.2.1 hd.2.2.1 hd.2.2.2 w
  have T3 : ∀ w, Calls Try.prog 51 #[pt ic c.x c.y dc, pt id' d.x d.y dd, pt ia a.x a.y da] w fun e w' => e = .returned (.int .i64 (tn ⟨sm c.x, sm c.y⟩ ⟨sm d.x, sm d.y⟩ ⟨sm a.x, sm a.y⟩)) ∧ Below w.heap.size w w' := fun w => lawturn_any ic id' ia c.x c.y d.x d.y a.x a.y dc dd da hc.1 hc.2.1 hc.2.2.1 hc.2.2.2 hd.1 hd.2.1 hd.2.2.1 hd.2.2.2 ha.1 ha.2.1 ha.2.2.1 ha.2.2.2 w
  have T4 : ∀ w, Calls Try.prog 51 #[pt ic c.x c.y dc, pt id' d.x d.y dd, pt ib b.x b.y db] w fun e w' => e = .returned (.int .i64 (tn ⟨sm c.x, sm c.y⟩ ⟨sm d.x, sm d.y⟩ ⟨sm b.x, sm b.y⟩)) ∧ Below w.heap.size w w' := fun w => lawturn_any ic id' ib c.x c.y d.x d.y b.x b.y dc dd db hc.1 hc.2.1 hc.2.2.1 hc.2.2.2 hd.1 hd.2.1 hd.2.2.1 hd.2.2.2 hb.1 hb.2.1 hb.2.2.1 hb.2.2.2 w
  have KC := hid (fun b0 w B => cut4_any b0 ia a.x a.y ib b.x b.y ic c.x c.y id' d.x d.y da db dc dd ha.1 ha.2.1 ha.2.2.1 ha.2.2.2 hb.1 hb.2.1 hb.2.2.1 hb.2.2.2 hc.1 hc.2.1 hc.2.2.1 hc.2.2.2 hd.1 hd.2.1 hd.2.2.1 hd.2.2.2 w B)
  rw [crossB_steps] at KS
  have m1 := sgn_prod (tn_bd ⟨sm a.x, sm a.y⟩ ⟨sm b.x, sm b.y⟩ ⟨sm c.x, sm c.y⟩).1 (tn_bd _ _ _).2 (tn_bd ⟨sm a.x, sm a.y⟩ ⟨sm b.x, sm b.y⟩ ⟨sm d.x, sm d.y⟩).1 (tn_bd _ _ _).2
  have m2 := sgn_prod (tn_bd ⟨sm c.x, sm c.y⟩ ⟨sm d.x, sm d.y⟩ ⟨sm a.x, sm a.y⟩).1 (tn_bd _ _ _).2 (tn_bd ⟨sm c.x, sm c.y⟩ ⟨sm d.x, sm d.y⟩ ⟨sm b.x, sm b.y⟩).1 (tn_bd _ _ _).2
  replace KX := hid KX
  replace KB := hid KB
  replace KO := hid KO
  replace KI := hid KI
  replace KM := hid KM
  replace KS := hid KS
  replace L1 := hid L1
  replace L2 := hid L2
  replace L3 := hid L3
  replace L4 := hid L4
  replace T1 := hid T1
  replace T2 := hid T2
  replace T3 := hid T3
  replace T4 := hid T4
  clear la lb lc ld ha hb hc hd
  generalize crossB a b c d = X at *
  generalize tn ⟨sm a.x, sm a.y⟩ ⟨sm b.x, sm b.y⟩ ⟨sm c.x, sm c.y⟩ = t1 at *
  generalize tn ⟨sm a.x, sm a.y⟩ ⟨sm b.x, sm b.y⟩ ⟨sm d.x, sm d.y⟩ = t2 at *
  generalize tn ⟨sm c.x, sm c.y⟩ ⟨sm d.x, sm d.y⟩ ⟨sm a.x, sm a.y⟩ = t3 at *
  generalize tn ⟨sm c.x, sm c.y⟩ ⟨sm d.x, sm d.y⟩ ⟨sm b.x, sm b.y⟩ = t4 at *
  generalize onB ⟨sm a.x, sm a.y⟩ ⟨sm b.x, sm b.y⟩ ⟨sm c.x, sm c.y⟩ = o1 at *
  generalize onB ⟨sm c.x, sm c.y⟩ ⟨sm d.x, sm d.y⟩ ⟨sm a.x, sm a.y⟩ = o2 at *
  generalize onB ⟨sm a.x, sm a.y⟩ ⟨sm b.x, sm b.y⟩ ⟨sm d.x, sm d.y⟩ = o3 at *
  generalize onB ⟨sm c.x, sm c.y⟩ ⟨sm d.x, sm d.y⟩ ⟨sm b.x, sm b.y⟩ = o4 at *
  obtain ⟨ax, ay⟩ := a
  obtain ⟨bx, by'⟩ := b
  obtain ⟨cx, cy⟩ := c
  obtain ⟨dx, dy⟩ := d
  simp only at *
  have W0 : ∃ w0, (decide (t1 * t2 < 0) && decide (t3 * t4 < 0)) = w0 ∧ ((t1 * t2 < 0 ∧ t3 * t4 < 0 ∧ w0 = true) ∨ (decide (t1 * t2 < 0) = false ∧ w0 = false) ∨ (t1 * t2 < 0 ∧ decide (t3 * t4 < 0) = false ∧ w0 = false)) := by
    refine ⟨_, rfl, ?_⟩
    by_cases h1 : t1 * t2 < 0 <;> by_cases h2 : t3 * t4 < 0 <;> simp [h1, h2]
  obtain ⟨w0, e0, W0⟩ := W0
  rw [e0] at KS
  clear e0
  replace W0 := hid W0
  replace m1 := hid m1
  replace m2 := hid m2
  generalize sm ax = X1 at *
  generalize sm ay = Y1 at *
  generalize sm bx = X2 at *
  generalize sm by' = Y2 at *
  generalize sm cx = X3 at *
  generalize sm cy = Y3 at *
  generalize sm dx = X4 at *
  generalize sm dy = Y4 at *
  go_enter Try.func12, Try.ntmps12
  go_wp2_with fail
  refine (alive34 _).mono ?_
  rintro e w1 ⟨rfl, hb1⟩
  obtain ⟨P0, P1, P2, P3, H⟩ := boxed4 hb1
  have HB0 := hid P0
  have HB1 := hid P1
  have HB2 := hid P2
  have HB3 := hid P3
  have H1 := hid H
  obtain ⟨l0, k0, f0⟩ := P0
  obtain ⟨l1, k1, f1⟩ := P1
  obtain ⟨l2, k2, f2⟩ := P2
  obtain ⟨l3, k3, f3⟩ := P3
  clear hb1 H
  go_wp2_with fail
  refine (KX.out _).mono ?_
  rintro e w2 ⟨rfl, hb2⟩
  have HC0 := hid (HB0.out.more hb2)
  have HC1 := hid (HB1.out.more hb2)
  have HC2 := hid (HB2.out.more hb2)
  have HC3 := hid (HB3.out.more hb2)
  have H2 := hid (below2 H1.out hb2 H1.out.size)
  clear l0 k0 f0 l1 k1 f1 l2 k2 f2 l3 k3 f3 HB0 HB1 HB2 HB3 H1 hb2 KX
  obtain ⟨l0, k0, f0⟩ := HC0.out
  obtain ⟨l1, k1, f1⟩ := HC1.out
  obtain ⟨l2, k2, f2⟩ := HC2.out
  obtain ⟨l3, k3, f3⟩ := HC3.out
  go_wp2_with fail
  refine (KC.out _ _ (Blk.new _ _ _)).mono ?_
  rintro e w3 ⟨v, rfl, own, hb3⟩
  have hb3' : Below w2.heap.size w2 w3 := below2 (Below.alloc (Below.refl _ _) (Nat.le_refl _) _) hb3 (by simp)
  have HD0 := hid (HC0.out.more hb3')
  have HD1 := hid (HC1.out.more hb3')
  have HD2 := hid (HC2.out.more hb3')
  have HD3 := hid (HC3.out.more hb3')
  have H3 := hid (below2 H2.out hb3' H2.out.size)
  clear l0 k0 f0 l1 k1 f1 l2 k2 f2 l3 k3 f3 HC0 HC1 HC2 HC3 H2 hb3 hb3' KC
  obtain ⟨g, cap, cur, rfl, hx1, hx2, hcap, hx3, hx4, hx5⟩ := own.2.resolve_left (fun h => by have := h.2; omega)
  have hg := (own.lt g rfl).2
  have C := fun (j : Nat) (hj : j < 4 * 4) => own.cellAt j hj
  have RA : Hid (Row w3 g 0 4 2 (fun i => if i = 0 then [.int .i64 ia, .int .u32 X1, .int .u32 Y1, .string ByteArray.empty] else [.int .i64 ib, .int .u32 X2, .int .u32 Y2, .string ByteArray.empty])) :=
    hid (row2 hg (fun j v hv => match j, hv with | 0, hv => (C 0 (by omega)).trans hv | 1, hv => (C 1 (by omega)).trans hv | 2, hv => (C 2 (by omega)).trans hv | 3, hv => (C 3 (by omega)).trans hv | 4, hv => (C 4 (by omega)).trans hv | 5, hv => (C 5 (by omega)).trans hv | 6, hv => (C 6 (by omega)).trans hv | 7, hv => (C 7 (by omega)).trans hv | n + 8, hv => absurd hv (by simp)))
  have RB : Hid (Row w3 g 8 4 2 (fun i => if i = 0 then [.int .i64 ic, .int .u32 X3, .int .u32 Y3, .string ByteArray.empty] else [.int .i64 id', .int .u32 X4, .int .u32 Y4, .string ByteArray.empty])) :=
    hid (row2 hg (fun j v hv => match j, hv with | 0, hv => (C 8 (by omega)).trans hv | 1, hv => (C 9 (by omega)).trans hv | 2, hv => (C 10 (by omega)).trans hv | 3, hv => (C 11 (by omega)).trans hv | 4, hv => (C 12 (by omega)).trans hv | 5, hv => (C 13 (by omega)).trans hv | 6, hv => (C 14 (by omega)).trans hv | 7, hv => (C 15 (by omega)).trans hv | n + 8, hv => absurd hv (by simp)))
  clear C own hx1 hx2 hx3 hx4 hx5
  go_upto_region 5 with (fail)
  have q0 := fun u : Later w3 => u.blk HD0.out
  have q1 := fun u : Later w3 => u.blk HD1.out
  have q2 := fun u : Later w3 => u.blk HD2.out
  have q3 := fun u : Later w3 => u.blk HD3.out
  refine wp_region_late 16 (by kernel_rfl) (by kernel_rfl) ?_
  simp only [List.take_succ_cons, List.take_zero, List.drop_succ_cons, List.drop_zero]
  repeat (go_big_quiet_step ((go_at_call 51; first | (with_reducible exact late_call (T1.out _)) | (with_reducible exact late_call (T2.out _)) | (with_reducible exact late_call (T3.out _)) | (with_reducible exact late_call (T4.out _)))))
  refine wpQuiet_nil ?_
  intro w4 h4'
  have h4 := late_out h4'
  clear h4' q0 q1 q2 q3 T1 T2 T3 T4
  have HE0 := hid (HD0.out.more h4)
  have HE1 := hid (HD1.out.more h4)
  have HE2 := hid (HD2.out.more h4)
  have HE3 := hid (HD3.out.more h4)
  have RA4 := hid (RA.out.more h4)
  have RB4 := hid (RB.out.more h4)
  have H4 := hid (below2 H3.out h4 H3.out.size)
  clear HD0 HD1 HD2 HD3 RA RB H3 hg h4
  go_upto_region 6 with (fail)
  go_cut [15] (fun s15 wx => s15 = .bool w0 ∧ wx = w4)
  case first =>
    have W0 := W0.out
    have m1 := m1.out
    have m2 := m2.out
    rcases W0 with ⟨g1, g2, rfl⟩ | ⟨g1, rfl⟩ | ⟨g1, g2, rfl⟩
    all_goals
      go_wp2_with fail
      go_meet
      case rel => exact ⟨by simp, rfl⟩
  case rest =>
    obtain ⟨rfl, rfl⟩ := hcut
    clear W0 m1 m2
    have hc1 : ¬ cap = 2 := by omega
    have hc2 : (2 : Int) ≤ (cap : Int) := by omega
    have hc3 : 2 ≤ cap := by omega
    go_wp2_with fail
    go_loopw [15, 16] (fun a b wr => ∃ (k : Nat) (z : Int), k ≤ 2 ∧ z = k ∧ a = .bool (wk w0 o1 o2 o3 o4 k) ∧ b = .int .i64 z ∧ Below wc.heap.size wc wr) (fun _ b _ => 2 - (intOf b).toNat)
    case atStart => exact ⟨0, 0, by omega, by omega, rfl, rfl, Below.refl _ _⟩
    case round =>
      obtain ⟨k, z, hk, hz, rfl, rfl, H⟩ := hrel
      have RA5 := hid (RA4.out.more H)
      have RB5 := hid (RB4.out.more H)
      have H5 := hid H
      clear H
      have hk' : k = 0 ∨ k = 1 ∨ k = 2 := by omega
      clear hk
      have hk2 : (k = 0 ∧ z = 0) ∨ (k = 1 ∧ z = 1) ∨ (k = 2 ∧ z = 2) := by omega
      clear hk' hz
      rcases hk2 with ⟨rfl, rfl⟩ | ⟨rfl, rfl⟩ | ⟨rfl, rfl⟩
      · have ca0 := fun u : Later wr => (show u.val.cell? ⟨g, 0, none⟩ = some (.int .i64 ia) from (RA5.out.more u.h).at0 (i := 0) (by omega) rfl)
        have ca1 := fun u : Later wr => (show u.val.cell? ⟨g, 1, none⟩ = some (.int .u32 X1) from (RA5.out.more u.h).at1 (i := 0) (by omega) rfl)
        have ca2 := fun u : Later wr => (show u.val.cell? ⟨g, 2, none⟩ = some (.int .u32 Y1) from (RA5.out.more u.h).at2 (i := 0) (by omega) rfl)
        have ca3 := fun u : Later wr => (show u.val.cell? ⟨g, 3, none⟩ = some (.string ByteArray.empty) from (RA5.out.more u.h).at3 (i := 0) (by omega) rfl)
        have cb0 := fun u : Later wr => (show u.val.cell? ⟨g, 8, none⟩ = some (.int .i64 ic) from (RB5.out.more u.h).at0 (i := 0) (by omega) rfl)
        have cb1 := fun u : Later wr => (show u.val.cell? ⟨g, 9, none⟩ = some (.int .u32 X3) from (RB5.out.more u.h).at1 (i := 0) (by omega) rfl)
        have cb2 := fun u : Later wr => (show u.val.cell? ⟨g, 10, none⟩ = some (.int .u32 Y3) from (RB5.out.more u.h).at2 (i := 0) (by omega) rfl)
        have cb3 := fun u : Later wr => (show u.val.cell? ⟨g, 11, none⟩ = some (.string ByteArray.empty) from (RB5.out.more u.h).at3 (i := 0) (by omega) rfl)
        have LA := hid (fun (u : Later wr) cap' => L1.out u.val g 0 cap' (RA5.out.more u.h))
        have LB := hid (fun (u : Later wr) cap' => L2.out u.val g 8 cap' (RB5.out.more u.h))
        obtain ⟨w1, hwi⟩ : ∃ w1, w0 = w1 := ⟨_, rfl⟩
        have ways : (w1 = true ∧ w1 = true) ∨ (w1 = false ∧ o1 = true) ∨ (w1 = false ∧ o1 = false) := by cases w1 <;> cases o1 <;> simp
        have ew : wk w0 o1 o2 o3 o4 0 = w1 := hwi
        have ew' : wk w0 o1 o2 o3 o4 (0 + 1) = (w1 || o1 || o2) := by rw [← hwi]; rfl
        replace ew' := hid ew'
        rw [ew]
        clear ew hwi
        rcases ways with ⟨rfl, -⟩ | ⟨rfl, rfl⟩ | ⟨rfl, rfl⟩
        all_goals
          go_upto_region 10 with (fail)
          refine wp_region_late 20 (by kernel_rfl) (by kernel_rfl) ?_
          simp only [List.take_succ_cons, List.take_zero, List.drop_succ_cons, List.drop_zero]
          repeat (go_big_quiet_step ((go_at_call 52; first | (with_reducible exact late_call (LA.out _ _)) | (with_reducible exact late_call (LB.out _ _)))))
          refine wpQuiet_nil ?_
          intro w6 h6'
          have h6 := hid (late_out h6')
          clear h6'
          go_wp2_with fail
          go_roundw
          case rel => exact ⟨0 + 1, 0 + 1, by omega, by omega, by rw [ew'.out]; try simp, rfl, below2 H5.out h6.out H5.out.size⟩
          case measure => simp [intOf]
      · have ca0 := fun u : Later wr => (show u.val.cell? ⟨g, 4, none⟩ = some (.int .i64 ib) from (RA5.out.more u.h).at0 (i := 1) (by omega) rfl)
        have ca1 := fun u : Later wr => (show u.val.cell? ⟨g, 5, none⟩ = some (.int .u32 X2) from (RA5.out.more u.h).at1 (i := 1) (by omega) rfl)
        have ca2 := fun u : Later wr => (show u.val.cell? ⟨g, 6, none⟩ = some (.int .u32 Y2) from (RA5.out.more u.h).at2 (i := 1) (by omega) rfl)
        have ca3 := fun u : Later wr => (show u.val.cell? ⟨g, 7, none⟩ = some (.string ByteArray.empty) from (RA5.out.more u.h).at3 (i := 1) (by omega) rfl)
        have cb0 := fun u : Later wr => (show u.val.cell? ⟨g, 12, none⟩ = some (.int .i64 id') from (RB5.out.more u.h).at0 (i := 1) (by omega) rfl)
        have cb1 := fun u : Later wr => (show u.val.cell? ⟨g, 13, none⟩ = some (.int .u32 X4) from (RB5.out.more u.h).at1 (i := 1) (by omega) rfl)
        have cb2 := fun u : Later wr => (show u.val.cell? ⟨g, 14, none⟩ = some (.int .u32 Y4) from (RB5.out.more u.h).at2 (i := 1) (by omega) rfl)
        have cb3 := fun u : Later wr => (show u.val.cell? ⟨g, 15, none⟩ = some (.string ByteArray.empty) from (RB5.out.more u.h).at3 (i := 1) (by omega) rfl)
        have LA := hid (fun (u : Later wr) cap' => L3.out u.val g 0 cap' (RA5.out.more u.h))
        have LB := hid (fun (u : Later wr) cap' => L4.out u.val g 8 cap' (RB5.out.more u.h))
        obtain ⟨w1, hwi⟩ : ∃ w1, (w0 || o1 || o2) = w1 := ⟨_, rfl⟩
        have ways : (w1 = true ∧ w1 = true) ∨ (w1 = false ∧ o3 = true) ∨ (w1 = false ∧ o3 = false) := by cases w1 <;> cases o3 <;> simp
        have ew : wk w0 o1 o2 o3 o4 1 = w1 := hwi
        have ew' : wk w0 o1 o2 o3 o4 (1 + 1) = (w1 || o3 || o4) := by rw [← hwi]; rfl
        replace ew' := hid ew'
        rw [ew]
        clear ew hwi
        rcases ways with ⟨rfl, -⟩ | ⟨rfl, rfl⟩ | ⟨rfl, rfl⟩
        all_goals
          go_upto_region 10 with (fail)
          refine wp_region_late 20 (by kernel_rfl) (by kernel_rfl) ?_
          simp only [List.take_succ_cons, List.take_zero, List.drop_succ_cons, List.drop_zero]
          repeat (go_big_quiet_step ((go_at_call 52; first | (with_reducible exact late_call (LA.out _ _)) | (with_reducible exact late_call (LB.out _ _)))))
          refine wpQuiet_nil ?_
          intro w6 h6'
          have h6 := hid (late_out h6')
          clear h6'
          go_wp2_with fail
          go_roundw
          case rel => exact ⟨1 + 1, 1 + 1, by omega, by omega, by rw [ew'.out]; try simp, rfl, below2 H5.out h6.out H5.out.size⟩
          case measure => simp [intOf]
      · have eZ : wk w0 o1 o2 o3 o4 2 = (w0 || o1 || o2 || o3 || o4) := rfl
        rw [eZ]
        clear eZ
        generalize (w0 || o1 || o2 || o3 || o4) = Z at *
        go_wp2_with fail
        go_upto_region 11 with (fail)
        have q0 := fun u : Later wr => u.blk (HE0.out.more H5.out)
        have q1 := fun u : Later wr => u.blk (HE1.out.more H5.out)
        have q2 := fun u : Later wr => u.blk (HE2.out.more H5.out)
        have q3 := fun u : Later wr => u.blk (HE3.out.more H5.out)
        have ca0 := fun u : Later wr => (show u.val.cell? ⟨g, 0, none⟩ = some (.int .i64 ia) from (RA5.out.more u.h).at0 (i := 0) (by omega) rfl)
        have ca1 := fun u : Later wr => (show u.val.cell? ⟨g, 1, none⟩ = some (.int .u32 X1) from (RA5.out.more u.h).at1 (i := 0) (by omega) rfl)
        have ca2 := fun u : Later wr => (show u.val.cell? ⟨g, 2, none⟩ = some (.int .u32 Y1) from (RA5.out.more u.h).at2 (i := 0) (by omega) rfl)
        have ca3 := fun u : Later wr => (show u.val.cell? ⟨g, 3, none⟩ = some (.string ByteArray.empty) from (RA5.out.more u.h).at3 (i := 0) (by omega) rfl)
        have cb0 := fun u : Later wr => (show u.val.cell? ⟨g, 8, none⟩ = some (.int .i64 ic) from (RB5.out.more u.h).at0 (i := 0) (by omega) rfl)
        have cb1 := fun u : Later wr => (show u.val.cell? ⟨g, 9, none⟩ = some (.int .u32 X3) from (RB5.out.more u.h).at1 (i := 0) (by omega) rfl)
        have cb2 := fun u : Later wr => (show u.val.cell? ⟨g, 10, none⟩ = some (.int .u32 Y3) from (RB5.out.more u.h).at2 (i := 0) (by omega) rfl)
        have cb3 := fun u : Later wr => (show u.val.cell? ⟨g, 11, none⟩ = some (.string ByteArray.empty) from (RB5.out.more u.h).at3 (i := 0) (by omega) rfl)
        have cc0 := fun u : Later wr => (show u.val.cell? ⟨g, 4, none⟩ = some (.int .i64 ib) from (RA5.out.more u.h).at0 (i := 1) (by omega) rfl)
        have cc1 := fun u : Later wr => (show u.val.cell? ⟨g, 5, none⟩ = some (.int .u32 X2) from (RA5.out.more u.h).at1 (i := 1) (by omega) rfl)
        have cc2 := fun u : Later wr => (show u.val.cell? ⟨g, 6, none⟩ = some (.int .u32 Y2) from (RA5.out.more u.h).at2 (i := 1) (by omega) rfl)
        have cc3 := fun u : Later wr => (show u.val.cell? ⟨g, 7, none⟩ = some (.string ByteArray.empty) from (RA5.out.more u.h).at3 (i := 1) (by omega) rfl)
        have cd0 := fun u : Later wr => (show u.val.cell? ⟨g, 12, none⟩ = some (.int .i64 id') from (RB5.out.more u.h).at0 (i := 1) (by omega) rfl)
        have cd1 := fun u : Later wr => (show u.val.cell? ⟨g, 13, none⟩ = some (.int .u32 X4) from (RB5.out.more u.h).at1 (i := 1) (by omega) rfl)
        have cd2 := fun u : Later wr => (show u.val.cell? ⟨g, 14, none⟩ = some (.int .u32 Y4) from (RB5.out.more u.h).at2 (i := 1) (by omega) rfl)
        have cd3 := fun u : Later wr => (show u.val.cell? ⟨g, 15, none⟩ = some (.string ByteArray.empty) from (RB5.out.more u.h).at3 (i := 1) (by omega) rfl)
        have H6 := hid (below2 H4.out H5.out H4.out.size)
        clear HE0 HE1 HE2 HE3 RA4 RB4 RA5 RB5 H4 H5 L1 L2 L3 L4
        refine wp_region_late 47 (by kernel_rfl) (by kernel_rfl) ?_
        simp only [List.take_succ_cons, List.take_zero, List.drop_succ_cons, List.drop_zero]
        repeat (go_big_quiet_step ((go_at_call 49; first | (with_reducible exact late_call (KB.out _)) | (with_reducible exact late_call (KO.out _)) | (with_reducible exact late_call (KI.out _)) | (with_reducible exact late_call (KM.out _)) | (with_reducible exact late_call (KS.out _)))))
        refine wpQuiet_nil ?_
        intro w6 h6'
        have h6 := late_out h6'
        clear h6'
        go_wp2
        go_ret
        exact ⟨by simp, H6.out.trans (h6.mono H6.out.size)⟩
end Go.Proofs.Ytohdhbamdeenlaa
