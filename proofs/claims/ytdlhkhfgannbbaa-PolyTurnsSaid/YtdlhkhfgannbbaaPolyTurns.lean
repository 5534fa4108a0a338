/-
  Layer 34: which way it goes, of any three places. The walk of PolyTurns.
-/
import Derived.Test.YtdlhkhfgannbbaaPolyCut
import Derived.Deep.DeepCutAuto
namespace Go.Proofs.Ytdlhkhfgannbbaa
open Go.RowKit
set_option linter.unusedVariables false
set_option linter.unusedSimpArgs false

theorem cmp_by {p q p' q' : Int} (h : p - q = p' - q') : cmpI p q = cmpI p' q' := by
  unfold cmpI; split <;> split <;> (try split) <;> (try split) <;> omega
theorem cmp_neg {p q p' q' : Int} (h : p - q = -(p' - q')) : cmpI p q = -cmpI p' q' := by
  unfold cmpI; split <;> split <;> (try split) <;> (try split) <;> omega
theorem turn_round (ax ay bx by' cx cy : Int) : turnI bx by' ax ay cx cy = -turnI ax ay bx by' cx cy := by
  unfold turnI
  apply cmp_neg
  simp only [Int.sub_mul, Int.mul_sub]
  have e1 := Int.mul_comm ax by'
  have e2 := Int.mul_comm bx ay
  have e3 := Int.mul_comm ax ay
  have e4 := Int.mul_comm bx by'
  omega
theorem turn_on (ax ay bx by' cx cy : Int) : turnI bx by' cx cy ax ay = turnI ax ay bx by' cx cy := by
  unfold turnI
  apply cmp_by
  simp only [Int.sub_mul, Int.mul_sub]
  have e1 := Int.mul_comm ax by'
  have e2 := Int.mul_comm bx ay
  have e3 := Int.mul_comm ax ay
  have e4 := Int.mul_comm bx by'
  have e5 := Int.mul_comm cx ay
  have e6 := Int.mul_comm cx by'
  have e7 := Int.mul_comm ax cy
  have e8 := Int.mul_comm bx cy
  omega
theorem turn_back (ax ay bx by' : Int) : turnI ax ay bx by' ax ay = 0 := by
  unfold turnI; simp [cmpI]
theorem turn_bd (ax ay bx by' cx cy : Int) : -1 ≤ turnI ax ay bx by' cx cy ∧ turnI ax ay bx by' cx cy ≤ 1 := by
  unfold turnI cmpI; split <;> (try split) <;> omega

set_option maxRecDepth 100000 in
set_option maxHeartbeats 8000000 in
theorem polyTurns (ia ib ic ax ay bx by' cx cy : Int) (da db dc : Value) (h1 : 0 ≤ ax) (h1' : ax ≤ 4294967295) (h2 : 0 ≤ ay) (h2' : ay ≤ 4294967295) (h3 : 0 ≤ bx) (h3' : bx ≤ 4294967295) (h4 : 0 ≤ by') (h4' : by' ≤ 4294967295) (h5 : 0 ≤ cx) (h5' : cx ≤ 4294967295) (h6 : 0 ≤ cy) (h6' : cy ≤ 4294967295) (w : World) :
    Calls Try.prog 6 #[pt ia ax ay da, pt ib bx by' db, pt ic cx cy dc] w fun e w' => e = .returned (.bool true) ∧ Below w.heap.size w w' := by
  have KT := fun w => polyTurn_any ia ib ic ax ay bx by' cx cy da db dc h1 h1' h2 h2' h3 h3' h4 h4' h5 h5' h6 h6' w
  have KB := fun w => polyTurn_any ib ia ic bx by' ax ay cx cy db da dc h3 h3' h4 h4' h1 h1' h2 h2' h5 h5' h6 h6' w
  have KO := fun w => polyTurn_any ib ic ia bx by' cx cy ax ay db dc da h3 h3' h4 h4' h5 h5' h6 h6' h1 h1' h2 h2' w
  have KZ := fun w => polyTurn_any ia ib ia ax ay bx by' ax ay da db da h1 h1' h2 h2' h3 h3' h4 h4' h1 h1' h2 h2' w
  have KL := hid (fun w => lawturn_any ia ib ic ax ay bx by' cx cy da db dc h1 h1' h2 h2' h3 h3' h4 h4' h5 h5' h6 h6' w)
  have KC := hid (fun b w B => cut3_any b ia ib ic ax ay bx by' cx cy da db dc h1 h1' h2 h2' h3 h3' h4 h4' h5 h5' h6 h6' w B)
  have s1 := sm_bd ax
  have s2 := sm_bd ay
  have s3 := sm_bd bx
  have s4 := sm_bd by'
  have s5 := sm_bd cx
  have s6 := sm_bd cy
  have KS := hid (fun w => polyTurn_any ia ib ic (sm ax) (sm ay) (sm bx) (sm by') (sm cx) (sm cy) es es es (by omega) (by omega) (by omega) (by omega) (by omega) (by omega) (by omega) (by omega) (by omega) (by omega) (by omega) (by omega) w)
  rw [turn_round] at KB
  rw [turn_on] at KO
  rw [turn_back] at KZ
  have bd := turn_bd ax ay bx by' cx cy
  generalize turnI (sm ax) (sm ay) (sm bx) (sm by') (sm cx) (sm cy) = T at *
  generalize turnI ax ay bx by' cx cy = n at *
  have m1 : IntKind.i64.wrap (-n) = -n := IntWalk.i64_in _ (by omega)
  replace KT := hid KT
  replace KB := hid KB
  replace KO := hid KO
  replace KZ := hid KZ
  generalize sm ax = X1 at *
  generalize sm ay = Y1 at *
  generalize sm bx = X2 at *
  generalize sm by' = Y2 at *
  generalize sm cx = X3 at *
  generalize sm cy = Y3 at *
  clear h1 h1' h2 h2' h3 h3' h4 h4' h5 h5' h6 h6' s1 s2 s3 s4 s5 s6 bd
  go_enter Try.func6, Try.ntmps6
  go_wp2_with fail
  refine (alive34 _).mono ?_
  rintro e w1 ⟨rfl, hb1⟩
  obtain ⟨P0, P1, P2, H⟩ := boxed3 hb1
  have HB0 := hid P0
  have HB1 := hid P1
  have HB2 := hid P2
  have H1 := hid H
  obtain ⟨l0, k0, f0⟩ := P0
  obtain ⟨l1, k1, f1⟩ := P1
  obtain ⟨l2, k2, f2⟩ := P2
  clear hb1 H
  go_wp2_with fail
  refine (KT.out _).mono ?_
  rintro e w2 ⟨rfl, hb2⟩
  have HC0 := hid (HB0.out.more hb2)
  have HC1 := hid (HB1.out.more hb2)
  have HC2 := hid (HB2.out.more hb2)
  have H2 := hid (below2 H1.out hb2 H1.out.size)
  clear l0 k0 f0 l1 k1 f1 l2 k2 f2 HB0 HB1 HB2 H1 hb2 KT
  obtain ⟨l0, k0, f0⟩ := HC0.out
  obtain ⟨l1, k1, f1⟩ := HC1.out
  obtain ⟨l2, k2, f2⟩ := HC2.out
  go_wp2_with fail
  refine (KC.out _ _ (Blk.new _ _ _)).mono ?_
  rintro e w3 ⟨v, rfl, own, hb3⟩
  have hb3' : Below w2.heap.size w2 w3 := below2 (Below.alloc (Below.refl _ _) (Nat.le_refl _) _) hb3 (by simp)
  have HD0 := hid (HC0.out.more hb3')
  have HD1 := hid (HC1.out.more hb3')
  have HD2 := hid (HC2.out.more hb3')
  have H3 := hid (below2 H2.out hb3' H2.out.size)
  clear l0 k0 f0 l1 k1 f1 l2 k2 f2 HC0 HC1 HC2 H2 hb3 hb3' KC
  obtain ⟨g, cap, cur, rfl, _, _, hcap, _, _, _⟩ := own.2.resolve_left (fun h => by have := h.2; omega)
  have hg := (own.lt g rfl).2
  have C := fun (u : Later w3) (j : Nat) (hj : j < 3 * 4) => (u.cell g j hg).trans (own.cellAt j hj)
  have c0 := fun u : Later w3 => C u 0 (by omega)
  have c1 := fun u : Later w3 => C u 1 (by omega)
  have c2 := fun u : Later w3 => C u 2 (by omega)
  have c3 := fun u : Later w3 => C u 3 (by omega)
  have c4 := fun u : Later w3 => C u 4 (by omega)
  have c5 := fun u : Later w3 => C u 5 (by omega)
  have c6 := fun u : Later w3 => C u 6 (by omega)
  have c7 := fun u : Later w3 => C u 7 (by omega)
  have c8 := fun u : Later w3 => C u 8 (by omega)
  have c9 := fun u : Later w3 => C u 9 (by omega)
  have c10 := fun u : Later w3 => C u 10 (by omega)
  have c11 := fun u : Later w3 => C u 11 (by omega)
  have q0 := fun u : Later w3 => u.blk HD0.out
  have q1 := fun u : Later w3 => u.blk HD1.out
  have q2 := fun u : Later w3 => u.blk HD2.out
  clear C own HD0 HD1 HD2 hg hcap
  simp only [List.getElem?_cons_zero, List.getElem?_cons_succ] at c0 c1 c2 c3 c4 c5 c6 c7 c8 c9 c10 c11
  go_upto_region 5 with (fail)
  refine wp_region_late 39 (by kernel_rfl) (by kernel_rfl) ?_
  simp only [List.take_succ_cons, List.take_zero, List.drop_succ_cons, List.drop_zero]
  repeat (quiet_step (first
    | (go_at_call 20; first | (with_reducible exact late_call (KS.out _)) | (with_reducible exact late_call (KB.out _)) | (with_reducible exact late_call (KO.out _)) | (with_reducible exact late_call (KZ.out _)))
    | (go_at_call 22; (with_reducible exact late_call (KL.out _)))))
  refine wpQuiet_nil ?_
  intro w5 h5'
  have h5 := late_out h5'
  clear h5'
  go_wp2
  go_ret
  exact ⟨by simp, H3.out.trans (h5.mono H3.out.size)⟩
end Go.Proofs.Ytdlhkhfgannbbaa
