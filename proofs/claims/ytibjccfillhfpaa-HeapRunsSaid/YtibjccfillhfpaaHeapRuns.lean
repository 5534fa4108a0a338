/-
  Layer 21: whatever is pushed and popped, it is always the least one that goes.
-/
import Derived.Test.YtibjccfillhfpaaHeapOwn
import Derived.Deep.DeepCutAuto
import Derived.Outline
namespace Go.Proofs.Ytibjccfillhfpaa
open Go.RowKit
set_option linter.unusedVariables false
set_option linter.unusedSimpArgs false

set_option maxRecDepth 100000 in
set_option maxHeartbeats 16000000 in
theorem heapRuns (p : Option Addr) (n cap : Nat) (f : Nat → It) (h1 : n ≤ cap) (h2 : cap ≤ maxLen) (pp : Option Addr) (np capp : Nat) (gb : Nat → Bool) (h3 : np ≤ capp) (h4 : capp ≤ maxLen) (w : World) (HA : RowP w p 4 n (fun i => icells (f i))) (HP : RowP w pp 1 np (fun i => [.bool (gb i)])) :
    Calls Try.prog 6 #[.slice p n cap, .slice pp np capp] w fun e w' => e = .returned (.bool true) ∧ Below w.heap.size w w' := by
  obtain ⟨M, hM⟩ : ∃ M, min n 60 = M := ⟨_, rfl⟩
  have hMn : M ≤ n := by omega
  have hM60 : M ≤ 60 := by omega
  have hMor := hid (show M = n ∨ (M = 60 ∧ 60 < n) by omega)
  have HAh := hid HA
  have HPh := hid HP
  clear HA HP hM h1 h2 h3 h4
  go_enter Try.func6, Try.ntmps6
  go_wp2_with fail
  refine (alive21 _).mono ?_
  rintro e w1 ⟨rfl, hb1⟩
  have HA1 := hid (HAh.out.more hb1)
  have HP1 := hid (HPh.out.more hb1)
  have hb1h := hid hb1
  have H0 := hid (heapS_new w1 w1.heap.size)
  have hb0 : Hid (Below w1.heap.size w1 (w1.alloc (.cells #[.slice none 0 0] 49))) := hid ((Below.refl _ _).alloc (Nat.le_refl _) _)
  clear HAh HPh hb1
  go_wp2_with fail
  generalize w1.alloc (.cells #[.slice none 0 0] 49) = W0 at *
  generalize hB : w1.heap.size = B at *
  have own0 : Hid (OwnR W0 B (.slice none 0 0) none 0 []) := hid ⟨Nat.le_refl _, Nat.zero_le _, .inl rfl, fun b o e => by simp at e, fun a e => by simp at e, fun _ => rfl⟩
  go_loopw [6, 7] (fun own s wr => ∃ (i : Nat) (vh : Value) (L S : List It) (q : Option Addr) (cq : Nat), i ≤ M ∧ s = .int .i64 (i : Int) ∧ own = .slice q S.length cq ∧ HeapS wr B B vh L ∧ HeapOk L ∧ S.Perm L ∧ S.Pairwise leI ∧ S.length ≤ i ∧ OwnR wr B vh q cq S ∧ Below B w1 wr) (fun _ s _ => M - (intOf s).toNat)
  case atStart => exact ⟨0, _, [], [], none, 0, by omega, rfl, rfl, H0.out, heapOk_nil, List.Perm.refl _, List.Pairwise.nil, Nat.le_refl _, own0.out, hb0.out⟩
  case round =>
    obtain ⟨i, vh, L, S, q, cq, hi, rfl, rfl, H2, ok2, P2, W2, l2, O2, B2⟩ := hrel
    clear H0 hb0 own0
    have H2h := hid H2
    have ok2h := hid ok2
    have P2h := hid P2
    have W2h := hid W2
    have O2h := hid O2
    have B2h := hid B2
    by_cases hlt : i < M
    · have hi1 : (i : Int) < (n : Int) := by omega
      have hi2 : (i : Int) < 60 := by omega
      have hi0 : (0 : Int) ≤ (i : Int) := by omega
      have hlL : L.length = S.length := P2.length_eq.symm
      obtain ⟨ba, oa, rfl, Ra0⟩ := HA1.out.row (by omega)
      have hRa := hid Ra0
      have hbaB : ba < B := by have := Ra0.lt; omega
      have hBw : B ≤ wr.heap.size := by have := B2.size; omega
      have Ra := Ra0.below (hB ▸ B2) (hB ▸ hbaB)
      have z0 := Ra.at0 (i := i) (by omega) (v := .int .u64 (f i).h) rfl
      have z1 := Ra.at1 (i := i) (by omega) (v := .int .u64 (f i).l) rfl
      have z2 := Ra.at2 (i := i) (by omega) (v := .int .i64 (f i).o) rfl
      have z3 := Ra.at3 (i := i) (by omega) (v := .int .i64 (f i).i) rfl
      have KP := hid (push_any B B vh L (f i) ok2 (by omega) wr hBw H2)
      have hfr := hid (fun w' S' => H2h.out.frame (w' := w') hBw (Nat.le_refl B) (Nat.le_refl B) S')
      have cells := hid (fun (W : World) (hW : Below B w1 W) => (Ra0.below (hB ▸ hW) (hB ▸ hbaB)).cell i (show i < n by omega))
      obtain ⟨x, hx⟩ : ∃ x, f i = x := ⟨_, rfl⟩
      rw [hx] at z0 z1 z2 z3 KP
      obtain ⟨xh, xl, xo, xi⟩ := x
      rw [hx] at cells
      unfold itval at KP
      simp only at KP z0 z1 z2 z3
      clear Ra0 Ra H2 ok2 P2 W2 O2 B2
      go_wp2_with fail
      refine KP.out.mono ?_
      rintro e w3 ⟨rfl, v3, L3, hl3, ok3, P3, H3, hv3, S3⟩
      have O3 := hid (O2h.out.call S3 hv3)
      have B3 := hid (B2h.out.trans (hfr.out _ S3))
      have hBw3 : B ≤ w3.heap.size := by have := B3.out.size; omega
      have H3h := hid H3
      have ok3h := hid ok3
      have P3h := hid (show List.Perm (S ++ [(⟨xh, xl, xo, xi⟩ : It)]) L3 from (P2h.out.append_right _).trans P3.symm)
      clear KP hfr H3 ok3 P3 S3 hv3 H2h ok2h O2h B2h z0 z1 z2 z3
      go_wp2_with fail
      obtain ⟨WY, rfl⟩ : ∃ WY, WY = wr := ⟨_, rfl⟩
      go_loopw [8] (fun s wx => ∃ k : Nat, k ≤ S.length ∧ s = .int .i64 (k : Int) ∧ (∀ j, k ≤ j → j < S.length → ltI ⟨xh, xl, xo, xi⟩ (itAt S j)) ∧ Below w3.heap.size w3 wx) (fun s _ => (intOf s).toNat)
      case atStart => exact ⟨S.length, Nat.le_refl _, rfl, fun j h1 h2 => by omega, Below.refl _ _⟩
      case round =>
        obtain ⟨k, hk, rfl, Q5, B5⟩ := hrel
        have Q5h := hid Q5
        have B5h := hid B5
        have KW := hid (fun w => hless_any ⟨xh, xl, xo, xi⟩ (itAt S (k - 1)) w)
        rw [lessB_eq] at KW
        have B6 := B3.out.trans (B5h.out.mono hBw3)
        have xs := hid (cells.out _ B6)
        have ys := hid (fun (h : k - 1 < S.length) => (O3.out.row.more B5h.out).row (by omega))
        have hown := hid (O3.out.row.more B5h.out)
        have cc : Hid (∀ (c oo : Nat) (v : Value), wr.cell? ⟨c, oo, none⟩ = some v → ∀ u : Later wr, u.val.cell? ⟨c, oo, none⟩ = some v) := hid (fun c oo v hv u => (u.cell c oo (cell_lt hv)).trans hv)
        clear Q5 B5 B6
        have hkw : 0 < k → IntKind.i64.wrap ((k : Int) - 1) = (k : Int) - 1 := fun h => IntWalk.i64_in _ ⟨by omega, by omega⟩
        by_cases hgo : 0 < k ∧ ltI ⟨xh, xl, xo, xi⟩ (itAt S (k - 1))
        · obtain ⟨hk0, hl⟩ := hgo
          rw [decide_eq_true hl] at KW
          replace hkw := hkw hk0
          have hk1 : (0 : Int) < (k : Int) := by omega
          have hk2 : (0 : Int) ≤ (k : Int) - 1 := by omega
          have hk3 : (k : Int) - 1 < (S.length : Int) := by omega
          have hk4 : ((k : Int) - 1).toNat = k - 1 := by omega
          obtain ⟨bo, oo, rfl, Ro⟩ := hown.out.row (by omega)
          have ys := Ro.cell (k - 1) (by omega)
          have hlh := hid hl
          generalize hY : itAt S (k - 1) = Y at *
          replace hY := hid hY
          obtain ⟨yh, yl, yo, yi⟩ := Y
          have a0 := cc.out _ _ _ (xs.out 0 _ rfl)
          have a1 := cc.out _ _ _ (xs.out 1 _ rfl)
          have a2 := cc.out _ _ _ (xs.out 2 _ rfl)
          have a3 := cc.out _ _ _ (xs.out 3 _ rfl)
          have b0 := cc.out _ _ _ (ys 0 _ rfl)
          have b1 := cc.out _ _ _ (ys 1 _ rfl)
          have b2 := cc.out _ _ _ (ys 2 _ rfl)
          have b3 := cc.out _ _ _ (ys 3 _ rfl)
          unfold itval at KW
          simp only [Nat.add_zero] at KW a0 a1 a2 a3 b0 b1 b2 b3
          clear xs ys cc Ro hown hl
          go_wp2_with fail
          refine wp_region_late 13 (by kernel_rfl) (by kernel_rfl) ?_
          simp only [List.take_succ_cons, List.take_zero, List.drop_succ_cons, List.drop_zero]
          iterate 13 (go_big_quiet_step ((go_at_call 14; (with_reducible exact late_call (KW.out _)))))
          refine wpQuiet_nil ?_
          intro w6 h6'
          have h6 := late_out h6'
          have Hb6 := hid (B5h.out.trans (h6.mono B5h.out.size))
          clear h6' h6 a0 a1 a2 a3 b0 b1 b2 b3 KW
          go_wp2_with fail
          go_roundw
          case rel =>
            refine ⟨k - 1, by omega, by rw [show ((k - 1 : Nat) : Int) = (k : Int) - 1 by omega], fun t t1 t2 => ?_, Hb6.out⟩
            by_cases e : t = k - 1
            · rw [e, hY.out]; exact hlh.out
            · exact Q5h.out t (by omega) t2
          case measure => simp [intOf]; omega
        · have Q6h : Hid (k = 0 ∨ ¬ ltI ⟨xh, xl, xo, xi⟩ (itAt S (k - 1))) := hid (by
            by_cases h : k = 0
            · exact .inl h
            · exact .inr (fun h2 => hgo ⟨by omega, h2⟩))
          by_cases hk0 : 0 < k
          focus
            have hl : ¬ ltI ⟨xh, xl, xo, xi⟩ (itAt S (k - 1)) := Q6h.out.resolve_left (by omega)
            rw [decide_eq_false hl] at KW
            replace hkw := hkw hk0
            have hk1 : (0 : Int) < (k : Int) := by omega
            have hk2 : (0 : Int) ≤ (k : Int) - 1 := by omega
            have hk3 : (k : Int) - 1 < (S.length : Int) := by omega
            have hk4 : ((k : Int) - 1).toNat = k - 1 := by omega
            obtain ⟨bo, oo, rfl, Ro⟩ := hown.out.row (by omega)
            have ys := Ro.cell (k - 1) (by omega)
            generalize itAt S (k - 1) = Y at KW ys
            obtain ⟨yh, yl, yo, yi⟩ := Y
            have a0 := cc.out _ _ _ (xs.out 0 _ rfl)
            have a1 := cc.out _ _ _ (xs.out 1 _ rfl)
            have a2 := cc.out _ _ _ (xs.out 2 _ rfl)
            have a3 := cc.out _ _ _ (xs.out 3 _ rfl)
            have b0 := cc.out _ _ _ (ys 0 _ rfl)
            have b1 := cc.out _ _ _ (ys 1 _ rfl)
            have b2 := cc.out _ _ _ (ys 2 _ rfl)
            have b3 := cc.out _ _ _ (ys 3 _ rfl)
            unfold itval at KW
            simp only [Nat.add_zero] at KW a0 a1 a2 a3 b0 b1 b2 b3
            replace hgo := hid hgo
            clear xs ys cc Ro hown hl
            go_wp2_with fail
            refine wp_region_late 13 (by kernel_rfl) (by kernel_rfl) ?_
            simp only [List.take_succ_cons, List.take_zero, List.drop_succ_cons, List.drop_zero]
            iterate 13 (go_big_quiet_step ((go_at_call 14; (with_reducible exact late_call (KW.out _)))))
            refine wpQuiet_nil ?_
            intro w6 h6'
            have h6 := late_out h6'
            have Hb6 := hid (B5h.out.trans (h6.mono B5h.out.size))
            clear h6' h6 a0 a1 a2 a3 b0 b1 b2 b3 KW hk0 hk1 hk2 hk3 hk4 hkw
            generalize (some (⟨bo, oo, none⟩ : Addr)) = q at *
          rotate_left
          focus
            have hk1 : ¬ (0 : Int) < (k : Int) := by omega
            have hkd : (decide ((0 : Int) < (k : Int))) = false := decide_eq_false hk1
            have hkd2 : (decide (0 < k)) = false := decide_eq_false hk0
            replace hgo := hid hgo
            clear xs ys cc hown KW
            go_wp2_with fail
            refine wp_region_late 13 (by kernel_rfl) (by kernel_rfl) ?_
            simp only [List.take_succ_cons, List.take_zero, List.drop_succ_cons, List.drop_zero]
            iterate 13 (go_big_quiet_step (fail))
            refine wpQuiet_nil ?_
            intro w6 h6'
            have h6 := late_out h6'
            have Hb6 := hid (B5h.out.trans (h6.mono B5h.out.size))
            clear h6' h6 hk0 hk1 hkd hkd2 hkw
          all_goals
            have O6 := O3.out.more Hb6.out
            have RF := O6.front k hk
            have OB := O6.back k hk
            have hcq := O6.len
            have hcm := O6.most
            have hkc : (k : Int) ≤ (cq : Int) := by omega
            have hks : (k : Int) ≤ (S.length : Int) := by omega
            have hsc : (S.length : Int) ≤ (cq : Int) := by omega
            have hcmI : (cq : Int) ≤ 9223372036854775807 := by unfold maxLen at hcm; omega
            have hkt : (S.take k).length = k := by rw [List.length_take]; omega
            have hdl : (S.drop k).length = S.length - k := List.length_drop
            have zz := cells.out _ (B3.out.trans (Hb6.out.mono hBw3))
            have z0 := zz 0 _ rfl
            have z1 := zz 1 _ rfl
            have z2 := zz 2 _ rfl
            have z3 := zz 3 _ rfl
            simp only [Nat.add_zero] at z0 z1 z2 z3
            have hba6 : ba < w6.heap.size := by have := Hb6.out.size; omega
            have bel_a : Below w6.heap.size w6 (w6.alloc (.cells #[] 55)).drew := ((Below.refl _ _).alloc (Nat.le_refl _) _).drew
            have bel_b : Below w6.heap.size w6 ((w6.alloc (.cells #[] 55)).alloc (.cells #[.int .u64 xh, .int .u64 xl, .int .i64 xo, .int .i64 xi] 55)).drew := (((Below.refl _ _).alloc (Nat.le_refl _) _).alloc (by simp) _).drew
            have bel_c : Below w6.heap.size w6 ((w6.alloc (.cells #[.int .u64 xh, .int .u64 xl, .int .i64 xo, .int .i64 xi] 55)).alloc (.cells #[] 55)).drew := (((Below.refl _ _).alloc (Nat.le_refl _) _).alloc (by simp) _).drew
            have OEa := (its_empty w6 55 w6.heap.size (Nat.le_refl _)).drew
            have OEb := ((its_empty w6 55 w6.heap.size (Nat.le_refl _)).alloc (.cells #[.int .u64 xh, .int .u64 xl, .int .i64 xo, .int .i64 xi] 55)).drew
            have OEc := (its_empty (w6.alloc (.cells #[.int .u64 xh, .int .u64 xl, .int .i64 xo, .int .i64 xi] 55)) 55 w6.heap.size (by simp)).drew
            have XB := (rowX_mk (w6.alloc (.cells #[] 55)) xh xl xo xi 55).drew
            have XC := ((rowX_mk w6 xh xl xo xi 55).more ((Below.refl _ _).alloc (Nat.le_refl _) (.cells #[] 55))).drew
            rw [World.size_alloc] at OEc XB
            have hv6 : Hid (∀ j, v3.ownBlock = some j → j < w6.heap.size) := hid (fun j hj => by have h1 := (H3h.out.own.lt j hj).2; have h2 := Hb6.out.size; omega)
            have hB6 : B < w6.heap.size := by have h1 := H3h.out.box.lt; have h2 := Hb6.out.size; omega
            replace O6 := hid O6
            clear zz
            go_wp2_with fail
            go_cut [6] (fun s wx => ∃ q' c', s = .slice q' (putAt S ⟨xh, xl, xo, xi⟩ k).length c' ∧ OwnR wx B v3 q' c' (putAt S ⟨xh, xl, xo, xi⟩ k) ∧ Below w6.heap.size w6 wx)
            case first =>
              by_cases hc : cq = k
              · have hc' := hc.symm
                subst hc'
                have hSc : S.length = k := by omega
                have hdn : S.drop k = [] := List.drop_eq_nil_of_le (by omega)
                have Rn : ∀ W : World, RowP W q 4 0 (fun i => icells (itAt [] i)) := fun W => .inl rfl
                clear OB
                replace hdn := hid hdn
                rw [hSc]
                go_region_held3 (fun w' => w'.cell? ⟨ba, oa + i * 4, none⟩ = some (.int .u64 xh) ∧ w'.cell? ⟨ba, oa + i * 4 + 1, none⟩ = some (.int .u64 xl) ∧ w'.cell? ⟨ba, oa + i * 4 + 2, none⟩ = some (.int .i64 xo) ∧ w'.cell? ⟨ba, oa + i * 4 + 3, none⟩ = some (.int .i64 xi))
                  (first
                    | go_keep
                    | (go_split_ands
                       refine ⟨?_, ?_, ?_, ?_⟩
                       · (rw [G1.cell_far _ (by simp; omega) (by simp [Value.ownBlock]; omega)]; first | assumption | go_keep)
                       · (rw [G1.cell_far _ (by simp; omega) (by simp [Value.ownBlock]; omega)]; first | assumption | go_keep)
                       · (rw [G1.cell_far _ (by simp; omega) (by simp [Value.ownBlock]; omega)]; first | assumption | go_keep)
                       · (rw [G1.cell_far _ (by simp; omega) (by simp [Value.ownBlock]; omega)]; first | assumption | go_keep))
                    | (go_split_ands
                       have hsz := Bel1.size
                       refine ⟨?_, ?_, ?_, ?_⟩
                       · (rw [G2.cell_far _ (by simp; omega) (fun e => by have := (O1.lt _ e.symm).1; simp at this; omega)]; first | assumption | go_keep)
                       · (rw [G2.cell_far _ (by simp; omega) (fun e => by have := (O1.lt _ e.symm).1; simp at this; omega)]; first | assumption | go_keep)
                       · (rw [G2.cell_far _ (by simp; omega) (fun e => by have := (O1.lt _ e.symm).1; simp at this; omega)]; first | assumption | go_keep)
                       · (rw [G2.cell_far _ (by simp; omega) (fun e => by have := (O1.lt _ e.symm).1; simp at this; omega)]; first | assumption | go_keep))
                    | (go_split_ands
                       have hsz := Bel2.size
                       refine ⟨?_, ?_, ?_, ?_⟩
                       · (rw [G4.cell_far _ (by simp; omega) (fun e => by have := (O2.lt _ e.symm).1; simp at this; omega)]; first | assumption | go_keep)
                       · (rw [G4.cell_far _ (by simp; omega) (fun e => by have := (O2.lt _ e.symm).1; simp at this; omega)]; first | assumption | go_keep)
                       · (rw [G4.cell_far _ (by simp; omega) (fun e => by have := (O2.lt _ e.symm).1; simp at this; omega)]; first | assumption | go_keep)
                       · (rw [G4.cell_far _ (by simp; omega) (fun e => by have := (O2.lt _ e.symm).1; simp at this; omega)]; first | assumption | go_keep))
                    | fail)
                  (first
                    | (refine step_append_its (by rfl) _ _ (by rfl) w6.heap.size (.slice (some ⟨w6.heap.size, 0, none⟩) 0 0) [] (by rfl) (by first | with_reducible exact OEa | with_reducible exact OEb) q k k (S.take k) (by rfl) hkt (RF.more (by first | with_reducible exact bel_a | with_reducible exact bel_b)) (by simp; omega) (by first | with_reducible exact bel_a.size | with_reducible exact bel_b.size) ?_; intro v1 W1 O1 G1; have Bel1 : Below w6.heap.size w6 W1 := (by first | with_reducible exact Below.grown bel_a G1 bel_a.size (fun j hj => by simp [Value.ownBlock] at hj; omega) | with_reducible exact Below.grown bel_b G1 bel_b.size (fun j hj => by simp [Value.ownBlock] at hj; omega)))
                    | (refine step_append_its (by rfl) _ _ (by rfl) w6.heap.size (.slice (some ⟨w6.heap.size + 1, 0, none⟩) 0 0) [] (by rfl) (by with_reducible exact OEc) q k k (S.take k) (by rfl) hkt (RF.more (by with_reducible exact bel_c)) (by simp; omega) (by with_reducible exact bel_c.size) ?_; intro v1 W1 O1 G1; have Bel1 : Below w6.heap.size w6 W1 := (by with_reducible exact Below.grown bel_c G1 bel_c.size (fun j hj => by simp [Value.ownBlock] at hj; omega)))
                    | (refine step_append_its (by rfl) _ _ (by rfl) w6.heap.size v1 ([] ++ S.take k) (by rfl) (by first | with_reducible exact O1.alloc _ | with_reducible exact O1) _ 1 1 [⟨xh, xl, xo, xi⟩] (by rfl) rfl (by first | with_reducible exact rowX_mk _ _ _ _ _ _ | with_reducible exact XB.grown G1 (by simp [Value.ownBlock]) | with_reducible exact XC.grown G1 (by simp [Value.ownBlock])) (by simp; omega) (by first | with_reducible exact Bel1.size | with_reducible exact (Bel1.alloc Bel1.size _).size) ?_; intro v2 W2 O2 G2; have L1 : ∀ j, v1.ownBlock = some j → w6.heap.size ≤ j := (fun j hj => (O1.lt j hj).1); have Bel2 : Below w6.heap.size w6 W2 := (by first | with_reducible exact Below.grown Bel1 G2 Bel1.size L1 | with_reducible exact Below.grown (Bel1.alloc Bel1.size _) G2 (Bel1.alloc Bel1.size _).size L1))
                    | (refine step_append_its (by rfl) _ _ (by rfl) w6.heap.size v2 ([] ++ S.take k ++ [⟨xh, xl, xo, xi⟩]) (by rfl) (by with_reducible exact O2) q 0 0 [] (by rfl) rfl (Rn _) (by simp; omega) Bel2.size ?_; intro v4 W4 O4 G4; have Bel4 : Below w6.heap.size w6 W4 := Below.grown Bel2 G4 Bel2.size (fun j hj => (O2.lt j hj).1))
                    | fail)
                all_goals
                  go_wp2_with fail
                  go_meet
                  case rel =>
                    have eL : ([] ++ S.take k ++ [(⟨xh, xl, xo, xi⟩ : It)] ++ []) = putAt S ⟨xh, xl, xo, xi⟩ k := by unfold putAt; rw [hdn.out, List.nil_append]
                    rw [eL] at O4
                    obtain ⟨q', c', ev, O9⟩ := ownR_of_its O4 hB6 hv6.out
                    exact ⟨q', c', ev, O9, Bel4⟩
              · have hck : cq - k ≠ 0 := by omega
                have hnl := O6.out.null
                rcases q with _ | ⟨bo, oo, sp⟩
                · exact absurd (hnl rfl) (by omega)
                obtain rfl : sp = none := O6.out.flat _ rfl
                have RB := OB.row
                have hfrom : from4 (some ⟨bo, oo, none⟩) cq k = some ⟨bo, oo + k * 4, none⟩ := by
                  unfold from4
                  rw [if_neg hc, Option.map_some]
                  unfold Addr.add
                  split
                  · rename_i e; rw [e]; rfl
                  · rfl
                rw [hfrom, hdl] at RB
                have hck2 : ¬ cq - k = 0 := hck
                have hcqk : ((cq : Int) - (k : Int)).toNat = cq - k := by omega
                have hslk : ((S.length : Int) - (k : Int)).toNat = S.length - k := by omega
                clear OB hnl hfrom
                go_region_held3 (fun w' => w'.cell? ⟨ba, oa + i * 4, none⟩ = some (.int .u64 xh) ∧ w'.cell? ⟨ba, oa + i * 4 + 1, none⟩ = some (.int .u64 xl) ∧ w'.cell? ⟨ba, oa + i * 4 + 2, none⟩ = some (.int .i64 xo) ∧ w'.cell? ⟨ba, oa + i * 4 + 3, none⟩ = some (.int .i64 xi))
                  (first
                    | go_keep
                    | (go_split_ands
                       refine ⟨?_, ?_, ?_, ?_⟩
                       · (rw [G1.cell_far _ (by simp; omega) (by simp [Value.ownBlock]; omega)]; first | assumption | go_keep)
                       · (rw [G1.cell_far _ (by simp; omega) (by simp [Value.ownBlock]; omega)]; first | assumption | go_keep)
                       · (rw [G1.cell_far _ (by simp; omega) (by simp [Value.ownBlock]; omega)]; first | assumption | go_keep)
                       · (rw [G1.cell_far _ (by simp; omega) (by simp [Value.ownBlock]; omega)]; first | assumption | go_keep))
                    | (go_split_ands
                       have hsz := Bel1.size
                       refine ⟨?_, ?_, ?_, ?_⟩
                       · (rw [G2.cell_far _ (by simp; omega) (fun e => by have := (O1.lt _ e.symm).1; simp at this; omega)]; first | assumption | go_keep)
                       · (rw [G2.cell_far _ (by simp; omega) (fun e => by have := (O1.lt _ e.symm).1; simp at this; omega)]; first | assumption | go_keep)
                       · (rw [G2.cell_far _ (by simp; omega) (fun e => by have := (O1.lt _ e.symm).1; simp at this; omega)]; first | assumption | go_keep)
                       · (rw [G2.cell_far _ (by simp; omega) (fun e => by have := (O1.lt _ e.symm).1; simp at this; omega)]; first | assumption | go_keep))
                    | (go_split_ands
                       have hsz := Bel2.size
                       refine ⟨?_, ?_, ?_, ?_⟩
                       · (rw [G4.cell_far _ (by simp; omega) (fun e => by have := (O2.lt _ e.symm).1; simp at this; omega)]; first | assumption | go_keep)
                       · (rw [G4.cell_far _ (by simp; omega) (fun e => by have := (O2.lt _ e.symm).1; simp at this; omega)]; first | assumption | go_keep)
                       · (rw [G4.cell_far _ (by simp; omega) (fun e => by have := (O2.lt _ e.symm).1; simp at this; omega)]; first | assumption | go_keep)
                       · (rw [G4.cell_far _ (by simp; omega) (fun e => by have := (O2.lt _ e.symm).1; simp at this; omega)]; first | assumption | go_keep))
                    | fail)
                  (first
                    | (refine step_append_its (by rfl) _ _ (by rfl) w6.heap.size (.slice (some ⟨w6.heap.size, 0, none⟩) 0 0) [] (by rfl) (by first | with_reducible exact OEa | with_reducible exact OEb) (some ⟨bo, oo, none⟩) k cq (S.take k) (by rfl) hkt (RF.more (by first | with_reducible exact bel_a | with_reducible exact bel_b)) (by simp; omega) (by first | with_reducible exact bel_a.size | with_reducible exact bel_b.size) ?_; intro v1 W1 O1 G1; have Bel1 : Below w6.heap.size w6 W1 := (by first | with_reducible exact Below.grown bel_a G1 bel_a.size (fun j hj => by simp [Value.ownBlock] at hj; omega) | with_reducible exact Below.grown bel_b G1 bel_b.size (fun j hj => by simp [Value.ownBlock] at hj; omega)))
                    | (refine step_append_its (by rfl) _ _ (by rfl) w6.heap.size (.slice (some ⟨w6.heap.size + 1, 0, none⟩) 0 0) [] (by rfl) (by with_reducible exact OEc) (some ⟨bo, oo, none⟩) k cq (S.take k) (by rfl) hkt (RF.more (by with_reducible exact bel_c)) (by simp; omega) (by with_reducible exact bel_c.size) ?_; intro v1 W1 O1 G1; have Bel1 : Below w6.heap.size w6 W1 := (by with_reducible exact Below.grown bel_c G1 bel_c.size (fun j hj => by simp [Value.ownBlock] at hj; omega)))
                    | (refine step_append_its (by rfl) _ _ (by rfl) w6.heap.size v1 ([] ++ S.take k) (by rfl) (by first | with_reducible exact O1.alloc _ | with_reducible exact O1) _ 1 1 [⟨xh, xl, xo, xi⟩] (by rfl) rfl (by first | with_reducible exact rowX_mk _ _ _ _ _ _ | with_reducible exact XB.grown G1 (by simp [Value.ownBlock]) | with_reducible exact XC.grown G1 (by simp [Value.ownBlock])) (by simp; omega) (by first | with_reducible exact Bel1.size | with_reducible exact (Bel1.alloc Bel1.size _).size) ?_; intro v2 W2 O2 G2; have L1 : ∀ j, v1.ownBlock = some j → w6.heap.size ≤ j := (fun j hj => (O1.lt j hj).1); have Bel2 : Below w6.heap.size w6 W2 := (by first | with_reducible exact Below.grown Bel1 G2 Bel1.size L1 | with_reducible exact Below.grown (Bel1.alloc Bel1.size _) G2 (Bel1.alloc Bel1.size _).size L1))
                    | (refine step_append_its (by rfl) _ _ (by rfl) w6.heap.size v2 ([] ++ S.take k ++ [⟨xh, xl, xo, xi⟩]) (by rfl) (by with_reducible exact O2) (some ⟨bo, oo + k * 4, none⟩) (S.length - k) (cq - k) (S.drop k) (by rfl) hdl (RB.more Bel2) (by simp; omega) Bel2.size ?_; intro v4 W4 O4 G4; have Bel4 : Below w6.heap.size w6 W4 := Below.grown Bel2 G4 Bel2.size (fun j hj => (O2.lt j hj).1))
                    | fail)
                all_goals
                  go_wp2_with fail
                  go_meet
                  case rel =>
                    have eL : ([] ++ S.take k ++ [(⟨xh, xl, xo, xi⟩ : It)] ++ S.drop k) = putAt S ⟨xh, xl, xo, xi⟩ k := by unfold putAt; rw [List.nil_append]
                    rw [eL] at O4
                    obtain ⟨q', c', ev, O9⟩ := ownR_of_its O4 hB6 hv6.out
                    exact ⟨q', c', ev, O9, Bel4⟩
            case rest =>
              obtain ⟨q7, c7, rfl, O7, B7⟩ := hcut
              have B37 := below2 Hb6.out B7 Hb6.out.size
              have H7 := hid (H3h.out.more B37)
              have D7 := hid (B3.out.trans (B37.mono hBw3))
              have P7 : (putAt S ⟨xh, xl, xo, xi⟩ k).Perm L3 := (putAt_perm S ⟨xh, xl, xo, xi⟩ k).trans P3h.out
              have W7 : (putAt S ⟨xh, xl, xo, xi⟩ k).Pairwise leI := putAt_sorted W2h.out hk Q5h.out Q6h.out
              have hl7 := hid (putAt_len S ⟨xh, xl, xo, xi⟩ k hk)
              have hL3 := P7.length_eq
              generalize putAt S ⟨xh, xl, xo, xi⟩ k = S7 at *
              have hlt8 : S7.length ≤ 60 := by have := hl7.out; omega
              have hiw : IntKind.i64.wrap ((i : Int) + 1) = (i : Int) + 1 := IntWalk.i64_in _ ⟨by omega, by omega⟩
              clear RF O6 bel_a bel_b bel_c OEa OEb OEc XB XC z0 z1 z2 z3 Q5h Q6h P3h H3h B37 B7 hkt hdl
              have hBwc : B ≤ wc.heap.size := by have := D7.out.size; omega
              by_cases hp : i < np ∧ gb i = true
              · obtain ⟨hp1, hp2⟩ := hp
                have hi1 : (i : Int) < (np : Int) := by omega
                obtain ⟨bp, op, rfl, Rp0⟩ := HP1.out.row (by omega)
                have Rp := Rp0.below D7.out (by have := Rp0.lt; omega)
                have zp := Rp.at0 hp1 (v := .bool (gb i)) rfl
                rw [hp2, Nat.mul_one] at zp
                obtain ⟨x0, S8, rfl⟩ : ∃ x0 S8, S7 = x0 :: S8 := by
                  cases S7 with
                  | nil => have h := hl7.out; simp at h
                  | cons a b => exact ⟨a, b, rfl⟩
                have hL3' : S8.length + 1 = L3.length := by simpa using hL3
                have hS8 : S8.length ≤ 59 := by have h := hlt8; simp at h; omega
                have hl8S : S8.length ≤ i + 1 := by have h := hl7.out; simp at h; omega
                have KP := hid (pop_any B B v3 L3 ok3h.out (by omega) (by omega) wc H7.out)
                rw [first_same ok3h.out W7 P7] at KP
                have W8 := hid (List.pairwise_cons.1 W7).2
                obtain ⟨yh, yl, yo, yi⟩ := x0
                have hfr := hid (fun w' S' => H7.out.frame (w' := w') hBwc (Nat.le_refl B) (Nat.le_refl B) S')
                have O7h := hid O7
                have P7h := hid P7
                have hee : eqI8 yh yl yo yi yh yl yo yi = true := by simp [eqI8]
                unfold itval at KP
                simp only at KP
                clear Rp Rp0 O7 W7 P7 hL3 hlt8 hl7
                go_wp2_with fail
                refine KP.out.mono ?_
                rintro e w8 ⟨rfl, v8, L8, hl8, ok8, P8, H8, hv8, S8'⟩
                have O8 := hid (O7h.out.call S8' (fun j hj => .inl (hv8 ▸ hj)))
                have D8 := hid (D7.out.trans (hfr.out _ S8'))
                have H8h := hid H8
                have ok8h := hid ok8
                have P8h := hid (show S8.Perm L8 from (List.perm_cons _).1 (P7h.out.trans P8.symm))
                have hL8 : L8.length = S8.length := by omega
                clear KP zp hfr S8' H8 ok8 P8 hv8 hl8 H7 O7h P7h
                have HbW : Below w8.heap.size w8 (w8.alloc (.cells #[.int .u64 yh, .int .u64 yl, .int .i64 yo, .int .i64 yi] 55)) := (Below.refl _ _).alloc (Nat.le_refl _) _
                have hB8 : B ≤ w8.heap.size := by have := D8.out.size; omega
                have BW := hid (Blk.new w8 #[.int .u64 yh, .int .u64 yl, .int .i64 yo, .int .i64 yi] 55)
                have O9 := hid (O8.out.more HbW)
                have H9 := hid (H8h.out.more HbW)
                have D9 := hid (D8.out.trans (HbW.mono hB8))
                have KL : Hid (∀ W, HeapS W B B v8 L8 → Calls Try.prog 16 #[.pointer (some ⟨B, 0, none⟩)] W fun e w' => e = .returned (.int .i64 (S8.length : Int)) ∧ w' = W) := hid (fun W H => by rw [← hL8]; exact hlen_any B B v8 L8 W H)
                clear HbW O8 H8h D8 hL8 hL3'
                go_wp2_with fail
                generalize w8.alloc (.cells #[.int .u64 yh, .int .u64 yl, .int .i64 yo, .int .i64 yi] 55) = W9 at *
                obtain ⟨bo, oo, rfl, Ro⟩ := O9.out.row.row (by simp)
                have hc7 := O9.out.len
                simp only [List.length_cons] at hc7 ⊢
                have hc7m := O9.out.most
                have hc7i : (S8.length : Int) + 1 ≤ (c7 : Int) := by omega
                have hc71 : (1 : Int) ≤ (c7 : Int) := by omega
                have hs1 : (1 : Int) ≤ (S8.length : Int) + 1 := by omega
                have hs0 : (0 : Int) < (S8.length : Int) + 1 := by omega
                have cc : ∀ (c oo : Nat) (v : Value), W9.cell? ⟨c, oo, none⟩ = some v → ∀ u : Later W9, u.val.cell? ⟨c, oo, none⟩ = some v := fun c oo v hv u => (u.cell c oo (cell_lt hv)).trans hv
                have xs := Ro.cell 0 (by simp)
                have hRx : itAt (⟨yh, yl, yo, yi⟩ :: S8) 0 = ⟨yh, yl, yo, yi⟩ := rfl
                rw [hRx] at xs
                have x0 := xs 0 _ rfl
                have x1 := xs 1 _ rfl
                have x2 := xs 2 _ rfl
                have x3 := xs 3 _ rfl
                simp only [Nat.zero_mul, Nat.add_zero] at x0 x1 x2 x3
                replace x0 := cc _ _ _ x0
                replace x1 := cc _ _ _ x1
                replace x2 := cc _ _ _ x2
                replace x3 := cc _ _ _ x3
                have q0 := fun u : Later W9 => u.blk BW.out
                clear xs Ro hRx cc
                refine wp_region_late 8 (by kernel_rfl) (by kernel_rfl) ?_
                simp only [List.take_succ_cons, List.take_zero, List.drop_succ_cons, List.drop_zero]
                iterate 8 (go_big_quiet_step (fail))
                refine wpQuiet_nil ?_
                intro w10 h10'
                have h10 := late_out h10'
                have hB9 : B ≤ W9.heap.size := by have := D9.out.size; omega
                have D10 := hid (D9.out.trans (h10.mono hB9))
                have O10 := hid (O9.out.more h10)
                have H10 := hid (H9.out.more h10)
                clear h10' h10 x0 x1 x2 x3 q0 O9 H9 D9 BW
                have hnn : ((S8.length : Int) != (S8.length : Int)) = false := by simp
                by_cases hc1 : c7 = 1
                · subst hc1
                  have OB : Hid (OwnR w10 B v8 (some ⟨bo, oo, none⟩) 0 S8) := hid (by have h := O10.out.back 1 (by simp); simpa [from4] using h)
                  clear O10
                  go_wp2_with fail
                  refine (KL.out _ H10.out).mono ?_
                  rintro e w11 ⟨rfl, rfl⟩
                  go_wp2_with fail
                  go_roundw
                  case rel => exact ⟨i + 1, v8, L8, S8, _, _, by omega, by go_num, by rw [show S8.length = 0 from by omega], H10.out, ok8h.out, P8h.out, W8.out, by omega, OB.out, D10.out⟩
                  case measure => simp [intOf]; omega
                · have OB : Hid (OwnR w10 B v8 (some ⟨bo, oo + 4, none⟩) (c7 - 1) S8) := hid (by have h := O10.out.back 1 (by simp); simpa [from4, hc1, Addr.add] using h)
                  clear O10
                  go_wp2_with fail
                  refine (KL.out _ H10.out).mono ?_
                  rintro e w11 ⟨rfl, rfl⟩
                  go_wp2_with fail
                  go_roundw
                  case rel => exact ⟨i + 1, v8, L8, S8, _, _, by omega, by go_num, rfl, H10.out, ok8h.out, P8h.out, W8.out, by omega, OB.out, D10.out⟩
                  case measure => simp [intOf]; omega
              · have hL3' : L3.length = S7.length := hL3.symm
                have KL := hid (hlen_any B B v3 L3 wc H7.out)
                rw [hL3'] at KL
                have hnn : ((S7.length : Int) != (S7.length : Int)) = false := by simp
                have P7h := hid P7
                have W7h := hid W7
                have O7h := hid O7
                clear P7 W7 O7 hL3
                by_cases hp1 : i < np
                · have hp2 : gb i = false := by
                    cases h : gb i with
                    | false => rfl
                    | true => exact absurd ⟨hp1, h⟩ hp
                  have hi1 : (i : Int) < (np : Int) := by omega
                  obtain ⟨bp, op, rfl, Rp0⟩ := HP1.out.row (by omega)
                  have Rp := Rp0.below D7.out (by have := Rp0.lt; omega)
                  have zp := Rp.at0 hp1 (v := .bool (gb i)) rfl
                  rw [hp2, Nat.mul_one] at zp
                  clear Rp Rp0 hp
                  go_wp2_with fail
                  refine KL.out.mono ?_
                  rintro e w8 ⟨rfl, rfl⟩
                  go_wp2_with fail
                  go_roundw
                  case rel => exact ⟨i + 1, _, _, S7, q7, c7, by omega, by go_num, rfl, H7.out, ok3h.out, P7h.out, W7h.out, by have := hl7.out; omega, O7h.out, D7.out⟩
                  case measure => simp [intOf]; omega
                · have hi1 : decide ((i : Int) < (np : Int)) = false := decide_eq_false (by omega)
                  clear hp
                  go_wp2_with fail
                  refine KL.out.mono ?_
                  rintro e w8 ⟨rfl, rfl⟩
                  go_wp2_with fail
                  go_roundw
                  case rel => exact ⟨i + 1, _, _, S7, q7, c7, by omega, by go_num, rfl, H7.out, ok3h.out, P7h.out, W7h.out, by have := hl7.out; omega, O7h.out, D7.out⟩
                  case measure => simp [intOf]; omega
    · obtain rfl : i = M := by omega
      have hends : (decide ((i : Int) < (n : Int)) = false ∧ decide (i < n) = false) ∨ ((i : Int) < (n : Int) ∧ decide ((i : Int) < 60) = false) := by
        rcases hMor.out with h | ⟨h, h'⟩
        · exact .inl ⟨decide_eq_false (by omega), decide_eq_false (by omega)⟩
        · exact .inr ⟨by omega, decide_eq_false (by omega)⟩
      clear H2 ok2 P2 W2 O2 B2
      have hSl : S.length ≤ 60 := by omega
      rcases hends with ⟨he1, he2⟩ | ⟨he1, he2⟩
      all_goals
        go_wp2_with fail
        go_loopw [11] (fun s wx => ∃ (j : Nat) (vh : Value) (L : List It), j ≤ S.length ∧ s = .int .i64 (j : Int) ∧ HeapS wx B B vh L ∧ HeapOk L ∧ (S.drop j).Perm L ∧ OwnR wx B vh q cq S ∧ Below B w1 wx) (fun s _ => S.length - (intOf s).toNat)
        case atStart => exact ⟨0, _, L, by omega, rfl, H2h.out, ok2h.out, P2h.out, O2h.out, B2h.out⟩
        case round =>
          obtain ⟨j, vj, Lj, hj, rfl, H3, ok3, P3, O3, B3⟩ := hrel
          have H3h := hid H3
          have ok3h := hid ok3
          have P3h := hid P3
          have O3h := hid O3
          have B3h := hid B3
          have hBw : B ≤ wr.heap.size := by have := B3.size; omega
          by_cases hlt : j < S.length
          · have hlt1 : (j : Int) < (S.length : Int) := by omega
            have hj0 : (0 : Int) ≤ (j : Int) := by omega
            have hcons : S.drop j = itAt S j :: S.drop (j + 1) := by rw [itAt_eq S j hlt]; exact (List.drop_eq_getElem_cons hlt)
            have hLl : Lj.length = S.length - j := by rw [← P3.length_eq, List.length_drop]
            rw [hcons] at P3
            have W3 : (itAt S j :: S.drop (j + 1)).Pairwise leI := hcons ▸ (W2h.out.sublist (List.drop_sublist _ _))
            have KP := hid (pop_any B B vj Lj ok3 (by omega) (by omega) wr H3)
            rw [first_same ok3 W3 P3] at KP
            have P3c := hid P3
            have hfr := hid (fun w' S' => H3h.out.frame (w' := w') hBw (Nat.le_refl B) (Nat.le_refl B) S')
            obtain ⟨x, hx⟩ : ∃ x, itAt S j = x := ⟨_, rfl⟩
            rw [hx] at KP P3c
            obtain ⟨yh, yl, yo, yi⟩ := x
            have hee : eqI8 yh yl yo yi yh yl yo yi = true := by simp [eqI8]
            unfold itval at KP
            simp only at KP
            have hxh := hid hx
            clear H3 ok3 P3 O3 B3 W3 hcons hx
            go_wp2_with fail
            refine KP.out.mono ?_
            rintro e w8 ⟨rfl, v8, L8, hl8, ok8, P8, H8, hv8, S8'⟩
            have O8 := hid (O3h.out.call S8' (fun j hj => .inl (hv8 ▸ hj)))
            have D8 := hid (B3h.out.trans (hfr.out _ S8'))
            have H8h := hid H8
            have ok8h := hid ok8
            have P8h := hid (show (S.drop (j + 1)).Perm L8 from (List.perm_cons _).1 (P3c.out.trans P8.symm))
            clear KP hfr S8' H8 ok8 P8 hv8 hl8 H3h O3h P3h P3c hLl
            have HbW : Below w8.heap.size w8 (w8.alloc (.cells #[.int .u64 yh, .int .u64 yl, .int .i64 yo, .int .i64 yi] 55)) := (Below.refl _ _).alloc (Nat.le_refl _) _
            have hB8 : B ≤ w8.heap.size := by have := D8.out.size; omega
            have BW := hid (Blk.new w8 #[.int .u64 yh, .int .u64 yl, .int .i64 yo, .int .i64 yi] 55)
            have O9 := hid (O8.out.more HbW)
            have H9 := hid (H8h.out.more HbW)
            have D9 := hid (D8.out.trans (HbW.mono hB8))
            clear HbW O8 H8h D8
            go_wp2_with fail
            generalize w8.alloc (.cells #[.int .u64 yh, .int .u64 yl, .int .i64 yo, .int .i64 yi] 55) = W9 at *
            obtain ⟨bo, oo, rfl, Ro⟩ := O9.out.row.row (by omega)
            have cc : ∀ (c oo : Nat) (v : Value), W9.cell? ⟨c, oo, none⟩ = some v → ∀ u : Later W9, u.val.cell? ⟨c, oo, none⟩ = some v := fun c oo v hv u => (u.cell c oo (cell_lt hv)).trans hv
            have xs := Ro.cell j hlt
            rw [hxh.out] at xs
            have x0 := xs 0 _ rfl
            have x1 := xs 1 _ rfl
            have x2 := xs 2 _ rfl
            have x3 := xs 3 _ rfl
            simp only [Nat.add_zero] at x0 x1 x2 x3
            replace x0 := cc _ _ _ x0
            replace x1 := cc _ _ _ x1
            replace x2 := cc _ _ _ x2
            replace x3 := cc _ _ _ x3
            have q0 := fun u : Later W9 => u.blk BW.out
            have hjw : IntKind.i64.wrap ((j : Int) + 1) = (j : Int) + 1 := IntWalk.i64_in _ ⟨by omega, by omega⟩
            clear xs Ro cc
            refine wp_region_late 9 (by kernel_rfl) (by kernel_rfl) ?_
            simp only [List.take_succ_cons, List.take_zero, List.drop_succ_cons, List.drop_zero]
            iterate 9 (go_big_quiet_step (fail))
            refine wpQuiet_nil ?_
            intro w10 h10'
            have h10 := late_out h10'
            have hB9 : B ≤ W9.heap.size := by have := D9.out.size; omega
            have D10 := hid (D9.out.trans (h10.mono hB9))
            have O10 := hid (O9.out.more h10)
            have H10 := hid (H9.out.more h10)
            clear h10' h10 x0 x1 x2 x3 q0 O9 H9 D9 BW
            go_wp2_with fail
            go_roundw
            case rel => exact ⟨j + 1, v8, L8, by omega, by go_num, H10.out, ok8h.out, P8h.out, O10.out, D10.out⟩
            case measure => simp [intOf]; omega
          · obtain rfl : j = S.length := by omega
            have hnil : Lj = [] := by rw [List.drop_length] at P3; exact (List.nil_perm.1 P3)
            rw [hnil] at H3
            have KP := hid (pop_empty B B vj wr H3)
            clear H3 ok3 P3 O3 B3 hnil
            unfold itval zIt at KP
            simp only at KP
            go_wp2_with fail
            refine KP.out.mono ?_
            rintro e w8 ⟨rfl, hb8⟩
            have D8 := hid (below2 B3h.out hb8 hBw)
            clear hb8 KP
            go_wp2_with fail
            go_ret
            have D9 := below2 hb1h.out (show Below w1.heap.size w1 w8 by rw [hB]; exact D8.out) hb1h.out.size
            exact ⟨rfl, D9.alloc D9.size _⟩
end Go.Proofs.Ytibjccfillhfpaa
