/-
  package heap: rise.
-/
import Derived.Test.YtibjccfillhfpaaHeapSwap
namespace Go.Proofs.Ytibjccfillhfpaa
open Go.RowKit
set_option linter.unusedVariables false
set_option linter.unusedSimpArgs false

set_option maxRecDepth 100000 in
set_option maxHeartbeats 4000000 in
theorem rise_any (h B g cap n i : Nat) (L : List It) (hn : L.length = n) (hi : i < n) (hR : RiseOk L i) (w : World) (H : HeapS w h B (.slice (some ⟨g, 0, none⟩) n cap) L) :
    Calls Try.prog 24 #[.pointer (some ⟨h, 0, none⟩), .int .i64 (i : Int)] w fun e w' => e = .returned (.tuple #[]) ∧ ∃ L', L'.length = n ∧ HeapOk L' ∧ L'.Perm L ∧ HeapS w' h B (.slice (some ⟨g, 0, none⟩) n cap) L' ∧ Sole (fun j => j = g) w w' := by
  have HH := hid H
  have hRh := hid hR
  have hgw := hid (show g < w.heap.size by
    obtain ⟨g', cap', e', hb, hgl, _⟩ := H.own.blk (by omega)
    rw [hn] at e'
    cases e'
    exact hgl)
  have hgh := hid (H.ne g rfl)
  have hm63 := hid (show (n : Int) ≤ 9223372036854775807 from by
    obtain ⟨p, cap', e', h1, h2, _⟩ := H.own.open
    unfold maxLen at h2
    rw [hn] at h1
    omega)
  clear H hR
  go_enter Try.func24, Try.ntmps24
  go_wp2_with fail
  go_loopw [1] (fun v wr => ∃ (i' : Nat) (L' : List It), v = .int .i64 (i' : Int) ∧ i' < n ∧ L'.length = n ∧ RiseOk L' i' ∧ L'.Perm L ∧ HeapS wr h B (.slice (some ⟨g, 0, none⟩) n cap) L' ∧ Sole (fun j => j = g) w wr) (fun v _ => (intOf v).toNat)
  case atStart => exact ⟨i, L, rfl, hi, hn, hRh.out, List.Perm.refl _, HH.out, Sole.refl _ _⟩
  case round =>
    obtain ⟨j, M, rfl, hj, hM, R1, P1, H1, S1⟩ := hrel
    clear hRh HH hn
    have R1h := hid R1
    have P1h := hid P1
    have H1h := hid H1
    have S1h := hid S1
    by_cases h0 : j = 0
    · subst h0
      have hok := hid (rise_stop0 R1)
      clear R1 P1 H1 S1
      go_wp2_with fail
      go_end0
      exact ⟨rfl, M, hM, hok.out, P1h.out, H1h.out, S1h.out⟩
    · have hj0 : (0 : Int) < (j : Int) := by omega
      have hj1 : (0 : Int) ≤ (j : Int) := by omega
      have hjn : (j : Int) < (n : Int) := by omega
      obtain ⟨p, hp⟩ : ∃ p, (j - 1) / 2 = p := ⟨_, rfl⟩
      have hpj : p < j := by omega
      have hpn : (p : Int) < (n : Int) := by omega
      have hp0 : (0 : Int) ≤ (p : Int) := by omega
      have hlim := hm63.out
      have hwr : IntKind.i64.wrap ((j : Int) - 1) = (j : Int) - 1 := IntWalk.i64_in _ ⟨by omega, by omega⟩
      have hq : ((j : Int) - 1).tdiv 2 = (p : Int) := by
        rw [Int.tdiv_eq_ediv_of_nonneg (by omega)]
        omega
      have hwp : IntKind.i64.wrap (p : Int) = (p : Int) := IntWalk.i64_in _ ⟨by omega, by omega⟩
      obtain ⟨g', cap', e', hb, hgl, hc1, hc2, R, fz⟩ := H1.own.blk (by omega)
      rw [hM] at e' hc1 R
      cases e'
      have z0 := R.at0 (i := j) (by omega) (v := .int .u64 (itAt M j).h) rfl
      have z1 := R.at1 (i := j) (by omega) (v := .int .u64 (itAt M j).l) rfl
      have z2 := R.at2 (i := j) (by omega) (v := .int .i64 (itAt M j).o) rfl
      have z3 := R.at3 (i := j) (by omega) (v := .int .i64 (itAt M j).i) rfl
      have y0 := R.at0 (i := p) (by omega) (v := .int .u64 (itAt M p).h) rfl
      have y1 := R.at1 (i := p) (by omega) (v := .int .u64 (itAt M p).l) rfl
      have y2 := R.at2 (i := p) (by omega) (v := .int .i64 (itAt M p).o) rfl
      have y3 := R.at3 (i := p) (by omega) (v := .int .i64 (itAt M p).i) rfl
      simp only [Nat.zero_add] at z0 z1 z2 z3 y0 y1 y2 y3
      have KL := hid (fun w => less_any (itAt M j) (itAt M p) w)
      have hls := lessB_eq (itAt M j) (itAt M p)
      have hstep := hid (fun (hl : ltI (itAt M j) (itAt M p)) => rise_step R1 (by omega) (by omega) (by rw [hp]; exact hl))
      have hstop := hid (fun (hl : ¬ ltI (itAt M j) (itAt M p)) => rise_stop R1 (by rw [hp]; exact hl))
      rw [hp] at hstep
      have KS := hid (fun w H => swap_any h B g cap n j p M hM (by omega) (by omega) (by omega) w H)
      have hsp := hid (swp_perm M j p (by omega) (by omega))
      have hsl := hid (swp_len M j p)
      unfold itval at KL
      have q0 := fun u : Later wr => u.blk H1.box
      have cc : ∀ (c oo : Nat) (v : Value), wr.cell? ⟨c, oo, none⟩ = some v → ∀ u : Later wr, u.val.cell? ⟨c, oo, none⟩ = some v := fun c oo v hv u => (u.cell c oo (cell_lt hv)).trans hv
      have a0 := cc _ _ _ z0
      have a1 := cc _ _ _ z1
      have a2 := cc _ _ _ z2
      have a3 := cc _ _ _ z3
      have b0 := cc _ _ _ y0
      have b1 := cc _ _ _ y1
      have b2 := cc _ _ _ y2
      have b3 := cc _ _ _ y3
      replace hp := hid hp
      clear R cc z0 z1 z2 z3 y0 y1 y2 y3 R1 P1 H1 S1 R1h
      generalize itAt M j = X at *
      generalize itAt M p = Y at *
      by_cases hl : ltI X Y
      · rw [decide_eq_true hl] at hls
        rw [hls] at KL
        replace hl := hid hl
        clear hls
        go_wp2_with fail
        refine wp_region_late 15 (by kernel_rfl) (by kernel_rfl) ?_
        simp only [List.take_succ_cons, List.take_zero, List.drop_succ_cons, List.drop_zero]
        iterate 15 (go_big_quiet_step ((go_at_call 33; (with_reducible exact late_call (KL.out _)))))
        refine wpQuiet_nil ?_
        intro w3 h3'
        have h3 := late_out h3'
        have H3 := hid (H1h.out.more h3)
        have S3 := hid (S1h.out.trans (Sole.made h3))
        clear h3' h3 a0 a1 a2 a3 b0 b1 b2 b3 q0 H1h S1h
        go_wp2_with fail
        refine (KS.out _ H3.out).mono ?_
        rintro e w4 ⟨rfl, H4, S4⟩
        have H4h := hid H4
        have S4h := hid (S3.out.trans S4)
        clear H4 S4 H3 S3
        go_wp2_with fail
        go_roundw
        case rel => exact ⟨p, swp M j p, rfl, by omega, by rw [hsl.out, hM], hstep.out hl.out, hsp.out.trans P1h.out, H4h.out, S4h.out⟩
        case measure => simp [intOf]; omega
      · rw [decide_eq_false hl] at hls
        rw [hls] at KL
        replace hl := hid hl
        clear hls
        go_wp2_with fail
        refine wp_region_late 15 (by kernel_rfl) (by kernel_rfl) ?_
        simp only [List.take_succ_cons, List.take_zero, List.drop_succ_cons, List.drop_zero]
        iterate 15 (go_big_quiet_step ((go_at_call 33; (with_reducible exact late_call (KL.out _)))))
        refine wpQuiet_nil ?_
        intro w3 h3'
        have h3 := late_out h3'
        have H3 := hid (H1h.out.more h3)
        have S3 := hid (S1h.out.trans (Sole.made h3))
        clear h3' h3 a0 a1 a2 a3 b0 b1 b2 b3 q0 H1h S1h
        go_wp2_with fail
        refine bodyPost_ret (results_none rfl _ _ _) rfl ⟨rfl, M, hM, hstop.out hl.out, P1h.out, H3.out, S3.out⟩
end Go.Proofs.Ytibjccfillhfpaa
