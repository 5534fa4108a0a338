/-
  package heap: sink.
-/
import Derived.Test.YtibjccfillhfpaaHeapSwap
namespace Go.Proofs.Ytibjccfillhfpaa
open Go.RowKit
set_option linter.unusedVariables false
set_option linter.unusedSimpArgs false

theorem lst_zero (L : List It) (i : Nat) : lst L i 0 = i := rfl
theorem lst_no (L : List It) (i k : Nat) (h : ¬ 2 * i + 1 + k < L.length) : lst L i (k + 1) = lst L i k := by
  show (if 2 * i + 1 + k < L.length ∧ _ then _ else _) = _
  rw [if_neg (fun x => h x.1)]
theorem lst_yes (L : List It) (i k : Nat) (h : 2 * i + 1 + k < L.length) (hl : ltI (itAt L (2 * i + 1 + k)) (itAt L (lst L i k))) : lst L i (k + 1) = 2 * i + 1 + k := by
  show (if 2 * i + 1 + k < L.length ∧ _ then _ else _) = _
  rw [if_pos ⟨h, hl⟩]
theorem lst_not (L : List It) (i k : Nat) (hl : ¬ ltI (itAt L (2 * i + 1 + k)) (itAt L (lst L i k))) : lst L i (k + 1) = lst L i k := by
  show (if 2 * i + 1 + k < L.length ∧ _ then _ else _) = _
  rw [if_neg (fun x => hl x.2)]

set_option maxRecDepth 100000 in
set_option maxHeartbeats 8000000 in
theorem sink_any (h B g cap n i : Nat) (L : List It) (hn : L.length = n) (hi : i < n) (hsm : n ≤ 100000) (hR : SinkOk L i) (w : World) (H : HeapS w h B (.slice (some ⟨g, 0, none⟩) n cap) L) :
    Calls Try.prog 25 #[.pointer (some ⟨h, 0, none⟩), .int .i64 (i : Int)] w fun e w' => e = .returned (.tuple #[]) ∧ ∃ L', L'.length = n ∧ HeapOk L' ∧ L'.Perm L ∧ HeapS w' h B (.slice (some ⟨g, 0, none⟩) n cap) L' ∧ Sole (fun j => j = g) w w' := by
  have HH := hid H
  have hRh := hid hR
  have hgw := hid (show g < w.heap.size by
    obtain ⟨g', cap', e', hb, hgl, _⟩ := H.own.blk (by omega)
    rw [hn] at e'
    cases e'
    exact hgl)
  have hgh := hid (H.ne g rfl)
  have hm63 := hid hsm
  clear H hR
  go_enter Try.func25, Try.ntmps25
  go_wp2_with fail
  go_loopw [1] (fun v wr => ∃ (i' : Nat) (L' : List It), v = .int .i64 (i' : Int) ∧ i' < n ∧ L'.length = n ∧ SinkOk L' i' ∧ L'.Perm L ∧ HeapS wr h B (.slice (some ⟨g, 0, none⟩) n cap) L' ∧ Sole (fun j => j = g) w wr) (fun v _ => n - (intOf v).toNat)
  case atStart => exact ⟨i, L, rfl, hi, hn, hRh.out, List.Perm.refl _, HH.out, Sole.refl _ _⟩
  case round =>
    obtain ⟨j, M, rfl, hj, hM, R1, P1, H1, S1⟩ := hrel
    clear hRh HH hn hi
    obtain ⟨WY, rfl⟩ : ∃ WY, WY = wr := ⟨_, rfl⟩
    have R1h := hid R1
    have P1h := hid P1
    have H1h := hid H1
    have S1h := hid S1
    have hll := hid (lst_lt M j)
    have hstop := hid (fun hm => sink_stop R1 hm)
    have hstep := hid (fun hm => sink_step R1 (by omega) hm)
    have hlok := hid (lst_ok M j)
    have hjn := hid (show (j : Int) < (n : Int) by omega)
    clear R1 P1 H1 S1
    go_wp2_with fail
    go_loopw [4, 8] (fun a v wx => ∃ k : Nat, k ≤ 2 ∧ v = .int .i64 (k : Int) ∧ a = .int .i64 (lst M j k : Int) ∧ Below WY.heap.size WY wx) (fun _ v _ => 2 - (intOf v).toNat)
    case atStart => exact ⟨0, by omega, rfl, rfl, Below.refl _ _⟩
    case round =>
      obtain ⟨k, hk, rfl, rfl, Hb⟩ := hrel
      have H2 := H1h.out.more Hb
      have H2h := hid H2
      have Hbh := hid Hb
      have S2 := hid (S1h.out.trans (Sole.made Hb))
      by_cases hlt : k < 2
      · have hlt1 : (k : Int) < 2 := by omega
        have hlim := hm63.out
        have hjn' := hjn.out
        have hw1 : IntKind.i64.wrap (2 * (j : Int)) = 2 * (j : Int) := IntWalk.i64_in _ ⟨by omega, by omega⟩
        have hw2 : IntKind.i64.wrap (2 * (j : Int) + 1) = 2 * (j : Int) + 1 := IntWalk.i64_in _ ⟨by omega, by omega⟩
        have hw3 : IntKind.i64.wrap (2 * (j : Int) + 1 + (k : Int)) = 2 * (j : Int) + 1 + (k : Int) := IntWalk.i64_in _ ⟨by omega, by omega⟩
        obtain ⟨l0, k0, f0⟩ := H2.box
        have q0 := fun u : Later wr => u.blk H2.box
        by_cases hbn : 2 * j + 1 + k < n
        · have hbn1 : 2 * (j : Int) + 1 + (k : Int) < (n : Int) := by omega
          have hb0 : (0 : Int) ≤ 2 * (j : Int) + 1 + (k : Int) := by omega
          have htn : (2 * (j : Int) + 1 + (k : Int)).toNat = 2 * j + 1 + k := by omega
          obtain ⟨g', cap', e', hb, hgl, hc1, hc2, R, fz⟩ := H2.own.blk (by omega)
          rw [hM] at e' hc1 R
          cases e'
          have hy := hid (lst_yes M j k (by omega))
          have hno := hid (lst_not M j k)
          have hml := hll.out k (by omega)
          rw [hM] at hml
          generalize lst M j k = m at *
          have hml1 : (m : Int) < (n : Int) := by omega
          have hm0 : (0 : Int) ≤ (m : Int) := by omega
          have z0 := R.at0 (i := 2 * j + 1 + k) (by omega) (v := .int .u64 (itAt M (2 * j + 1 + k)).h) rfl
          have z1 := R.at1 (i := 2 * j + 1 + k) (by omega) (v := .int .u64 (itAt M (2 * j + 1 + k)).l) rfl
          have z2 := R.at2 (i := 2 * j + 1 + k) (by omega) (v := .int .i64 (itAt M (2 * j + 1 + k)).o) rfl
          have z3 := R.at3 (i := 2 * j + 1 + k) (by omega) (v := .int .i64 (itAt M (2 * j + 1 + k)).i) rfl
          have y0 := R.at0 (i := m) (by omega) (v := .int .u64 (itAt M m).h) rfl
          have y1 := R.at1 (i := m) (by omega) (v := .int .u64 (itAt M m).l) rfl
          have y2 := R.at2 (i := m) (by omega) (v := .int .i64 (itAt M m).o) rfl
          have y3 := R.at3 (i := m) (by omega) (v := .int .i64 (itAt M m).i) rfl
          simp only [Nat.zero_add] at z0 z1 z2 z3 y0 y1 y2 y3
          have KL := hid (fun w => less_any (itAt M (2 * j + 1 + k)) (itAt M m) w)
          have hls := lessB_eq (itAt M (2 * j + 1 + k)) (itAt M m)
          unfold itval at KL
          have cc : ∀ (c oo : Nat) (v : Value), wr.cell? ⟨c, oo, none⟩ = some v → ∀ u : Later wr, u.val.cell? ⟨c, oo, none⟩ = some v := fun c oo v hv u => (u.cell c oo (cell_lt hv)).trans hv
          have a0 := cc _ _ _ z0
          have a1 := cc _ _ _ z1
          have a2 := cc _ _ _ z2
          have a3 := cc _ _ _ z3
          have b0 := cc _ _ _ y0
          have b1 := cc _ _ _ y1
          have b2 := cc _ _ _ y2
          have b3 := cc _ _ _ y3
          clear R cc z0 z1 z2 z3 y0 y1 y2 y3 H2 Hb l0 k0 f0
          generalize itAt M (2 * j + 1 + k) = X at *
          generalize itAt M m = Y at *
          by_cases hl : ltI X Y
          · rw [decide_eq_true hl] at hls
            rw [hls] at KL
            have hy' := hid (hy.out hl)
            replace hl := hid hl
            clear hls hy hno
            go_wp2_with fail
            refine wp_region_late 23 (by kernel_rfl) (by kernel_rfl) ?_
            simp only [List.take_succ_cons, List.take_zero, List.drop_succ_cons, List.drop_zero]
            iterate 23 (go_big_quiet_step ((go_at_call 33; (with_reducible exact late_call (KL.out _)))))
            refine wpQuiet_nil ?_
            intro w3 h3'
            have h3 := late_out h3'
            have H3 := hid (Hbh.out.trans (h3.mono Hbh.out.size))
            clear h3' h3 a0 a1 a2 a3 b0 b1 b2 b3 q0 H2h Hbh S2
            go_wp2_with fail
            go_roundw
            case rel => exact ⟨k + 1, by omega, by go_num, by rw [hy'.out]; simp, H3.out⟩
            case measure => simp [intOf]; omega
          · rw [decide_eq_false hl] at hls
            rw [hls] at KL
            have hy' := hid (hno.out hl)
            replace hl := hid hl
            clear hls hy hno
            go_wp2_with fail
            refine wp_region_late 23 (by kernel_rfl) (by kernel_rfl) ?_
            simp only [List.take_succ_cons, List.take_zero, List.drop_succ_cons, List.drop_zero]
            iterate 23 (go_big_quiet_step ((go_at_call 33; (with_reducible exact late_call (KL.out _)))))
            refine wpQuiet_nil ?_
            intro w3 h3'
            have h3 := late_out h3'
            have H3 := hid (Hbh.out.trans (h3.mono Hbh.out.size))
            clear h3' h3 a0 a1 a2 a3 b0 b1 b2 b3 q0 H2h Hbh S2
            go_wp2_with fail
            go_roundw
            case rel => exact ⟨k + 1, by omega, by go_num, by rw [hy'.out], H3.out⟩
            case measure => simp [intOf]; omega
        · have hbn1 : ¬ 2 * (j : Int) + 1 + (k : Int) < (n : Int) := by omega
          have hno := hid (lst_no M j k (by omega))
          have hbn2 : (decide (2 * (j : Int) + 1 + (k : Int) < (n : Int))) = false := decide_eq_false hbn1
          generalize lst M j k = m at *
          clear H2 Hb l0 k0 f0
          go_wp2_with fail
          refine wp_region_late 23 (by kernel_rfl) (by kernel_rfl) ?_
          simp only [List.take_succ_cons, List.take_zero, List.drop_succ_cons, List.drop_zero]
          iterate 23 (go_big_quiet_step (fail))
          refine wpQuiet_nil ?_
          intro w3 h3'
          have h3 := late_out h3'
          have H3 := hid (Hbh.out.trans (h3.mono Hbh.out.size))
          clear h3' h3 q0 H2h Hbh S2
          go_wp2_with fail
          go_roundw
          case rel => exact ⟨k + 1, by omega, by go_num, by rw [hno.out], H3.out⟩
          case measure => simp [intOf]; omega
      · obtain rfl : k = 2 := by omega
        by_cases hm : lst M j 2 = j
        · have hok := hid (hstop.out hm)
          rw [hm]
          clear H2 Hb
          go_wp2_with fail
          refine bodyPost_ret (results_none rfl _ _ _) rfl ⟨rfl, M, hM, hok.out, P1h.out, H2h.out, S2.out⟩
        · have hst := hid (hstep.out hm)
          have hmj : j < lst M j 2 := by
            have := hlok.out.at'.resolve_left hm
            omega
          have hml := hll.out 2 (by omega)
          rw [hM] at hml
          generalize lst M j 2 = m at *
          have hne : ((m : Int) == (j : Int)) = false := by rw [beq_eq_false_iff_ne]; omega
          have KS := hid (fun w H => swap_any h B g cap n j m M hM (by omega) (by omega) (by omega) w H)
          have hsp := hid (swp_perm M j m (by omega) (by omega))
          have hsl := hid (swp_len M j m)
          clear H2 Hb
          go_wp2_with fail
          refine (KS.out _ H2h.out).mono ?_
          rintro e w4 ⟨rfl, H4, S4⟩
          have H4h := hid H4
          have S4h := hid (S2.out.trans S4)
          clear H4 S4 H2h S2
          go_wp2_with fail
          go_roundw
          case rel => exact ⟨m, swp M j m, rfl, by omega, by rw [hsl.out, hM], hst.out, hsp.out.trans P1h.out, H4h.out, S4h.out⟩
          case measure => simp [intOf]; omega
end Go.Proofs.Ytibjccfillhfpaa
