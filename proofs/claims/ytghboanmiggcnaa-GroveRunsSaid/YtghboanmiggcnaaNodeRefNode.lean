/-
  The document's own nodes: may one be?
-/
import Derived.Test.YtghboanmiggcnaaNode
namespace Go.Proofs.Ytghboanmiggcnaa
open Go.RowKit
set_option linter.unusedVariables false
set_option linter.unusedSimpArgs false

theorem refq_ways (k c : Int) : (goodQ k c = false ∧ k < 0) ∨ (goodQ k c = false ∧ decide (k < 0) = false ∧ 255 < k) ∨ (goodQ k c = false ∧ decide (k < 0) = false ∧ decide (255 < k) = false ∧ c < 0) ∨
    (goodQ k c = false ∧ decide (k < 0) = false ∧ decide (255 < k) = false ∧ decide (c < 0) = false ∧ 65535 < c) ∨
    (goodQ k c = false ∧ decide (k < 0) = false ∧ decide (255 < k) = false ∧ decide (c < 0) = false ∧ decide (65535 < c) = false ∧ 0 < k ∧ decide (0 < c) = false) ∨
    (goodQ k c = false ∧ decide (k < 0) = false ∧ decide (255 < k) = false ∧ decide (c < 0) = false ∧ decide (65535 < c) = false ∧ decide (0 < k) = false ∧ 0 < c) ∨
    (goodQ k c = true ∧ decide (k < 0) = false ∧ decide (255 < k) = false ∧ decide (c < 0) = false ∧ decide (65535 < c) = false ∧ 0 < k ∧ 0 < c) ∨
    (goodQ k c = true ∧ decide (k < 0) = false ∧ decide (255 < k) = false ∧ decide (c < 0) = false ∧ decide (65535 < c) = false ∧ decide (0 < k) = false ∧ decide (0 < c) = false ∧ Hid (k = 0)) := by
  have hf : ¬ (0 ≤ k ∧ k ≤ 255 ∧ 0 ≤ c ∧ c ≤ 65535 ∧ (k = 0 ↔ c = 0)) → goodQ k c = false := fun h => by
    cases hg : goodQ k c with
    | false => rfl
    | true => exact absurd ((goodQ_iff k c).1 hg) h
  by_cases h1 : k < 0
  · exact .inl ⟨hf (by omega), h1⟩
  by_cases h2 : 255 < k
  · exact .inr (.inl ⟨hf (by omega), decide_eq_false h1, h2⟩)
  by_cases h3 : c < 0
  · exact .inr (.inr (.inl ⟨hf (by omega), decide_eq_false h1, decide_eq_false h2, h3⟩))
  by_cases h4 : 65535 < c
  · exact .inr (.inr (.inr (.inl ⟨hf (by omega), decide_eq_false h1, decide_eq_false h2, decide_eq_false h3, h4⟩)))
  by_cases h5 : 0 < k
  · by_cases h6 : 0 < c
    · exact .inr (.inr (.inr (.inr (.inr (.inr (.inl ⟨(goodQ_iff k c).2 (by omega), decide_eq_false h1, decide_eq_false h2, decide_eq_false h3, decide_eq_false h4, h5, h6⟩))))))
    · exact .inr (.inr (.inr (.inr (.inl ⟨hf (by omega), decide_eq_false h1, decide_eq_false h2, decide_eq_false h3, decide_eq_false h4, h5, decide_eq_false h6⟩))))
  · by_cases h6 : 0 < c
    · exact .inr (.inr (.inr (.inr (.inr (.inl ⟨hf (by omega), decide_eq_false h1, decide_eq_false h2, decide_eq_false h3, decide_eq_false h4, decide_eq_false h5, h6⟩)))))
    · exact .inr (.inr (.inr (.inr (.inr (.inr (.inr ⟨(goodQ_iff k c).2 (by omega), decide_eq_false h1, decide_eq_false h2, decide_eq_false h3, decide_eq_false h4, decide_eq_false h5, decide_eq_false h6, hid (by omega)⟩))))))
theorem zeroA_iff (k : Nat → Int) : zeroA k = true ↔ ∀ i, i < 4 → k i = 0 := eqA_iff k fun _ => 0
theorem leafB_of {n : Nat} {f : Nat → Pt} {nx : Int} {k c : Nat → Int} (h : nodeB true n f nx k c = true) : n ≤ 4 ∧ 0 ≤ nx ∧ nx ≤ 255 ∧ zeroA k = true ∧ zeroA c = true ∧ ∀ i, i < n → goodL f i = true := by
  have h : leafB n f nx k c = true := h
  unfold leafB at h
  simp only [Bool.and_eq_true, decide_eq_true_eq] at h
  exact ⟨h.1, h.2.1, h.2.2.1, h.2.2.2.1, h.2.2.2.2.1, (allL_iff f n).1 h.2.2.2.2.2⟩
/-- A quarter that may not be, or of a leaf is there. -/
theorem nodeB_bad {lf : Bool} {n : Nat} {f : Nat → Pt} {nx : Int} {k c : Nat → Int} {q : Nat} (hq : q < 4) (h : goodQ (k q) (c q) = false ∨ (lf = true ∧ 0 < k q)) : nodeB lf n f nx k c = false := by
  cases hB : nodeB lf n f nx k c with
  | false => rfl
  | true =>
    exfalso
    cases lf with
    | true =>
      obtain ⟨_, _, _, z1, z2, _⟩ := leafB_of hB
      have e1 := (zeroA_iff k).1 z1 q hq
      have e2 := (zeroA_iff c).1 z2 q hq
      rcases h with h | ⟨_, h⟩
      · rw [e1, e2] at h; cases h
      · omega
    | false =>
      have hb : otherB n nx k c = true := hB
      unfold otherB at hb
      simp only [Bool.and_eq_true] at hb
      have := (allQ_iff k c 4).1 hb.2.2 q hq
      rcases h with h | ⟨h, _⟩
      · rw [h] at this; cases this
      · cases h
theorem zero_of {k c : Nat → Int} (ha : allQ k c 4 = true) (hz : ∀ i, i < 4 → k i = 0) : zeroA k = true ∧ zeroA c = true :=
  ⟨(zeroA_iff k).2 hz, (zeroA_iff c).2 fun i hi => by
    have := (goodQ_iff _ _).1 ((allQ_iff k c 4).1 ha i hi)
    have := hz i hi
    omega⟩

set_option maxRecDepth 100000 in
set_option maxHeartbeats 16000000 in
theorem refNode_any (lf : Bool) (p : Option Addr) (n cap : Nat) (f : Nat → Pt) (hf : ∀ i, i < n → (f i).ok) (nx : Int) (k c : Nat → Int) (h1 : n ≤ cap) (h2 : cap ≤ maxLen) (w : World) (HR : RowP w p 4 n (fun i => pcells (f i))) :
    Calls Try.prog 9 #[ndval lf (.slice p n cap) nx k c] w fun e w' => e = .returned (.bool (nodeB lf n f nx k c)) ∧ Below w.heap.size w w' := by
  have hb0 : Below w.heap.size w (w.alloc (.cells (ndcells lf (.slice p n cap) nx k c) 29)) := (Below.refl _ _).alloc (Nat.le_refl _) _
  have BX := Blk.new w (ndcells lf (.slice p n cap) nx k c) 29
  have D0 := hid hb0
  have HBX := hid BX
  have HR0 := hid HR
  have HF := hid hf
  have kf : Hid (∀ q, q < 4 → (ndcells lf (.slice p n cap) nx k c)[3 + q]? = some (.int .i64 (k q))) := hid (fun q hq => by
    match q, hq with
    | 0, _ => rfl
    | 1, _ => rfl
    | 2, _ => rfl
    | 3, _ => rfl)
  have cf : Hid (∀ q, q < 4 → (ndcells lf (.slice p n cap) nx k c)[7 + q]? = some (.int .i64 (c q))) := hid (fun q hq => by
    match q, hq with
    | 0, _ => rfl
    | 1, _ => rfl
    | 2, _ => rfl
    | 3, _ => rfl)
  have lff : Hid ((ndcells lf (.slice p n cap) nx k c)[0]? = some (.bool lf)) := hid rfl
  have hbadq := hid (fun q hq h => nodeB_bad (lf := lf) (n := n) (f := f) (nx := nx) (k := k) (c := c) (q := q) hq h)
  have hB : Hid (allQ k c 4 = true → (lf = true → ∀ i, i < 4 → k i = 0) → nodeB lf n f nx k c = if lf then (decide (n ≤ 4) && (decide (0 ≤ nx) && (decide (nx ≤ 255) && allL f n))) else (decide (n = 0) && decide (nx = 0))) := hid (fun ha hz => by
    cases lf with
    | true =>
      obtain ⟨z1, z2⟩ := zero_of ha (hz rfl)
      show leafB n f nx k c = _
      unfold leafB
      rw [z1, z2]
      simp
    | false =>
      show otherB n nx k c = _
      unfold otherB
      rw [ha]
      simp)
  generalize nodeB lf n f nx k c = B at *
  unfold maxLen at h2
  clear hb0 BX HR hf
  obtain ⟨lx, kx, fx⟩ := HBX.out
  go_enter Try.func9, Try.ntmps9
  go_wp2_with fail
  go_loopw [3, 4, 5] (fun i z4 z5 wx => ∃ q : Nat, q ≤ 4 ∧ i = .int .i64 (q : Int) ∧ allQ k c q = true ∧ (lf = true → ∀ i, i < q → k i = 0) ∧ Below (w.alloc (.cells (ndcells lf (.slice p n cap) nx k c) 29)).heap.size (w.alloc (.cells (ndcells lf (.slice p n cap) nx k c) 29)) wx) (fun i _ _ _ => 4 - (intOf i).toNat)
  case atStart => exact ⟨0, by omega, rfl, rfl, fun _ i hi => absurd hi (Nat.not_lt_zero _), Below.refl _ _⟩
  case round =>
    obtain ⟨q, hq, rfl, ha, hz, hb⟩ := hrel
    have HB := hid (HBX.out.more hb)
    have D1 := hid (below2 D0.out hb D0.out.size)
    clear lx kx fx
    by_cases hlt : q < 4
    · have z0 := (HB.out.cell (3 + q)).trans (kf.out q hlt)
      have z1 := (HB.out.cell (7 + q)).trans (cf.out q hlt)
      have z2 := (HB.out.cell 0).trans lff.out
      have ways := refq_ways (k q) (c q)
      have hbq := hid (fun h => hbadq.out q hlt h)
      have hst : allQ k c (q + 1) = (allQ k c q && goodQ (k q) (c q)) := rfl
      rw [ha, Bool.true_and] at hst
      have hzz := hid (fun (hk : k q = 0) (h : lf = true) (i : Nat) (hi : i < q + 1) => (show k i = 0 from by
        by_cases e : i = q
        · rw [e]; exact hk
        · exact hz h i (by omega)))
      have hzf := hid (fun (h : lf = false) (h' : lf = true) (i : Nat) (hi : i < q + 1) => (show k i = 0 from by rw [h] at h'; cases h'))
      replace hst := hid hst
      replace hb := hid hb
      replace hz := hid hz
      replace ha := hid ha
      generalize k q = kq at *
      generalize c q = cq at *
      go_wp2_with fail
      go_region
      rcases ways with ⟨hg, g1⟩ | ⟨hg, g1, g2⟩ | ⟨hg, g1, g2, g3⟩ | ⟨hg, g1, g2, g3, g4⟩ | ⟨hg, g1, g2, g3, g4, g5, g6⟩ | ⟨hg, g1, g2, g3, g4, g5, g6⟩ | ⟨hg, g1, g2, g3, g4, g5, g6⟩ | ⟨hg, g1, g2, g3, g4, g5, g6, g7⟩
      iterate 6
       focus
        have hBf := hid (hbq.out (.inl hg))
        replace hg := hid hg
        go_wp2_with fail
        go_ret
        exact ⟨by rw [hBf.out]; rfl, D1.out.drew⟩
      · have hs := hid (show allQ k c (q + 1) = true by rw [hst.out, hg])
        have hg5 := hid g5
        replace hg := hid hg
        by_cases hlf : lf = true
        · have hBf := hid (hbq.out (.inr ⟨hlf, hg5.out⟩))
          rw [hlf] at z2
          replace hlf := hid hlf
          go_wp2_with fail
          go_ret
          exact ⟨by rw [hBf.out]; rfl, D1.out.drew⟩
        · have hlf' : lf = false := by simpa using hlf
          rw [hlf'] at z2
          replace hlf' := hid hlf'
          clear hlf
          go_wp2_with fail
          go_roundw
          case rel => exact ⟨q + 1, by omega, by go_num, hs.out, hzf.out hlf'.out, hb.out.drew⟩
          case measure => simp [intOf]; omega
      · have hs := hid (show allQ k c (q + 1) = true by rw [hst.out, hg])
        replace hg := hid hg
        by_cases hlf : lf = true
        · rw [hlf] at z2
          replace hlf := hid hlf
          go_wp2_with fail
          go_roundw
          case rel => exact ⟨q + 1, by omega, by go_num, hs.out, hzz.out g7.out, hb.out.drew⟩
          case measure => simp [intOf]; omega
        · have hlf' : lf = false := by simpa using hlf
          rw [hlf'] at z2
          replace hlf' := hid hlf'
          clear hlf
          go_wp2_with fail
          go_roundw
          case rel => exact ⟨q + 1, by omega, by go_num, hs.out, hzf.out hlf'.out, hb.out.drew⟩
          case measure => simp [intOf]; omega
    · obtain rfl : q = 4 := by omega
      have hBB := hB.out ha hz
      have z2 := (HB.out.cell 0).trans lff.out
      have x1 : _ := HB.out.cell 1
      have x2 : _ := HB.out.cell 2
      have hb1 := hid hb
      clear ha hz hb hbadq hB kf cf lff
      by_cases hlf : lf = true
      · rw [hlf] at hBB z2
        replace hlf := hid hlf
        have hB2 : B = (decide (n ≤ 4) && (decide (0 ≤ nx) && (decide (nx ≤ 255) && allL f n))) := hBB
        clear hBB
        replace hB2 := hid hB2
        go_wp2_with fail
        clear z2 x1 x2
        go_loopw [6] (fun i wx => ∃ j : Nat, j ≤ n ∧ i = .int .i64 (j : Int) ∧ allL f j = true ∧ Below (w.alloc (.cells (ndcells lf (.slice p n cap) nx k c) 29)).heap.size (w.alloc (.cells (ndcells lf (.slice p n cap) nx k c) 29)) wx) (fun i _ => n - (intOf i).toNat)
        case atStart => exact ⟨0, by omega, rfl, rfl, hb1.out⟩
        case round =>
          clear hb1 HB D1
          obtain ⟨j, hj, rfl, ha, hb⟩ := hrel
          have HB := hid (HBX.out.more hb)
          have D1 := hid (below2 D0.out hb D0.out.size)
          by_cases hlt : j < n
          · obtain ⟨b, o, rfl, R0⟩ := HR0.out.row (by omega)
            have RR := R0.more D1.out
            have z0 := RR.at0 hlt (v := .int .i64 (f j).id) rfl
            have z1 := RR.at1 hlt (v := .int .u32 (f j).x) rfl
            have z2 := RR.at2 hlt (v := .int .u32 (f j).y) rfl
            have z3 := RR.at3 hlt (v := .string (f j).d) rfl
            have x1 : _ := HB.out.cell 1
            have q1 := fun u : Later _ => u.blk HB.out
            have q2 := fun u : Later _ => (u.cell b (o + j * 4) RR.lt).trans z0
            have q3 := fun u : Later _ => (u.cell b (o + j * 4 + 1) RR.lt).trans z1
            have q4 := fun u : Later _ => (u.cell b (o + j * 4 + 2) RR.lt).trans z2
            have q5 := fun u : Later _ => (u.cell b (o + j * 4 + 3) RR.lt).trans z3
            have hst : allL f (j + 1) = (allL f j && goodL f j) := rfl
            rw [ha, Bool.true_and] at hst
            have hbad := hid (fun h => allL_bad f (i := j) h n hlt)
            have KM := hid (may_any (f j) (HF.out j hlt))
            have hgl : goodL f j = (decide (f j).may && (decide (j = 0) || decide ((f (j - 1)).id < (f j).id))) := rfl
            have hb2 := hid hb
            go_wp2_with fail
            clear z0 z1 z2 z3 R0 HB hb x1
            by_cases hm : (f j).may
            · rw [decide_eq_true hm, Bool.true_and] at hgl
              rw [decide_eq_true hm] at KM
              by_cases hpos : 0 < (j : Int)
              · obtain ⟨i, hi⟩ : ∃ i, j = i + 1 := ⟨j - 1, by omega⟩
                have uq : IntKind.i64.wrap ((j : Int) - 1) = (i : Int) := by rw [IntWalk.i64_in _ (by omega)]; omega
                have hin : i < n := by omega
                have hp2 : 0 < j := by omega
                rw [decide_eq_false (show ¬ j = 0 by omega), Bool.false_or, show j - 1 = i by omega] at hgl
                have y0 := RR.at0 hin (v := .int .i64 (f i).id) rfl
                have q6 := fun u : Later _ => (u.cell b (o + i * 4) RR.lt).trans y0
                replace hi := hid hi
                rw [hgl] at hst
                replace ha := hid ha
                clear hm y0 RR
                by_cases hlq : (f i).id < (f j).id
                · have hle : decide ((f j).id ≤ (f i).id) = false := decide_eq_false (by omega)
                  rw [decide_eq_true hlq] at hst
                  have hs := hid hst
                  replace hgl := hid hgl
                  clear hst hlq
                  refine wp_region_late 26 (by kernel_rfl) (by kernel_rfl) ?_
                  simp only [List.take_succ_cons, List.take_zero, List.drop_succ_cons, List.drop_zero]
                  repeat (go_big_quiet_step (((go_at_call 30; (with_reducible exact late_call (KM.out _))))))
                  refine wpQuiet_nil ?_
                  intro w7 h7'
                  have h7 := late_out h7'
                  have hb7 := hid (below2 hb2.out h7 hb2.out.size)
                  clear h7' h7 q1 q2 q3 q4 q5 q6
                  go_wp2_with fail
                  go_roundw
                  case rel => exact ⟨j + 1, by omega, by go_num, hs.out, hb7.out⟩
                  case measure => simp [intOf]; omega
                · have hle : (f j).id ≤ (f i).id := by omega
                  rw [decide_eq_false hlq] at hgl
                  have hBf := hid (show B = false by rw [hB2.out, hbad.out hgl]; simp)
                  replace hgl := hid hgl
                  replace hst := hid hst
                  clear hlq
                  refine wp_region_late 26 (by kernel_rfl) (by kernel_rfl) ?_
                  simp only [List.take_succ_cons, List.take_zero, List.drop_succ_cons, List.drop_zero]
                  repeat (go_big_quiet_step (((go_at_call 30; (with_reducible exact late_call (KM.out _))))))
                  refine wpQuiet_nil ?_
                  intro w7 h7'
                  have h7 := late_out h7'
                  have D7 := hid (below2 D1.out h7 D1.out.size)
                  clear h7' h7 q1 q2 q3 q4 q5 q6
                  go_wp2_with fail
                  go_ret
                  exact ⟨by rw [hBf.out]; rfl, D7.out⟩
              · have q00 : j = 0 := by omega
                rw [show (decide (j = 0) || decide ((f (j - 1)).id < (f j).id)) = true by simp [q00]] at hgl
                have hs := hid (show allL f (j + 1) = true by rw [hst, hgl])
                have hp' : decide (0 < (j : Int)) = false := decide_eq_false hpos
                have hp2 : decide (0 < j) = false := decide_eq_false (by omega)
                replace q00 := hid q00
                replace hst := hid hst
                replace hgl := hid hgl
                replace ha := hid ha
                clear hm hpos RR
                refine wp_region_late 26 (by kernel_rfl) (by kernel_rfl) ?_
                simp only [List.take_succ_cons, List.take_zero, List.drop_succ_cons, List.drop_zero]
                repeat (go_big_quiet_step (((go_at_call 30; (with_reducible exact late_call (KM.out _))))))
                refine wpQuiet_nil ?_
                intro w7 h7'
                have h7 := late_out h7'
                have hb7 := hid (below2 hb2.out h7 hb2.out.size)
                clear h7' h7 q1 q2 q3 q4 q5
                go_wp2_with fail
                go_roundw
                case rel => exact ⟨j + 1, by omega, by go_num, hs.out, hb7.out⟩
                case measure => simp [intOf]; omega
            · rw [decide_eq_false hm, Bool.false_and] at hgl
              rw [decide_eq_false hm] at KM
              have hBf := hid (show B = false by rw [hB2.out, hbad.out hgl]; simp)
              replace hgl := hid hgl
              replace hst := hid hst
              replace ha := hid ha
              clear hm RR
              refine wp_region_late 26 (by kernel_rfl) (by kernel_rfl) ?_
              simp only [List.take_succ_cons, List.take_zero, List.drop_succ_cons, List.drop_zero]
              repeat (go_big_quiet_step (((go_at_call 30; (with_reducible exact late_call (KM.out _))))))
              refine wpQuiet_nil ?_
              intro w7 h7'
              have h7 := late_out h7'
              have D7 := hid (below2 D1.out h7 D1.out.size)
              clear h7' h7 q1 q2 q3 q4 q5
              go_wp2_with fail
              go_ret
              exact ⟨by rw [hBf.out]; rfl, D7.out⟩
          · obtain rfl : j = n := by omega
            have hB3 := hB2.out
            rw [ha, Bool.and_true] at hB3
            replace ha := hid ha
            replace hb := hid hb
            have x1 : _ := HB.out.cell 1
            have x2 : _ := HB.out.cell 2
            by_cases g1 : (j : Int) ≤ 4
            · rw [decide_eq_true (show j ≤ 4 by omega), Bool.true_and] at hB3
              have g1n : j ≤ 4 := by omega
              by_cases g2 : 0 ≤ nx
              · rw [decide_eq_true g2, Bool.true_and] at hB3
                by_cases g3 : nx ≤ 255
                · rw [decide_eq_true g3] at hB3
                  replace hB3 := hid hB3
                  go_wp2_with fail
                  go_ret
                  exact ⟨by rw [hB3.out]; simp, D1.out⟩
                · rw [decide_eq_false g3] at hB3
                  replace hB3 := hid hB3
                  replace g3 := decide_eq_false g3
                  go_wp2_with fail
                  go_ret
                  exact ⟨by rw [hB3.out]; simp, D1.out⟩
              · rw [decide_eq_false g2, Bool.false_and] at hB3
                replace hB3 := hid hB3
                replace g2 := decide_eq_false g2
                go_wp2_with fail
                go_ret
                exact ⟨by rw [hB3.out]; simp, D1.out⟩
            · rw [decide_eq_false (show ¬ j ≤ 4 by omega), Bool.false_and] at hB3
              replace hB3 := hid hB3
              have g1n := decide_eq_false (show ¬ j ≤ 4 by omega)
              replace g1 := decide_eq_false g1
              go_wp2_with fail
              go_ret
              exact ⟨by rw [hB3.out]; simp, D1.out⟩
      · have hlf' : lf = false := by simpa using hlf
        rw [hlf'] at hBB z2
        have hB2 : B = (decide (n = 0) && decide (nx = 0)) := hBB
        replace hlf' := hid hlf'
        clear hBB hlf
        by_cases hn : n = 0
        · have hn' : ((n : Int) == 0) = true := by simp; omega
          rw [decide_eq_true hn, Bool.true_and] at hB2
          clear hn
          by_cases hx : nx = 0
          · have hx' : (nx == 0) = true := by simpa using hx
            rw [decide_eq_true hx] at hB2
            replace hB2 := hid hB2
            clear hx
            go_wp2_with fail
            go_ret
            exact ⟨by rw [hB2.out]; rfl, D1.out⟩
          · have hx' : (nx == 0) = false := by simpa using hx
            rw [decide_eq_false hx] at hB2
            replace hB2 := hid hB2
            clear hx
            go_wp2_with fail
            go_ret
            exact ⟨by rw [hB2.out]; rfl, D1.out⟩
        · have hn' : ((n : Int) == 0) = false := by simp; omega
          rw [decide_eq_false hn, Bool.false_and] at hB2
          replace hB2 := hid hB2
          clear hn
          go_wp2_with fail
          go_ret
          exact ⟨by rw [hB2.out]; rfl, D1.out⟩
end Go.Proofs.Ytghboanmiggcnaa
