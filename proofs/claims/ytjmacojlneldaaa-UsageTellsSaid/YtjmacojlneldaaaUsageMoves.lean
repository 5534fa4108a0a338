/-
  Layer 16: a node that goes from one sector to another one takes one off the one's segment, and puts it to the other's. The walk of UsageMoves.
-/
import Derived.Test.YtjmacojlneldaaaUsageLaw
import Derived.Test.YtjmacojlneldaaaQuietLoad
import Derived.Deep.RegionHeld3
import Derived.Deep.DeepCutAuto
namespace Go.Proofs.Ytjmacojlneldaaa
open Go.RowKit
set_option linter.unusedVariables false
set_option linter.unusedSimpArgs false

/-- An array of these numbers. -/
def numsA (k : IntKind) (n : Nat) (F : Nat → Int) : Array Value := Array.ofFn fun i : Fin n => Value.int k (F i)
theorem numsA_nums (k : IntKind) (n : Nat) (F : Nat → Int) : Nums (numsA k n F) k n F := ⟨by simp [numsA], fun j hj => by simp [numsA, hj]⟩
theorem live_val (n z : Int) (c : Array Value) (F : Nat → Int) (hc : Nums c .i64 256 F) (d : Array Value) (hd : Nums d .i64 32 (fun j => cntI n z F 255 j)) (w : World) :
    Calls Try.prog 23 #[geo n z, .agg c] w fun e w' => e = .returned (.agg d) ∧ Below w.heap.size w w' :=
  (live_any n z c F hc w).mono fun e w' h => by
    obtain ⟨d', rfl, h1, h2⟩ := h
    rw [nums_eq h1 hd]
    exact ⟨rfl, h2⟩
/-- Two arrays of the same numbers are one. -/
theorem eql_nums {t : TypeId} {m : Nat} (h : Try.prog.underlying t = some (.array m 3)) {d : Array Value} {F : Nat → Int} (hd : Nums d .i64 m F) (w : World) :
    (Op.equalIn 10000 t (.agg d) (.agg d)).run Try.prog w = .ok true w := by
  have e1 : ∀ w, (isAgg 3).run Try.prog w = .ok false w := fun w => by kernel_rfl
  have e2 : ∀ w, (sizeOf 3).run Try.prog w = .ok 1 w := fun w => by kernel_rfl
  show (Op.equalIn (9998 + 2) t (.agg d) (.agg d)).run Try.prog w = .ok true w
  generalize 9998 = f
  rw [Op.equalIn]
  simp only [Sem.run_bind, run_underlying h, Result.andThen_ok, e2, Std.Legacy.Range.forIn_eq_forIn_range', Std.Legacy.Range.size, Nat.sub_zero, Nat.add_sub_cancel, Nat.div_one]
  have hl : ∀ i ∈ List.range' 0 m 1, i < m := fun i hi => by simpa using (List.mem_range'_1.1 hi).2
  generalize List.range' 0 m 1 = l at hl ⊢
  induction l with
  | nil => simp
  | cons i l ih =>
    have hi : i < m := hl i (by simp)
    have px : (part 3 d (i * 1)).run Try.prog w = .ok (.int .i64 (F i)) w := by
      simp [part, e1, hd.get i hi]
    have pe : (Op.equalIn (f + 1) 3 (.int .i64 (F i)) (.int .i64 (F i))).run Try.prog w = .ok true w := by
      rw [run_equalIn_int w f 3 .i64 .i64 _ _ Try.underlying3]
      simp
    simp only [List.forIn_cons, Sem.run_bind, px, pe, Result.andThen_ok]
    simp only [Bool.not_true, Bool.false_eq_true, if_false, Sem.run_pure, Result.andThen_ok]
    exact ih fun j hj => hl j (by simp [hj])

def hv (n z v s : Int) : Int := if whB n z v && (whQ n z v == s) then 1 else 0
def upd (F : Nat → Int) (i : Nat) (v : Int) (j : Nat) : Int := if j = i then v else F j
theorem cnt_upd (n z : Int) (F : Nat → Int) (i : Nat) (v s : Int) (hi : 1 ≤ i) : ∀ k, cntI n z (upd F i v) k s = cntI n z F k s + if i ≤ k then hv n z v s - hv n z (F i) s else 0
  | 0 => by simp [cntI]; omega
  | k + 1 => by
    have ih := cnt_upd n z F i v s hi k
    show cntI n z (upd F i v) k s + hv n z (upd F i v (k + 1)) s = cntI n z F k s + hv n z (F (k + 1)) s + _
    rw [ih]
    by_cases e : k + 1 = i
    · subst e
      rw [if_neg (by omega), if_pos (by omega)]
      simp only [upd, if_true]
      omega
    · have e1 : upd F i v (k + 1) = F (k + 1) := by unfold upd; rw [if_neg e]
      rw [e1]
      by_cases h : i ≤ k
      · rw [if_pos h, if_pos (by omega)]; omega
      · rw [if_neg h, if_neg (by omega)]; omega

theorem rem_in (tt N : Int) (h1 : 24 ≤ N) (h2 : N ≤ 1024) : 9 ≤ wrap64 (9 + (wrap64 (tt.tmod N + N)).tmod N) ∧ wrap64 (9 + (wrap64 (tt.tmod N + N)).tmod N) < 9 + N := by
  have a1 := Int.tmod_lt_of_pos tt (show 0 < N by omega)
  have a2 := Int.lt_tmod_of_pos tt (show 0 < N by omega)
  have e1 : wrap64 (tt.tmod N + N) = tt.tmod N + N := by unfold wrap64; omega
  rw [e1]
  have b1 := Int.tmod_lt_of_pos (tt.tmod N + N) (show 0 < N by omega)
  have b2 : 0 ≤ (tt.tmod N + N).tmod N := Int.tmod_nonneg N (by omega)
  generalize (tt.tmod N + N).tmod N = r at *
  have e2 : wrap64 (9 + r) = 9 + r := by unfold wrap64; omega
  rw [e2]
  omega
theorem wh_true {n z s : Int} (g : okB n z = true) (h1 : 9 ≤ s) (h2 : s < 9 + n * z) : whB n z s = true ∧ whQ n z s = (s - 9) / z := by
  have e : whB n z s = true := by unfold whB; rw [g, decide_eq_true h1, decide_eq_true h2]; rfl
  exact ⟨e, by unfold whQ; rw [if_pos e]⟩
theorem wh_false {n z s : Int} (h : s < 9 ∨ 9 + n * z ≤ s) : whB n z s = false := by
  unfold whB
  rcases h with h | h
  · rw [decide_eq_false (show ¬ 9 ≤ s by omega)]; simp
  · rw [decide_eq_false (show ¬ s < 9 + n * z by omega)]; simp
theorem hv_true {n z s : Int} (g : okB n z = true) (h1 : 9 ≤ s) (h2 : s < 9 + n * z) : ∃ q : Nat, q < 32 ∧ (s - 9).tdiv z = q ∧ (s - 9) / z = q ∧ ∀ j : Nat, hv n z s j = if j = q then 1 else 0 := by
  have o := ok_true g
  obtain ⟨e1, e2⟩ := wh_true g h1 h2
  obtain ⟨b1, b2⟩ := wh_in n z s e1
  rw [e2] at b1 b2
  refine ⟨((s - 9) / z).toNat, by omega, ?_, by omega, fun j => ?_⟩
  · rw [Int.tdiv_eq_ediv_of_nonneg (by omega)]; omega
  · unfold hv
    rw [e1, e2]
    by_cases h : j = ((s - 9) / z).toNat
    · rw [if_pos h, if_pos]
      simp; omega
    · rw [if_neg h, if_neg]
      simp; omega
theorem hv_false {n z s : Int} (h : s < 9 ∨ 9 + n * z ≤ s) (j : Int) : hv n z s j = 0 := by
  unfold hv; rw [wh_false h]; rfl

theorem us_ways (n z : Int) (i : Nat) (g : (okB n z && !((i : Int) == 0)) = false) : n < 6 ∨ (decide (n < 6) = false ∧ 32 < n) ∨ (decide (n < 6) = false ∧ decide (32 < n) = false ∧ z < 4) ∨ (decide (n < 6) = false ∧ decide (32 < n) = false ∧ decide (z < 4) = false ∧ 32 < z) ∨
    (decide (n < 6) = false ∧ decide (32 < n) = false ∧ decide (z < 4) = false ∧ decide (32 < z) = false ∧ ((i : Int) == 0) = true) := by
  by_cases h1 : n < 6
  · exact .inl h1
  · by_cases h2 : 32 < n
    · exact .inr (.inl ⟨decide_eq_false h1, h2⟩)
    · by_cases h3 : z < 4
      · exact .inr (.inr (.inl ⟨decide_eq_false h1, decide_eq_false h2, h3⟩))
      · by_cases h4 : 32 < z
        · exact .inr (.inr (.inr (.inl ⟨decide_eq_false h1, decide_eq_false h2, decide_eq_false h3, h4⟩)))
        · refine .inr (.inr (.inr (.inr ⟨decide_eq_false h1, decide_eq_false h2, decide_eq_false h3, decide_eq_false h4, ?_⟩)))
          have ho : okB n z = true := by unfold okB; simp; omega
          rw [ho] at g
          cases h : (i : Int) == 0
          · rw [h] at g; cases g
          · rfl

set_option maxRecDepth 100000 in
set_option maxHeartbeats 2000000 in
theorem usageMoves (n z : Int) (c : Array Value) (F : Nat → Int) (hc : Nums c .i64 256 F) (i : Nat) (hi : i < 256) (tt : Int) (w : World) :
    Calls Try.prog 8 #[geo n z, .agg c, .int .u8 (i : Int), .int .i64 tt] w fun e w' => e = .returned (.bool true) ∧ Below w.heap.size w w' := by
  have KA := hid alive16
  have sz := hc.size
  have one := hc.one
  obtain ⟨B0, B1, H⟩ := @boxed2 w _ #[.int .i64 n, .int .i64 z] c 43 44 (Below.refl _ _)
  have HH := hid H
  have hB0 := hid B0
  have hB1 := hid B1
  unfold geo at *
  have hch := hid hc
  clear hc H B1 B0
  have ways : (okB n z && !((i : Int) == 0)) = false ∨ (okB n z = true ∧ 1 ≤ i) := by
    cases okB n z
    · exact .inl rfl
    · by_cases h : i = 0
      · exact .inl (by simp [h])
      · exact .inr ⟨rfl, by omega⟩
  go_enter Try.func8, Try.ntmps8
  go_wp2_with fail
  refine (KA.out _).mono ?_
  rintro e w1 ⟨rfl, hb1⟩
  have hbb := hid (below2 HH.out hb1 HH.out.size)
  have C0 := hid (hB0.out.more hb1)
  have C1 := hid (hB1.out.more hb1)
  clear hb1 HH hB0 hB1 KA
  obtain ⟨l0, k0, f0⟩ := C0.out
  rcases ways with g | ⟨g, hi1⟩
  · have w' := us_ways n z i g
    rcases w' with g1 | ⟨g1, g2⟩ | ⟨g1, g2, g3⟩ | ⟨g1, g2, g3, g4⟩ | ⟨g1, g2, g3, g4, g5⟩
    all_goals
      go_wp2_with fail
      go_ret
      exact ⟨rfl, hbb.out⟩
  · have o := ok_true g
    have hN := mul_in (k := n) (z := z) (by omega) (by omega) (by omega) (by omega)
    have hN6 : 24 ≤ n * z := by
      have : 6 * 4 ≤ n * z := Int.mul_le_mul (by omega) (by omega) (by omega) (by omega)
      omega
    obtain ⟨o1, o2, o3, o4⟩ := o
    have q1 : ¬ n < 6 := by omega
    have q2 : ¬ 32 < n := by omega
    have q3 : ¬ z < 4 := by omega
    have q4 : ¬ 32 < z := by omega
    have q5 : ((i : Int) == 0) = false := by simp; omega
    have d1 : decide (n < 6) = false := decide_eq_false q1
    have d2 : decide (32 < n) = false := decide_eq_false q2
    have d3 : decide (z < 4) = false := decide_eq_false q3
    have d4 : decide (32 < z) = false := decide_eq_false q4
    obtain ⟨N, hNe⟩ : ∃ N, n * z = N := ⟨_, rfl⟩
    have w1 : IntKind.i64.wrap (n * z) = N := by rw [hNe]; rw [hNe] at hN; exact IntWalk.i64_in _ ⟨by omega, by omega⟩
    rw [hNe] at hN hN6
    replace hNe := hid hNe
    have nz : (N == 0) = false := by simp; omega
    go_upto_region 7 with (fail)
    obtain ⟨A1, A2⟩ := rem_in tt N hN6 hN.2
    generalize wrap64 (9 + (wrap64 (tt.tmod N + N)).tmod N) = A at *
    obtain ⟨d, hd, ND⟩ : ∃ d, numsA .i64 32 (fun j => cntI n z F 255 j) = d ∧ Nums d .i64 32 (fun j => cntI n z F 255 j) := ⟨_, rfl, numsA_nums _ _ _⟩
    have KL := hid (fun w => live_val n z c F hch.out d ND w)
    have sd := ND.size
    have oned := ND.one
    have NDh := hid ND
    have hr := hid C1.out.range
    unfold geo at KL
    clear hd ND
    go_wp2_with (refine wpList_load_mid rfl 44 _ rfl (w.heap.size + 1) 0 rfl c.toList _ hr.out Try.underlying44 rfl (by rw [tab256]; simp [sz]) ?_)
    refine (KL.out _).mono ?_
    rintro e w2 ⟨rfl, hb2⟩
    have hb3 := hid (below2 hbb.out hb2 hbb.out.size)
    have D0 := hid (C0.out.more hb2)
    have D1 := hid (C1.out.more hb2)
    clear hb2 KL l0 k0 f0 hbb hr C0 C1
    go_upto_region 8 with (first
      | (refine Go.Great.wpList_runTo rfl (some 11) rfl _ _ (alloc32 _ _ _ _ _ _) ?_)
      | (refine wpList_store_mid rfl 47 _ _ rfl w2.heap.size 0 d rfl rfl ((Blk.new w2 (Array.replicate 32 (.int .i64 0)) 47).there (by rw [sd]; rfl)) (by rw [tab32, sd]) oned ?_))
    generalize hW : World.setCells _ _ _ _ = W3
    obtain ⟨E3, H3⟩ : Blk W3 w2.heap.size d ∧ Below w2.heap.size w2 W3 := by
      subst hW
      exact ⟨(Blk.new w2 (Array.replicate 32 (.int .i64 0)) 47).whole (by rw [sd]; rfl), below_cells ((Below.refl _ _).alloc (Nat.le_refl _) _) (Nat.le_refl _) _ _⟩
    have F0 := hid (D0.out.more H3)
    have F1 := hid (D1.out.more H3)
    have F3 := hid E3
    have H4 := hid (below2 hb3.out H3 hb3.out.size)
    have hlb : w.heap.size + 1 < w2.heap.size := D1.out.lt
    clear E3 H3 D0 D1 hb3 hW
    generalize w2.heap.size = bt at *
    have x1 := (F1.out.cell i).trans (hch.out.get i hi)
    obtain ⟨v, hFv⟩ : ∃ v, F i = v := ⟨_, rfl⟩
    rw [hFv] at x1
    have hi0 : (0 : Int) ≤ (i : Int) := by omega
    have hi2 : (i : Int) < 256 := by omega
    have w2' : IntKind.i64.wrap (9 + N) = 9 + N := IntWalk.i64_in _ ⟨by omega, by omega⟩
    have hFv := hid hFv
    go_simp
    go_cut [63] (fun s wx => s = .bool (decide (9 ≤ v) && decide (v < 9 + N)) ∧ wx = W3)
    case first =>
      by_cases h1 : 9 ≤ v
      · by_cases h2 : v < 9 + N
        · go_wp2_with fail
          go_meet
          case rel => exact ⟨by simp [h1, h2], rfl⟩
        · have h2' : decide (v < 9 + N) = false := decide_eq_false h2
          go_wp2_with fail
          go_meet
          case rel => exact ⟨by simp [h1, h2], rfl⟩
      · have h1' : decide (9 ≤ v) = false := decide_eq_false h1
        go_wp2_with fail
        go_meet
        case rel => exact ⟨by simp [h1]; intros; omega, rfl⟩
    case rest =>
      obtain ⟨rfl, rfl⟩ := hcut
      have hM := hid (show ∀ j : Nat, hv n z v j = hv n z (F i) j from fun j => by rw [hFv.out])
      go_upto_if 63 with (fail)
      go_cut [9] (fun s wx => s = .int .i64 N ∧ (∃ d', Blk wx bt d' ∧ Nums d' .i64 32 (fun j => cntI n z F 255 j - hv n z v j)) ∧ Blk wx w.heap.size #[.int .i64 n, .int .i64 z] ∧ Blk wx (w.heap.size + 1) c ∧ Below w.heap.size w wx)
      case first =>
        by_cases h : 9 ≤ v ∧ v < 9 + N
        · obtain ⟨h1, h2⟩ := h
          obtain ⟨q, hq32, q1, q2, q3⟩ := hv_true (s := v) g h1 (by rw [hNe.out]; exact h2)
          have hb : (decide (9 ≤ v) && decide (v < 9 + N)) = true := by simp [h1, h2]
          rw [hb]
          have hz0 : (z == 0) = false := by simp; omega
          have w3' : IntKind.i64.wrap (v - 9) = v - 9 := IntWalk.i64_in _ ⟨by omega, by omega⟩
          have x3 := (F3.out.cell q).trans (NDh.out.get q hq32)
          have hbd := cnt_bd n z F 255 q
          have hset : Hid (∀ j : Nat, j < 32 → cntI n z F 255 j - hv n z v j = if j = q then cntI n z F 255 q - 1 else cntI n z F 255 j) := hid (fun j hj => by
            rw [q3]
            by_cases e : j = q
            · subst e; simp
            · rw [if_neg e, if_neg e]; omega)
          obtain ⟨x, hx⟩ : ∃ x, cntI n z F 255 q = x := ⟨_, rfl⟩
          rw [hx] at x3 hbd
          replace hx := hid hx
          have hq0 : (0 : Int) ≤ (q : Int) := by omega
          have hq3 : (q : Int) < 32 := by omega
          have q0 := fun u : Later wc => u.blk F0.out
          have cc : ∀ (c oo : Nat) (v : Value), wc.cell? ⟨c, oo, none⟩ = some v → ∀ u : Later wc, u.val.cell? ⟨c, oo, none⟩ = some v := fun c oo v hv u => (u.cell c oo (cell_lt hv)).trans hv
          have a1 := cc _ _ _ x1
          have a3 := cc _ _ _ x3
          have x3h := hid x3
          clear q2 q3 x1 x3 cc
          go_wp2_with fail
          refine wp_region_late 11 (by kernel_rfl) (by kernel_rfl) ?_
          simp only [List.take_succ_cons, List.take_zero, List.drop_succ_cons, List.drop_zero]
          iterate 11 (go_big_quiet_step (fail))
          refine wpQuiet_nil ?_
          intro w5 h5'
          have h5 := late_out h5'
          have G0 := hid (F0.out.more h5)
          have G1 := hid (F1.out.more h5)
          have G3 := hid (F3.out.more h5)
          have H5 := hid (below2 H4.out h5 H4.out.size)
          obtain ⟨l3, k3, f3⟩ := G3.out
          have x3 := (k3 q).trans ((F3.out.cell q).symm.trans x3h.out)
          clear h5' h5 k3 a1 a3 q0 F0 F1 F3 H4
          go_wp2_with fail
          go_meet
          case rel =>
            refine ⟨rfl, ⟨_, G3.out.set q _ (by rw [sd]; exact hq32), NDh.out.set hq32 fun j hj => ?_⟩, G0.out.other _ (by show bt ≠ _; omega) _, G1.out.other _ (by show bt ≠ _; omega) _, Below.setCell (p := ⟨bt, _, none⟩) H5.out (by show w.heap.size ≤ bt; omega) _⟩
            rw [hset.out j hj, hx.out]
        · have hb : (decide (9 ≤ v) && decide (v < 9 + N)) = false := by
            cases hh : (decide (9 ≤ v) && decide (v < 9 + N)) with
            | false => rfl
            | true => simp only [Bool.and_eq_true, decide_eq_true_eq] at hh; exact absurd hh h
          rw [hb]
          have hz : Hid (∀ j : Int, hv n z v j = 0) := hid (hv_false (by rw [hNe.out]; omega))
          go_wp2_with fail
          go_meet
          case rel => exact ⟨rfl, ⟨d, F3.out, NDh.out.congr fun j hj => by rw [hz.out]; omega⟩, F0.out, F1.out, H4.out⟩
      case rest =>
        obtain ⟨rfl, ⟨d1, G3, ND1⟩, G0, G1, H5⟩ := hcut
        obtain ⟨p, hp32, p1, p2, p3⟩ := hv_true (s := A) g A1 (by rw [hNe.out]; exact A2)
        have hz0 : (z == 0) = false := by simp; omega
        have w3' : IntKind.i64.wrap (A - 9) = A - 9 := IntWalk.i64_in _ ⟨by omega, by omega⟩
        have hset : Hid (∀ j : Nat, j < 32 → cntI n z F 255 j - hv n z v j + hv n z A j = if j = p then cntI n z F 255 p - hv n z v p + 1 else cntI n z F 255 j - hv n z v j) := hid (fun j hj => by
          rw [p3]
          by_cases e : j = p
          · subst e; rw [if_pos rfl, if_pos rfl]
          · rw [if_neg e, if_neg e]; omega)
        have hfin := hid (show ∀ j : Nat, cntI n z (upd F i A) 255 j = cntI n z F 255 j - hv n z v j + hv n z A j from fun j => by
          rw [cnt_upd n z F i A j hi1 255, if_pos (by omega), hM.out j]; omega)
        have x3 := (G3.cell p).trans (ND1.get p hp32)
        have hbd := cnt_bd n z F 255 p
        have hbv : 0 ≤ hv n z v p ∧ hv n z v p ≤ 1 := by unfold hv; split <;> omega
        obtain ⟨x, hx⟩ : ∃ x, cntI n z F 255 p - hv n z v p = x := ⟨_, rfl⟩
        rw [hx] at x3
        have hxb : -1 ≤ x ∧ x ≤ 255 := by omega
        replace hx := hid hx
        have hq0 : (0 : Int) ≤ (p : Int) := by omega
        have hq3 : (p : Int) < 32 := by omega
        have s1 := ND1.size
        have G0h := hid G0
        have G1h := hid G1
        have G3h := hid G3
        have H5h := hid H5
        have ND1h := hid ND1
        obtain ⟨l0, k0, f0⟩ := G0
        obtain ⟨l1, k1, f1⟩ := G1
        obtain ⟨l3, k3, f3⟩ := G3
        have x1' := (k1 i).trans (hch.out.get i hi)
        have hne1 : ¬ bt = w.heap.size + 1 := by omega
        have hne2 : ¬ w.heap.size + 1 = bt := by omega
        clear k1 k3 hbd hbv p2 p3 H5 ND1 F0 F1 F3 H4 x1
        go_upto_region 12 with (fail)
        obtain ⟨Wf, hWf⟩ : ∃ Wf, ((wc.setCell ⟨bt, p, none⟩ (.int .i64 (x + 1))).setCell ⟨w.heap.size + 1, i, none⟩ (.int .i64 A)) = Wf := ⟨_, rfl⟩
        rw [hWf]
        obtain ⟨cf, hcf, Ncf⟩ : ∃ cf, c.setIfInBounds i (.int .i64 A) = cf ∧ Nums cf .i64 256 (upd F i A) := ⟨_, rfl, hch.out.set hi fun j hj => rfl⟩
        obtain ⟨df, hdf, Ndf⟩ : ∃ df, d1.setIfInBounds p (.int .i64 (x + 1)) = df ∧ Nums df .i64 32 (fun j => cntI n z (upd F i A) 255 j) := ⟨_, rfl, ND1h.out.set hp32 fun j hj => by show cntI n z (upd F i A) 255 j = _; rw [hfin.out j, hset.out j hj, hx.out]⟩
        have K0 : Blk Wf w.heap.size #[.int .i64 n, .int .i64 z] := by rw [← hWf]; exact (G0h.out.other _ (by show bt ≠ _; omega) _).other _ (by show w.heap.size + 1 ≠ _; omega) _
        have K1 : Blk Wf (w.heap.size + 1) cf := by rw [← hWf, ← hcf]; exact (G1h.out.other _ (by show bt ≠ _; omega) _).set i _ (by rw [sz]; exact hi)
        have K3 : Blk Wf bt df := by rw [← hWf, ← hdf]; exact (G3h.out.set p _ (by rw [s1]; exact hp32)).other _ (by show w.heap.size + 1 ≠ _; omega) _
        have H6 : Below w.heap.size w Wf := by rw [← hWf]; exact Below.setCell (p := ⟨w.heap.size + 1, _, none⟩) (Below.setCell (p := ⟨bt, _, none⟩) H5h.out (by show w.heap.size ≤ bt; omega) _) (by show w.heap.size ≤ w.heap.size + 1; omega) _
        have KF := hid (fun w => live_val n z cf (upd F i A) Ncf df Ndf w)
        have heq := fun w => eql_nums Try.underlying47 Ndf w
        have szc := Ncf.size
        have szd := Ndf.size
        have hu1 := Try.underlying44
        have hi1' : (Try.prog.info? 44).map (·.size) = some cf.toList.length := by rw [tab256]; simp [szc]
        have hu2 := Try.underlying47
        have hi2' : (Try.prog.info? 47).map (·.size) = some df.toList.length := by rw [tab32]; simp [szd]
        have y0 := K0.cell 0
        have y1 := K0.cell 1
        have r1 := K1.range
        have r3 := K3.range
        have Q0 := hid K0
        have Q1 := hid K1
        have Q3 := hid K3
        have H6h := hid H6
        unfold geo at KF
        clear hWf hcf hdf K0 K1 K3 H6 Ncf Ndf l0 k0 f0 l1 f1 l3 f3 x3 x1' G0h G1h G3h H5h ND1h hset hfin hx
        have q0 := fun u : Later Wf => u.blk Q0.out
        have e1 : ∀ w', (∃ u : Later Wf, w' = u.val) → w'.rangeAt (w.heap.size + 1) 0 cf.toList := fun w' ⟨u, e⟩ => e ▸ (Q1.out.more u.h).range
        have e3 : ∀ w', (∃ u : Later Wf, w' = u.val) → w'.rangeAt bt 0 df.toList := fun w' ⟨u, e⟩ => e ▸ (Q3.out.more u.h).range
        refine wp_region_late 5 (by kernel_rfl) (by kernel_rfl) ?_
        simp only [List.take_succ_cons, List.take_zero, List.drop_succ_cons, List.drop_zero]
        go_big_quiet_step (fail)
        refine wpQuiet_load_mid rfl 44 _ rfl (w.heap.size + 1) 0 (by rfl) cf.toList _ e1 hu1 rfl hi1' ?_
        simp only [Act.put, List.setIfInBounds_toArray, List.set_cons_zero, List.set_cons_succ]
        go_big_quiet_step ((first | (go_at_call 23; (with_reducible exact late_call (KF.out _)))))
        refine wpQuiet_load_mid rfl 47 _ rfl bt 0 (by rfl) df.toList _ e3 hu2 rfl hi2' ?_
        simp only [Act.put, List.setIfInBounds_toArray, List.set_cons_zero, List.set_cons_succ]
        go_big_quiet_step (fail)
        refine wpQuiet_nil ?_
        intro w6 h6'
        have H7 := hid (below2 H6h.out (late_out h6') H6h.out.size)
        clear h6' q0 e1 e3
        go_wp2_with fail
        go_ret
        exact ⟨rfl, H7.out⟩
end Go.Proofs.Ytjmacojlneldaaa
