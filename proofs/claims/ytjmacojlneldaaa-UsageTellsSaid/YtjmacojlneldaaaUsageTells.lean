/-
  Layer 16: how much of each segment is needed, which are free, and whose sectors are in one, are as the page says. The walk of UsageTells.
-/
import Derived.Test.YtjmacojlneldaaaUsageMoves
import Derived.Test.YtjmacojlneldaaaRegionOrder
import Derived.Test.YtjmacojlneldaaaPlainInts
namespace Go.Proofs.Ytjmacojlneldaaa
open Go.RowKit
set_option linter.unusedVariables false
set_option linter.unusedSimpArgs false

/-- How many of the Ids up to k are in a segment. -/
def allI (n z : Int) (F : Nat → Int) : Nat → Int
  | 0 => 0
  | k + 1 => allI n z F k + if whB n z (F (k + 1)) then 1 else 0
theorem all_bd (n z : Int) (F : Nat → Int) (k : Nat) : 0 ≤ allI n z F k ∧ allI n z F k ≤ k := by
  induction k with
  | zero => exact ⟨Int.le_refl _, Int.le_refl _⟩
  | succ k ih => unfold allI; split <;> omega
def sumC (n z : Int) (F : Nat → Int) (k : Nat) : Nat → Int
  | 0 => 0
  | s + 1 => sumC n z F k s + cntI n z F k s
theorem sumC_all (n z : Int) (F : Nat → Int) : ∀ k, sumC n z F k 32 = allI n z F k := by
  have zero : ∀ s, sumC n z F 0 s = 0 := by
    intro s
    induction s with
    | zero => rfl
    | succ s ih => show sumC n z F 0 s + cntI n z F 0 s = 0; rw [ih]; rfl
  have step : ∀ k s, sumC n z F (k + 1) s = sumC n z F k s + if whB n z (F (k + 1)) = true ∧ whQ n z (F (k + 1)) < (s : Int) then 1 else 0 := by
    intro k s
    induction s with
    | zero =>
      show (0 : Int) = 0 + _
      rw [if_neg]
      · rfl
      · rintro ⟨h1, h2⟩
        have := wh_in n z _ h1
        omega
    | succ s ih =>
      show sumC n z F (k + 1) s + (cntI n z F k s + if hitB n z F (k + 1) s then 1 else 0) = sumC n z F k s + cntI n z F k s + _
      rw [ih]
      unfold hitB
      by_cases h1 : whB n z (F (k + 1)) = true
      · rw [h1]
        by_cases h2 : whQ n z (F (k + 1)) = (s : Int)
        · rw [if_neg (by omega), if_pos (by simp [h2]), if_pos (by simp; omega)]; omega
        · by_cases h3 : whQ n z (F (k + 1)) < (s : Int)
          · rw [if_pos ⟨rfl, h3⟩, if_neg (by simp [h2]), if_pos ⟨rfl, by omega⟩]; omega
          · rw [if_neg (fun h => h3 h.2), if_neg (by simp [h2]), if_neg (fun h => by omega)]; omega
      · have h1' : whB n z (F (k + 1)) = false := by simpa using h1
        rw [h1']
        simp
  intro k
  induction k with
  | zero => rw [zero]; rfl
  | succ k ih =>
    rw [step, ih]
    show _ = allI n z F k + _
    congr 1
    by_cases h1 : whB n z (F (k + 1)) = true
    · have := wh_in n z _ h1
      rw [if_pos ⟨h1, by omega⟩, if_pos h1]
    · rw [if_neg (fun h => h1 h.1), if_neg h1]
theorem sum_all (n z : Int) (F : Nat → Int) : sumI n z F 32 = allI n z F 255 := by
  rw [← sumC_all]
  have : ∀ s, sumI n z F s = sumC n z F 255 s := by
    intro s
    induction s with
    | zero => rfl
    | succ s ih => show sumI n z F s + _ = sumC n z F 255 s + _; rw [ih]
  exact this 32
/-- Nothing behind the last segment is free. -/
theorem free_stop (n z : Int) (F : Nat → Int) (sg nx : Int) (m : Nat) (hm : n ≤ m) : ∀ k, freeL n z F sg nx (m + k) = freeL n z F sg nx m
  | 0 => rfl
  | k + 1 => by
    show freeL n z F sg nx (m + k) ++ (if freeB n z F sg nx (m + k) then [((m + k : Nat) : Int)] else []) = _
    have e : freeB n z F sg nx (m + k) = false := by
      unfold freeB
      rw [decide_eq_false (by omega)]
      rfl
    rw [e, free_stop n z F sg nx m hm k]
    simp
/-- Of a geometry that may not be there is nothing. -/
theorem wh_not {n z : Int} (g : okB n z = false) (s : Int) : whB n z s = false := by unfold whB; rw [g]; rfl
theorem cnt_not {n z : Int} (g : okB n z = false) (F : Nat → Int) (k : Nat) (j : Int) : cntI n z F k j = 0 := by
  induction k with
  | zero => rfl
  | succ k ih => unfold cntI hitB; rw [ih, wh_not g]; rfl
theorem need_not {n z : Int} (g : okB n z = false) (F : Nat → Int) (sg : Int) (k : Nat) : needL n z F sg k = [] := by
  induction k with
  | zero => rfl
  | succ k ih => unfold needL needB; rw [ih, wh_not g]; rfl
theorem all_not {n z : Int} (g : okB n z = false) (F : Nat → Int) (k : Nat) : allI n z F k = 0 := by
  induction k with
  | zero => rfl
  | succ k ih => unfold allI; rw [ih, wh_not g]; rfl

/-- A new slice of these numbers. -/
def NewInts (L : List Int) (v : Value) (w : World) : Prop := ∃ p cap, v = .slice p L.length cap ∧ L.length ≤ cap ∧ cap ≤ maxLen ∧ RowP w p 1 L.length (fun i => [.int .i64 (L.getD i 0)])
theorem NewInts.stable (L : List Int) (v : Value) : Stable (NewInts L v) := fun w w' h hb => by
  obtain ⟨p, cap, e, h1, h2, R⟩ := h
  exact ⟨p, cap, e, h1, h2, R.more hb⟩
theorem NewInts.row {L : List Int} {p : Option Addr} {m cap : Nat} {w : World} (h : NewInts L (.slice p m cap) w) : L.length ≤ cap ∧ cap ≤ maxLen ∧ RowP w p 1 L.length (fun i => [.int .i64 (L.getD i 0)]) := by
  obtain ⟨p', cap', e, h1, h2, R⟩ := h
  cases e
  exact ⟨h1, h2, R⟩
theorem IntsOwn.toNew {w : World} {base : Nat} {v : Value} {l : List Int} (h : IntsOwn w base v l) : NewInts l v w := by
  obtain ⟨p, cap, rfl, h1, h2, R⟩ := h.open
  exact ⟨p, cap, rfl, h1, h2, R⟩

theorem IntsOwn.set_other {w : World} {base b o : Nat} {v x : Value} {l : List Int} (h : IntsOwn w base v l) (hb : b < base) : IntsOwn (w.setCell ⟨b, o, none⟩ x) base v l :=
  own_sole h (Sole.setCell (S := fun k => k = b) w x rfl) fun k hk e => by have := (h.lt k hk).1; omega

theorem ok_ways5 (n z : Int) : (okB n z = false ∧ n < 6) ∨ (okB n z = false ∧ ¬ n < 6 ∧ 32 < n) ∨ (okB n z = false ∧ ¬ n < 6 ∧ ¬ 32 < n ∧ z < 4) ∨ (okB n z = false ∧ ¬ n < 6 ∧ ¬ 32 < n ∧ ¬ z < 4 ∧ 32 < z) ∨ (okB n z = true ∧ ¬ n < 6 ∧ ¬ 32 < n ∧ ¬ z < 4 ∧ ¬ 32 < z) := by
  unfold okB
  by_cases h1 : n < 6
  · exact .inl ⟨by simp; omega, h1⟩
  · by_cases h2 : 32 < n
    · exact .inr (.inl ⟨by simp; omega, h1, h2⟩)
    · by_cases h3 : z < 4
      · exact .inr (.inr (.inl ⟨by simp; omega, h1, h2, h3⟩))
      · by_cases h4 : 32 < z
        · exact .inr (.inr (.inr (.inl ⟨by simp; omega, h1, h2, h3, h4⟩)))
        · exact .inr (.inr (.inr (.inr ⟨by simp; omega, h1, h2, h3, h4⟩)))

set_option maxRecDepth 100000 in
set_option maxHeartbeats 4000000 in
theorem usageTells (n z : Int) (c : Array Value) (F : Nat → Int) (hc : Nums c .i64 256 F) (hn : -9223372036854775808 ≤ n ∧ n ≤ 9223372036854775807) (sg og nx s : Int) (w : World) :
    Calls Try.prog 6 #[geo n z, .agg c, .agg #[.int .i64 sg, .int .i64 og, .int .i64 nx], .int .i64 s] w fun e w' => e = .returned (.bool true) ∧ Below w.heap.size w w' := by
  have KA := hid alive16
  obtain ⟨j0, hj, hy0, hy1, hy2⟩ := info_parts intTab
  have sz := hc.size
  have one := hc.one
  obtain ⟨B0, B1, B2, H⟩ := @boxed3 w _ #[.int .i64 n, .int .i64 z] c #[.int .i64 sg, .int .i64 og, .int .i64 nx] 43 44 46 (Below.refl _ _)
  have HH := hid H
  have hB0 := hid B0
  have hB1 := hid B1
  have hB2 := hid B2
  have ways := hid (ok_ways5 n z)
  unfold geo at *
  have hch := hid hc
  clear hc H B1 B0 B2
  go_enter Try.func6, Try.ntmps6
  go_wp2_with fail
  refine (KA.out _).mono ?_
  rintro e w1 ⟨rfl, hb1⟩
  have hbb := hid (below2 HH.out hb1 HH.out.size)
  have C0 := hid (hB0.out.more hb1)
  have C1 := hid (hB1.out.more hb1)
  have C2 := hid (hB2.out.more hb1)
  clear hb1 HH hB0 hB1 hB2 KA
  obtain ⟨l0, k0, f0⟩ := C0.out
  go_upto_region 3 with (fail)
  go_cut [9] (fun x wx => x = .bool (okB n z) ∧ wx = w1)
  case first =>
    rcases ways.out with ⟨e, g1⟩ | ⟨e, g1, g2⟩ | ⟨e, g1, g2, g3⟩ | ⟨e, g1, g2, g3, g4⟩ | ⟨e, g1, g2, g3, g4⟩
    · have d1 : decide ((6 : Int) ≤ n) = false := decide_eq_false (by omega)
      go_wp2_with fail
      go_meet
      case rel => exact ⟨by rw [e], rfl⟩
    · have d1 : (6 : Int) ≤ n := by omega
      have d2 : decide (n ≤ 32) = false := decide_eq_false (by omega)
      go_wp2_with fail
      go_meet
      case rel => exact ⟨by rw [e], rfl⟩
    · have d1 : (6 : Int) ≤ n := by omega
      have d2 : n ≤ 32 := by omega
      have d3 : decide ((4 : Int) ≤ z) = false := decide_eq_false (by omega)
      go_wp2_with fail
      go_meet
      case rel => exact ⟨by rw [e], rfl⟩
    · have d1 : (6 : Int) ≤ n := by omega
      have d2 : n ≤ 32 := by omega
      have d3 : (4 : Int) ≤ z := by omega
      have d4 : decide (z ≤ 32) = false := decide_eq_false (by omega)
      go_wp2_with fail
      go_meet
      case rel => exact ⟨by rw [e], rfl⟩
    · have d1 : (6 : Int) ≤ n := by omega
      have d2 : n ≤ 32 := by omega
      have d3 : (4 : Int) ≤ z := by omega
      have d4 : z ≤ 32 := by omega
      go_wp2_with fail
      go_meet
      case rel => exact ⟨by rw [e], rfl⟩
  case rest =>
    obtain ⟨rfl, rfl⟩ := hcut
    obtain ⟨ob, hob⟩ : ∃ ob, okB n z = ob := ⟨_, rfl⟩
    rw [hob]
    replace hob := hid hob
    clear ways
    go_upto_region 5 with (refine Go.Great.wpList_runTo rfl (some 10) rfl _ _ (alloc32 _ _ _ _ _ _) ?_)
    obtain ⟨N0, hbA⟩ := boxed1 (Below.refl _ (wc.alloc (.cells (Array.replicate 32 (.int .i64 0)) 47)))
    have D0 := hid (C0.out.more hbA)
    have D1 := hid (C1.out.more hbA)
    have D2 := hid (C2.out.more hbA)
    have D3 := hid (show ∃ d, Blk (wc.alloc (.cells (Array.replicate 32 (.int .i64 0)) 47)) wc.heap.size d ∧ Nums d .i64 32 (fun j => cntI n z F 0 j) from ⟨_, N0, nums_rep .i64 32⟩)
    have H4 := hid (below2 hbb.out hbA hbb.out.size)
    have hbt : w.heap.size + 1 + 1 < wc.heap.size := C2.out.lt
    generalize wc.alloc (.cells (Array.replicate 32 (.int .i64 0)) 47) = W4 at *
    generalize wc.heap.size = bt at *
    clear N0 hbA hbb C0 C1 C2 l0 k0 f0
    go_wp2_with fail
    go_loopw [12, 13, 14] (fun v a i wr => ∃ k : Nat, k ≤ 255 ∧ (ob = false → k = 0) ∧ i = .int .i64 ((k : Int) + 1) ∧ a = .int .i64 (allI n z F k) ∧ IntsOwn wr (bt + 1) v (needL n z F s (k + 1)) ∧ Blk wr w.heap.size #[.int .i64 n, .int .i64 z] ∧ Blk wr (w.heap.size + 1) c ∧ Blk wr (w.heap.size + 1 + 1) #[.int .i64 sg, .int .i64 og, .int .i64 nx] ∧ (∃ d, Blk wr bt d ∧ Nums d .i64 32 (fun j => cntI n z F k j)) ∧ Below w.heap.size w wr) (fun _ _ i _ => 257 - (intOf i).toNat)
    case atStart =>
      have e0 : needL n z F s (0 + 1) = [] := by simp [needL, needB]
      exact ⟨0, by omega, fun _ => rfl, rfl, rfl, by rw [e0]; exact IntsOwn.nil _ _, D0.out, D1.out, D2.out, D3.out, H4.out⟩
    case round =>
      obtain ⟨k, hk, hk0, rfl, rfl, HK, C0, C1, C2, ⟨d, C3, ND⟩, Hb⟩ := hrel
      clear D0 D1 D2 D3 H4
      have Q0 := hid C0
      have Q1 := hid C1
      have Q2 := hid C2
      have Q3 := hid C3
      have NDh := hid ND
      have Hbh := hid Hb
      have HKh := hid HK
      have hkk := hid (And.intro hk hk0)
      clear C0 C1 C2 C3 ND Hb HK hk hk0
      go_upto_region 8 with (fail)
      go_cut [41] (fun x wx => x = .bool (ob && decide (k < 255)) ∧ wx = wr)
      case first =>
        by_cases h : k < 255
        · have h1 : (k : Int) + 1 < 256 := by omega
          have h2 : decide (k < 255) = true := decide_eq_true h
          go_wp2_with fail
          go_meet
          case rel => exact ⟨by rw [h2]; simp, rfl⟩
        · have h1 : decide ((k : Int) + 1 < 256) = false := decide_eq_false (by omega)
          have h2 : decide (k < 255) = false := decide_eq_false h
          go_wp2_with fail
          go_meet
          case rel => exact ⟨by rw [h2]; simp, rfl⟩
      case rest =>
        obtain ⟨rfl, rfl⟩ := hcut
        cases hg : (ob && decide (k < 255)) with
        | true =>
          simp only [Bool.and_eq_true, decide_eq_true_eq] at hg
          obtain ⟨rfl, hlt⟩ := hg
          obtain ⟨o1, o2, o3, o4⟩ := ok_true hob.out
          have hN := mul_in (k := n) (z := z) (by omega) (by omega) (by omega) (by omega)
          obtain ⟨N, hNe⟩ : ∃ N, n * z = N := ⟨_, rfl⟩
          have m1 : IntKind.i64.wrap (n * z) = N := by rw [hNe]; rw [hNe] at hN; exact IntWalk.i64_in _ ⟨by omega, by omega⟩
          rw [hNe] at hN
          have m2 : IntKind.i64.wrap (9 + N) = 9 + N := IntWalk.i64_in _ ⟨by omega, by omega⟩
          replace hNe := hid hNe
          have hz0 : (z == 0) = false := by simp; omega
          have hlen := need_len n z F s (k + 1)
          have hst : needL n z F s (k + 1 + 1) = needL n z F s (k + 1) ++ if needB n z F s (k + 1) then [((k + 1 : Nat) : Int)] else [] := rfl
          have hcn : ∀ j : Nat, cntI n z F (k + 1) j = cntI n z F k j + hv n z (F (k + 1)) j := fun j => rfl
          have hall : allI n z F (k + 1) = allI n z F k + if whB n z (F (k + 1)) then 1 else 0 := rfl
          have hab := all_bd n z F k
          have hcb := cnt_bd n z F k
          have x1 := (Q1.out.cell (k + 1)).trans (hch.out.get (k + 1) (by omega))
          have hneed : needB n z F s (k + 1) = (whB n z (F (k + 1)) && (whQ n z (F (k + 1)) == s)) := by
            unfold needB
            rw [decide_eq_true (show (0 : Int) < ((k + 1 : Nat) : Int) by omega), Bool.and_true]
          rw [hneed] at hst
          obtain ⟨v, hFv⟩ : ∃ v, F (k + 1) = v := ⟨_, rfl⟩
          rw [hFv] at x1 hst hcn hall
          replace hst := hid hst
          replace hcn := hid hcn
          replace hall := hid hall
          replace hcb := hid hcb
          obtain ⟨L, hLe⟩ : ∃ L, needL n z F s (k + 1) = L := ⟨_, rfl⟩
          have hK2 : IntsOwn wc (bt + 1) u12 L := by rw [← hLe]; exact HKh.out
          rw [hLe] at hst hlen
          obtain ⟨pv, cv, rfl, c1, c2, RV⟩ := hK2.open
          have hK3 := hid hK2
          replace hLe := hid hLe
          obtain ⟨al, hal⟩ : ∃ al, allI n z F k = al := ⟨_, rfl⟩
          rw [hal] at hall hab ⊢
          replace hal := hid hal
          have hk1 : (0 : Int) ≤ (k : Int) + 1 := by omega
          have hk2 : (k : Int) + 1 < 256 := by omega
          have hk3 : ((k : Int) + 1).toNat = k + 1 := by omega
          have q0 := fun u : Later wc => u.blk Q0.out
          have cc : ∀ (c oo : Nat) (v : Value), wc.cell? ⟨c, oo, none⟩ = some v → ∀ u : Later wc, u.val.cell? ⟨c, oo, none⟩ = some v := fun c oo v hv u => (u.cell c oo (cell_lt hv)).trans hv
          have a1 := cc _ _ _ x1
          have x1h := hid x1
          clear x1 cc RV c1 c2 hneed HKh hK2 hFv
          rcases (show v < 9 ∨ (¬ v < 9 ∧ 9 + N ≤ v) ∨ (¬ v < 9 ∧ ¬ 9 + N ≤ v) by omega) with h1 | ⟨h1, h2⟩ | ⟨h1, h2⟩
          · have hw : whB n z v = false := wh_false (.inl h1)
            have hc0 := hid (show ∀ j : Nat, cntI n z F (k + 1) j = cntI n z F k j from fun j => by rw [hcn.out, hv_false (.inl h1)]; omega)
            have hst1 := hid (show needL n z F s (k + 1 + 1) = L from by rw [hst.out, hw]; simp)
            have hall1 := hid (show allI n z F (k + 1) = al from by rw [hall.out, hw]; simp)
            clear hw
            go_wp2_with fail
            refine wp_region_late 15 (by kernel_rfl) (by kernel_rfl) ?_
            simp only [List.take_succ_cons, List.take_zero, List.drop_succ_cons, List.drop_zero]
            iterate 15 (go_big_quiet_step (fail))
            refine wpQuiet_nil ?_
            intro w5 h5'
            have h5 := hid (late_out h5')
            clear h5' a1 q0
            go_wp2_with fail
            go_roundw
            case rel => exact ⟨k + 1, by omega, fun h => (by cases h), by go_num, by rw [hall1.out], by rw [hst1.out]; exact hK3.out.more h5.out, Q0.out.more h5.out, Q1.out.more h5.out, Q2.out.more h5.out, ⟨d, Q3.out.more h5.out, NDh.out.congr fun j hj => hc0.out j⟩, below2 Hbh.out h5.out Hbh.out.size⟩
            case measure => simp [intOf]; omega
          · have hw : whB n z v = false := wh_false (.inr (by rw [hNe.out]; exact h2))
            have hc0 := hid (show ∀ j : Nat, cntI n z F (k + 1) j = cntI n z F k j from fun j => by rw [hcn.out, hv_false (.inr (by rw [hNe.out]; exact h2))]; omega)
            have hst1 := hid (show needL n z F s (k + 1 + 1) = L from by rw [hst.out, hw]; simp)
            have hall1 := hid (show allI n z F (k + 1) = al from by rw [hall.out, hw]; simp)
            have h1' : decide (v < 9) = false := decide_eq_false h1
            clear hw
            go_wp2_with fail
            refine wp_region_late 15 (by kernel_rfl) (by kernel_rfl) ?_
            simp only [List.take_succ_cons, List.take_zero, List.drop_succ_cons, List.drop_zero]
            iterate 15 (go_big_quiet_step (fail))
            refine wpQuiet_nil ?_
            intro w5 h5'
            have h5 := hid (late_out h5')
            clear h5' a1 q0
            go_wp2_with fail
            go_roundw
            case rel => exact ⟨k + 1, by omega, fun h => (by cases h), by go_num, by rw [hall1.out], by rw [hst1.out]; exact hK3.out.more h5.out, Q0.out.more h5.out, Q1.out.more h5.out, Q2.out.more h5.out, ⟨d, Q3.out.more h5.out, NDh.out.congr fun j hj => hc0.out j⟩, below2 Hbh.out h5.out Hbh.out.size⟩
            case measure => simp [intOf]; omega
          · obtain ⟨q, hq32, q1, q2, q3⟩ := hv_true (s := v) hob.out (by omega) (by rw [hNe.out]; omega)
            obtain ⟨hw, hwq⟩ := wh_true (s := v) hob.out (by omega) (by rw [hNe.out]; omega)
            rw [q2] at hwq
            have hall1 := hid (show allI n z F (k + 1) = al + 1 from by rw [hall.out, hw]; rfl)
            have hst0 := hid (show needL n z F s (k + 1 + 1) = L ++ if ((q : Int) == s) then [((k + 1 : Nat) : Int)] else [] from by rw [hst.out, hw, hwq]; rfl)
            have hset : Hid (∀ j : Nat, j < 32 → cntI n z F (k + 1) j = if j = q then cntI n z F k q + 1 else cntI n z F k j) := hid (fun j hj => by
              rw [hcn.out, q3]
              by_cases e : j = q
              · subst e; simp
              · rw [if_neg e, if_neg e]; omega)
            have hbq := hcb.out q
            obtain ⟨x, hx⟩ : ∃ x, cntI n z F k q = x := ⟨_, rfl⟩
            have x3 := (Q3.out.cell q).trans (NDh.out.get q hq32)
            rw [hx] at x3 hbq
            replace hx := hid hx
            have h1' : decide (v < 9) = false := decide_eq_false h1
            have h2' : decide (9 + N ≤ v) = false := decide_eq_false h2
            have w3' : IntKind.i64.wrap (v - 9) = v - 9 := IntWalk.i64_in _ ⟨by omega, by omega⟩
            have hq0 : (0 : Int) ≤ (q : Int) := by omega
            have hq3 : (q : Int) < 32 := by omega
            have x3h := hid x3
            clear q2 q3 hw hwq x3
            go_wp2_with fail
            refine wp_region_late 15 (by kernel_rfl) (by kernel_rfl) ?_
            simp only [List.take_succ_cons, List.take_zero, List.drop_succ_cons, List.drop_zero]
            iterate 15 (go_big_quiet_step (fail))
            refine wpQuiet_nil ?_
            intro w5 h5'
            have h5 := hid (late_out h5')
            clear h5' a1 q0
            have q0 := fun u : Later w5 => u.blk (Q0.out.more h5.out)
            have a1 := fun u : Later w5 => (u.cell (w.heap.size + 1) (k + 1) (Q1.out.more h5.out).lt).trans ((h5.out.cell (p := ⟨w.heap.size + 1, k + 1, none⟩) Q1.out.lt).trans x1h.out)
            go_wp2_with fail
            refine wp_region_late 7 (by kernel_rfl) (by kernel_rfl) ?_
            simp only [List.take_succ_cons, List.take_zero, List.drop_succ_cons, List.drop_zero]
            iterate 7 (go_big_quiet_step (fail))
            refine wpQuiet_nil ?_
            intro w6 h6'
            have h6 := hid (below2 h5.out (late_out h6') h5.out.size)
            clear h6' a1 q0
            have E0 := hid (Q0.out.more h6.out)
            have E1 := hid (Q1.out.more h6.out)
            have E2 := hid (Q2.out.more h6.out)
            have E3 := hid (Q3.out.more h6.out)
            have EK := hid (hK3.out.more h6.out)
            have EB := hid (below2 Hbh.out h6.out Hbh.out.size)
            have x3 := (h6.out.cell (p := ⟨bt, q, none⟩) Q3.out.lt).trans x3h.out
            have f3 := E3.out.frz
            have s3 := E3.out.lt
            clear h5 h6
            cases hqs : ((q : Int) == s) with
            | false =>
              have hst1 := hid (show needL n z F s (k + 1 + 1) = L from by rw [hst0.out, hqs]; simp)
              go_wp2_with fail
              go_roundw
              case rel =>
                refine ⟨k + 1, by omega, fun h => (by cases h), by go_num, by rw [hall1.out], by rw [hst1.out]; exact EK.out.set_other (by omega), E0.out.other _ (by show bt ≠ _; omega) _, E1.out.other _ (by show bt ≠ _; omega) _, E2.out.other _ (by show bt ≠ _; omega) _, ⟨_, E3.out.set q _ (by rw [NDh.out.size]; exact hq32), NDh.out.set hq32 fun j hj => by rw [hset.out j hj, hx.out]⟩, Below.setCell (p := ⟨bt, _, none⟩) EB.out (by show w.heap.size ≤ bt; omega) _⟩
              case measure => simp [intOf]; omega
            | true =>
              have hst1 := hid (show needL n z F s (k + 1 + 1) = L ++ [((k + 1 : Nat) : Int)] from by rw [hst0.out, hqs]; rfl)
              have G0 := hid (E0.out.other ⟨bt, q, none⟩ (by show bt ≠ _; omega) (.int .i64 (x + 1)))
              have G1 := hid (E1.out.other ⟨bt, q, none⟩ (by show bt ≠ _; omega) (.int .i64 (x + 1)))
              have G2 := hid (E2.out.other ⟨bt, q, none⟩ (by show bt ≠ _; omega) (.int .i64 (x + 1)))
              have G3 := hid (E3.out.set q (.int .i64 (x + 1)) (by rw [NDh.out.size]; exact hq32))
              have GK := hid (EK.out.set_other (b := bt) (o := q) (x := .int .i64 (x + 1)) (by omega))
              have GB := hid (Below.setCell (p := ⟨bt, q, none⟩) EB.out (by show w.heap.size ≤ bt; omega) (.int .i64 (x + 1)))
              have hsz : (w6.setCell ⟨bt, q, none⟩ (.int .i64 (x + 1))).heap.size = w6.heap.size := by simp [World.setCell]
              go_upto_if 76 with (fail)
              obtain ⟨w7, hw7⟩ : ∃ w7, w6.setCell ⟨bt, q, none⟩ (.int .i64 (x + 1)) = w7 := ⟨_, rfl⟩
              rw [hw7] at G0 G1 G2 G3 GK GB hsz ⊢
              have hnews := hid (new_cells w7 #[.int .i64 ((k : Int) + 1)] 3)
              have OO := hid (show w7.ownsRow (bt + 1) 3 1 (.slice pv L.length cv) L.length (L.map (Value.int .i64)) from GK.out)
              have sz7 : bt + 1 ≤ w7.heap.size := by omega
              clear f3 x3 hw7 E0 E1 E2 E3 EK EB hsz
              go_wp2_with (at_builtin; refine wpList_append_own _ rfl _ _ 22 rfl (bt + 1) 3 j0 (.int .i64 0) 1 8 Try.underlying22 hj hy0 hy1 hy2 rfl (by decide) (.slice pv L.length cv) L.length (L.map (Value.int .i64)) (by kernel_rfl) (OO.out.alloc _) ⟨w7.heap.size, 0, none⟩ 1 1 [.int .i64 ((k : Int) + 1)] (by kernel_rfl) rfl hnews.out (one_int _) (by unfold maxLen; omega) (by omega) (by first | omega | (simp; omega)) ?_)
              intro v9 w9 hown hgrow hne
              have E := hid (ints_grow (Below.refl (bt + 1) w7) GK.out sz7 hown hgrow)
              clear hown hgrow hne hnews OO
              go_wp2_with fail
              go_roundw
              case rel =>
                exact ⟨k + 1, by omega, fun h => (by cases h), by go_num, by rw [hall1.out], by rw [hst1.out]; exact E.out.1, G0.out.below E.out.2 (by omega), G1.out.below E.out.2 (by omega), G2.out.below E.out.2 (by omega), ⟨_, G3.out.below E.out.2 (by omega), NDh.out.set hq32 fun j hj => by rw [hset.out j hj, hx.out]⟩, GB.out.trans (E.out.2.mono (by omega))⟩
              case measure => simp [intOf]; omega
        | false =>
          obtain ⟨WX, rfl⟩ : ∃ WX, WX = wc := ⟨_, rfl⟩
          obtain ⟨Ln, hLn⟩ : ∃ Ln, needL n z F s 256 = Ln := ⟨_, rfl⟩
          obtain ⟨R, hR⟩ : ∃ R, sumI n z F 32 = R := ⟨_, rfl⟩
          obtain ⟨Lf, hLf⟩ : ∃ Lf, (if okB n z then freeL n z F sg nx 32 else []) = Lf := ⟨_, rfl⟩
          have KN := hid (fun w => show Calls Try.prog 25 #[.agg #[.int .i64 n, .int .i64 z], .agg c, .int .i64 s] w fun e w' => ∃ v, e = .returned v ∧ Below w.heap.size w w' ∧ NewInts Ln v w' from
            (needed_any n z c F hch.out s w).mono fun e w' h => by
              obtain ⟨v, e1, h1, h2⟩ := h
              rw [hLn] at h1
              exact ⟨v, e1, h2, h1.toNew⟩)
          have KU := hid (fun w => full_any n z c F hch.out w)
          have KF := hid (fun w => show Calls Try.prog 24 #[.agg #[.int .i64 n, .int .i64 z], .agg c, .agg #[.int .i64 sg, .int .i64 og, .int .i64 nx]] w fun e w' => ∃ v, e = .returned v ∧ Below w.heap.size w w' ∧ NewInts Lf v w' from
            (free_any n z c F hch.out sg og nx w).mono fun e w' h => by
              obtain ⟨v, e1, h1, h2⟩ := h
              rw [hLf] at h1
              exact ⟨v, e1, h2, h1.toNew⟩)
          rw [hR] at KU
          have F1 : Nums d .i64 32 (fun j => cntI n z F 255 j) := by
            cases ob with
            | true =>
              have : k = 255 := by simp at hg; have := hkk.out.1; omega
              subst this; exact NDh.out
            | false => exact NDh.out.congr fun j hj => by rw [cnt_not hob.out, cnt_not hob.out]
          have F2 : IntsOwn WX (bt + 1) u12 Ln := by
            rw [← hLn]
            cases ob with
            | true =>
              have : k = 255 := by simp at hg; have := hkk.out.1; omega
              subst this; exact HKh.out
            | false => have := HKh.out; rw [need_not hob.out] at this ⊢; exact this
          have F3 : allI n z F k = R := by
            rw [← hR, sum_all]
            cases ob with
            | true =>
              have : k = 255 := by simp at hg; have := hkk.out.1; omega
              subst this; rfl
            | false => rw [all_not hob.out, all_not hob.out]
          rw [F3]
          have hlf := hid (show Lf = if ob then freeL n z F sg nx 32 else [] from by rw [← hLf, hob.out])
          clear hLn hR hLf HKh NDh hg hkk F3
          have KL := hid (fun w => live_val n z c F hch.out d F1 w)
          have heq := fun w => eql_nums Try.underlying47 F1 w
          have F1h := hid F1
          have F2h := hid F2
          have szd := F1.size
          obtain ⟨pn, cn, rfl, n1, n2, RN⟩ := F2.open
          have RNh := hid RN
          have n12 := hid (And.intro n1 n2)
          unfold geo at KL KU
          clear F1 F2 n1 n2 RN
          go_wp2_with fail
          go_loopw [11, 16] (fun v i wr => ∃ k : Nat, (ob = true → (k : Int) ≤ n) ∧ (ob = false → k = 0) ∧ i = .int .i64 (k : Int) ∧ IntsOwn wr WX.heap.size v (if ob then freeL n z F sg nx k else []) ∧ Below WX.heap.size WX wr) (fun _ i _ => 33 - (intOf i).toNat)
          case atStart =>
            have e0 : (if ob then freeL n z F sg nx 0 else []) = [] := by cases ob <;> rfl
            exact ⟨0, fun h => by have := ok_true (hob.out.trans h); omega, fun _ => rfl, rfl, by rw [e0]; exact IntsOwn.nil _ _, Below.refl _ _⟩
          case round =>
            obtain ⟨k, hk1, hk0, rfl, HK, Hb⟩ := hrel
            have P0 := hid (Q0.out.more Hb)
            have P1 := hid (Q1.out.more Hb)
            have P2 := hid (Q2.out.more Hb)
            have P3 := hid (Q3.out.more Hb)
            have HKh := hid HK
            have Hb2 := hid Hb
            have hkk := hid (And.intro hk1 hk0)
            have szb := Hb.size
            obtain ⟨l0, k0, f0⟩ := P0.out
            clear HK Hb hk1 hk0
            go_upto_region 17 with (fail)
            go_cut [87] (fun x wx => x = .bool (decide ((k : Int) < n) && ob) ∧ wx = wr)
            case first =>
              by_cases h : (k : Int) < n
              · have h2 : decide ((k : Int) < n) = true := decide_eq_true h
                go_wp2_with fail
                go_meet
                case rel => exact ⟨by rw [h2]; simp, rfl⟩
              · have h2 : decide ((k : Int) < n) = false := decide_eq_false h
                go_wp2_with fail
                go_meet
                case rel => exact ⟨by rw [h2]; simp, rfl⟩
            case rest =>
              obtain ⟨rfl, rfl⟩ := hcut
              cases hg : (decide ((k : Int) < n) && ob) with
              | true =>
                simp only [Bool.and_eq_true, decide_eq_true_eq] at hg
                obtain ⟨hlt, rfl⟩ := hg
                have o := ok_true hob.out
                have hk32 : k < 32 := by omega
                have hlen := free_len n z F sg nx k
                have hst : freeL n z F sg nx (k + 1) = freeL n z F sg nx k ++ if freeB n z F sg nx k then [(k : Int)] else [] := rfl
                obtain ⟨x, hL⟩ : ∃ x, cntI n z F 255 k = x := ⟨_, rfl⟩
                have ways := free_ways n z F sg nx k x hL
                have x3 := (P3.out.cell k).trans (F1h.out.get k hk32)
                rw [show cntI n z F 255 ((k : Nat) : Int) = x from hL] at x3
                have HK1 : IntsOwn wc WX.heap.size u11 (freeL n z F sg nx k) := HKh.out
                obtain ⟨L, hLe⟩ : ∃ L, freeL n z F sg nx k = L := ⟨_, rfl⟩
                rw [hLe] at HK1 hlen hst
                replace hLe := hid hLe
                replace hL := hid hL
                obtain ⟨pv, cv, rfl, c1, c2, RV⟩ := HK1.open
                have HK2 := hid HK1
                have hlt1 : (k : Int) < 32 := by omega
                have hk00 : (0 : Int) ≤ (k : Int) := by omega
                obtain ⟨l2, k2, f2⟩ := P2.out
                clear RV c1 c2 HK1 HKh hkk o
                rcases ways with ⟨e, g1⟩ | ⟨e, g1, g2⟩ | ⟨e, g1, g2, g3⟩ | ⟨e, g1, g2, g3, g4⟩ | ⟨e, g1, g2, g3, g4⟩
                · exact absurd hlt (of_decide_eq_false g1)
                · have hst1 := hid (show freeL n z F sg nx (k + 1) = L from by rw [hst, e]; simp)
                  clear e hst
                  go_wp2_with fail
                  go_roundw
                  case rel => exact ⟨k + 1, fun _ => by omega, fun h => (by cases h), by go_num, by rw [hst1.out]; exact HK2.out, Hb2.out⟩
                  case measure => simp [intOf]; omega
                · have hst1 := hid (show freeL n z F sg nx (k + 1) = L from by rw [hst, e]; simp)
                  have g3' : ((k : Int) != sg) = false := by simp [bne, g3]
                  clear e hst
                  go_wp2_with fail
                  go_roundw
                  case rel => exact ⟨k + 1, fun _ => by omega, fun h => (by cases h), by go_num, by rw [hst1.out]; exact HK2.out, Hb2.out⟩
                  case measure => simp [intOf]; omega
                · have hst1 := hid (show freeL n z F sg nx (k + 1) = L from by rw [hst, e]; simp)
                  have g3' : ((k : Int) != sg) = true := by simp [bne, g3]
                  have g4' : ((k : Int) != nx) = false := by simp [bne, g4]
                  clear e hst
                  go_wp2_with fail
                  go_roundw
                  case rel => exact ⟨k + 1, fun _ => by omega, fun h => (by cases h), by go_num, by rw [hst1.out]; exact HK2.out, Hb2.out⟩
                  case measure => simp [intOf]; omega
                · have hst1 := hid (show freeL n z F sg nx (k + 1) = L ++ [(k : Int)] from by rw [hst, e]; rfl)
                  have g3' : ((k : Int) != sg) = true := by simp [bne, g3]
                  have g4' : ((k : Int) != nx) = true := by simp [bne, g4]
                  have hnews := hid (new_cells wc #[.int .i64 (k : Int)] 3)
                  have OO := hid (show wc.ownsRow WX.heap.size 3 1 (.slice pv L.length cv) L.length (L.map (Value.int .i64)) from HK2.out)
                  clear e hst
                  go_wp2_with (at_builtin; refine wpList_append_own _ rfl _ _ 22 rfl WX.heap.size 3 j0 (.int .i64 0) 1 8 Try.underlying22 hj hy0 hy1 hy2 rfl (by decide) (.slice pv L.length cv) L.length (L.map (Value.int .i64)) (by kernel_rfl) (OO.out.alloc _) ⟨wc.heap.size, 0, none⟩ 1 1 [.int .i64 (k : Int)] (by kernel_rfl) rfl hnews.out (one_int _) (by unfold maxLen; omega) (by omega) (by first | omega | (simp; omega)) ?_)
                  intro v9 w9 hown hgrow hne
                  have E := hid (ints_grow Hb2.out HK2.out szb hown hgrow)
                  clear hown hgrow hne hnews OO l0 k0 f0 l2 k2 f2 x3
                  go_wp2_with fail
                  go_roundw
                  case rel => exact ⟨k + 1, fun _ => by omega, fun h => (by cases h), by go_num, by rw [hst1.out]; exact E.out.1, E.out.2⟩
                  case measure => simp [intOf]; omega
              | false =>
                have HK1 : IntsOwn wc WX.heap.size u11 Lf := by
                  rw [hlf.out]
                  cases ob with
                  | true =>
                    have o := ok_true hob.out
                    have h1 := hkk.out.1 rfl
                    have h2 : n ≤ (k : Int) := by simp at hg; omega
                    have e1 := free_stop n z F sg nx k h2 (32 - k)
                    rw [show k + (32 - k) = 32 by omega] at e1
                    have hh := HKh.out
                    rw [if_pos rfl] at hh ⊢
                    rw [e1]; exact hh
                  | false =>
                    have hh := HKh.out
                    rw [if_neg (by simp)] at hh ⊢
                    exact hh
                obtain ⟨pf, cf, rfl, f1', f2', RF⟩ := HK1.open
                have RFh := hid RF
                have f12 := hid (And.intro f1' f2')
                have RN2 := hid (RNh.out.more Hb2.out)
                have HE := hid (below2 Hbh.out Hb2.out Hbh.out.size)
                have hu1 := Try.underlying44
                have hi1' : (Try.prog.info? 44).map (·.size) = some c.toList.length := by rw [tab256]; simp [sz]
                have hu2 := Try.underlying47
                have hi2' : (Try.prog.info? 47).map (·.size) = some d.toList.length := by rw [tab32]; simp [szd]
                clear hg hkk HKh HK1 RF f1' f2' hlf l0 k0 f0
                go_wp2_with fail
                refine wp_region_order [([0, 1, 2, 3, 4, 5, 6, 7, 8, 10], 9), ([11, 12, 13, 14, 15, 16, 18], 17)] [19, 20, 21, 22, 23, 24, 25, 26, 27] 28 (by kernel_rfl) (by kernel_rfl) (by kernel_rfl) ?_
                refine order_call ?A1 ?walk1 _ 24 #[.agg #[.int .i64 n, .int .i64 z], .agg c, .agg #[.int .i64 sg, .int .i64 og, .int .i64 nx]] (NewInts Lf) (NewInts.stable Lf) (by rfl) (by rfl) ?want1 ?run1 ?call1 ?next1
                case walk1 =>
                  intro S hS hSS hN
                  have q0 := fun u : LaterC wc S => LaterC.blk P0.out u
                  have q2 := fun u : LaterC wc S => LaterC.blk P2.out u
                  have r1 : ∀ w', (∃ u : LaterC wc S, w' = u.val) → w'.rangeAt (w.heap.size + 1) 0 c.toList := fun w' ⟨u, e⟩ => e ▸ (P1.out.more u.h).range
                  have r3 : ∀ w', (∃ u : LaterC wc S, w' = u.val) → w'.rangeAt bt 0 d.toList := fun w' ⟨u, e⟩ => e ▸ (P3.out.more u.h).range
                  simp only [List.filterMap_cons, List.filterMap_nil, List.getElem?_toArray, List.getElem?_cons_succ, List.getElem?_cons_zero]
                  change wpQuiet _ _ _ _ [_, _, _, _, _, _, _, _, _, _] _
                  go_big_quiet_step (fail)
                  refine wpQuiet_load_mid rfl 44 _ rfl (w.heap.size + 1) 0 (by rfl) c.toList _ r1 hu1 rfl hi1' ?_
                  simp only [Act.put, List.setIfInBounds_toArray, List.set_cons_zero, List.set_cons_succ]
                  go_big_quiet_step ((first | (go_at_call 23; (with_reducible exact latec_call hS (KL.out _)))))
                  refine wpQuiet_load_mid rfl 47 _ rfl bt 0 (by rfl) d.toList _ r3 hu2 rfl hi2' ?_
                  simp only [Act.put, List.setIfInBounds_toArray, List.set_cons_zero, List.set_cons_succ]
                  iterate 3 (go_big_quiet_step (fail))
                  refine wpQuiet_load_if (by kernel_rfl) 44 _ rfl (w.heap.size + 1) 0 (by rfl) c.toList _ r1 hu1 rfl hi1' ?_
                  simp only [Act.put, List.setIfInBounds_toArray, List.set_cons_zero, List.set_cons_succ]
                  iterate 2 (go_big_quiet_step (fail))
                  refine wpQuiet_nil ?_
                  rfl
                case want1 => kernel_rfl
                case run1 => intro w2; simp [execOp, Act.eval, go_sem]
                case call1 => exact fun u => KF.out _
                case next1 =>
                  intro v hN1
                  obtain ⟨pg, cg, rfl, _, _, _⟩ := (Classical.choice hN1).s.2
                  simp only [Act.put, Option.bind_some, List.setIfInBounds_toArray, List.set_cons_zero, List.set_cons_succ]
                  refine order_call ?A2 ?walk2 _ 25 #[.agg #[.int .i64 n, .int .i64 z], .agg c, .int .i64 s] (NewInts Ln) (NewInts.stable Ln) (by rfl) (by rfl) ?want2 ?run2 ?call2 ?next2
                  case walk2 =>
                    intro S hS hSS hN
                    have q0 := fun u : LaterC wc S => LaterC.blk P0.out u
                    have r1 : ∀ w', (∃ u : LaterC wc S, w' = u.val) → w'.rangeAt (w.heap.size + 1) 0 c.toList := fun w' ⟨u, e⟩ => e ▸ (P1.out.more u.h).range
                    have kI := hid (fun u : LaterC wc S => plainInts_same pg pf Lf.length cg cf (fun i => Lf.getD i 0) (hSS _ u.s).2.row.1 (hSS _ u.s).2.row.2.1 f12.out.1 f12.out.2 u.val (hSS _ u.s).2.row.2.2 (RFh.out.more u.h))
                    simp only [List.filterMap_cons, List.filterMap_nil, List.getElem?_toArray, List.getElem?_cons_succ, List.getElem?_cons_zero]
                    change wpQuiet _ _ _ _ [_, _, _, _, _, _, _] _
                    iterate 4 (go_big_quiet_step ((first | (go_at_call 19; (with_reducible exact latec_call hS (kI.out _))))))
                    refine wpQuiet_load_if (by kernel_rfl) 44 _ rfl (w.heap.size + 1) 0 (by rfl) c.toList _ r1 hu1 rfl hi1' ?_
                    simp only [Act.put, List.setIfInBounds_toArray, List.set_cons_zero, List.set_cons_succ]
                    iterate 2 (go_big_quiet_step (fail))
                    refine wpQuiet_nil ?_
                    rfl
                  case want2 => kernel_rfl
                  case run2 => intro w2; simp [execOp, Act.eval, go_sem]
                  case call2 => exact fun u => KN.out _
                  case next2 =>
                    intro v hN2
                    obtain ⟨ph, ch, rfl, _, _, _⟩ := (Classical.choice hN2).s.2
                    simp only [Act.put, List.setIfInBounds_toArray, List.set_cons_zero, List.set_cons_succ]
                    refine order_last ?A3 ?walk3 ?fin
                    case walk3 =>
                      intro S hS hSS hN
                      have q0 := fun u : LaterC wc S => LaterC.blk P0.out u
                      have r1 : ∀ w', (∃ u : LaterC wc S, w' = u.val) → w'.rangeAt (w.heap.size + 1) 0 c.toList := fun w' ⟨u, e⟩ => e ▸ (P1.out.more u.h).range
                      have kI := hid (fun u : LaterC wc S => plainInts_same ph pn Ln.length ch cn (fun i => Ln.getD i 0) (hSS _ u.s).2.row.1 (hSS _ u.s).2.row.2.1 n12.out.1 n12.out.2 u.val (hSS _ u.s).2.row.2.2 (RN2.out.more u.h))
                      simp only [List.filterMap_cons, List.filterMap_nil, List.getElem?_toArray, List.getElem?_cons_succ, List.getElem?_cons_zero]
                      change wpQuiet _ _ _ _ [_, _, _, _, _, _, _, _, _] _
                      iterate 4 (go_big_quiet_step ((first | (go_at_call 19; (with_reducible exact latec_call hS (kI.out _))))))
                      refine wpQuiet_load_if (by kernel_rfl) 44 _ rfl (w.heap.size + 1) 0 (by rfl) c.toList _ r1 hu1 rfl hi1' ?_
                      simp only [Act.put, List.setIfInBounds_toArray, List.set_cons_zero, List.set_cons_succ]
                      iterate 4 (go_big_quiet_step ((first | (go_at_call 26; (with_reducible exact latec_call hS (KU.out _))))))
                      refine wpQuiet_nil ?_
                      rfl
                    case fin =>
                      intro u
                      have hu := hid (below2 HE.out u.h HE.out.size)
                      generalize u.val = w9 at *
                      simp only [List.drop_succ_cons, List.drop_zero]
                      go_wp2_with fail
                      go_ret
                      exact ⟨rfl, hu.out⟩
end Go.Proofs.Ytjmacojlneldaaa
