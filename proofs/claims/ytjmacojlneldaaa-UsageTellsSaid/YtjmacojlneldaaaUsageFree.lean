/-
  Package usage: the segments that nobody needs; whose sectors are in one; all of them.
-/
import Derived.Test.YtjmacojlneldaaaUsage
import Derived.Deep.AppendLies
namespace Go.Proofs.Ytjmacojlneldaaa
open Go.RowKit
set_option linter.unusedVariables false
set_option linter.unusedSimpArgs false

def freeB (n z : Int) (F : Nat → Int) (sg nx : Int) (k : Nat) : Bool := decide ((k : Int) < n) && (cntI n z F 255 k == 0) && ((k : Int) != sg) && ((k : Int) != nx)
def freeL (n z : Int) (F : Nat → Int) (sg nx : Int) : Nat → List Int
  | 0 => []
  | k + 1 => freeL n z F sg nx k ++ if freeB n z F sg nx k then [(k : Int)] else []
def needB (n z : Int) (F : Nat → Int) (sg : Int) (k : Nat) : Bool := whB n z (F k) && decide (0 < (k : Int)) && (whQ n z (F k) == sg)
def needL (n z : Int) (F : Nat → Int) (sg : Int) : Nat → List Int
  | 0 => []
  | k + 1 => needL n z F sg k ++ if needB n z F sg k then [(k : Int)] else []
def sumI (n z : Int) (F : Nat → Int) : Nat → Int
  | 0 => 0
  | k + 1 => sumI n z F k + cntI n z F 255 k
theorem free_len (n z : Int) (F : Nat → Int) (sg nx : Int) : ∀ k, (freeL n z F sg nx k).length ≤ k
  | 0 => Nat.le_refl _
  | k + 1 => by
    have := free_len n z F sg nx k
    unfold freeL
    split <;> simp only [List.length_append, List.length_nil, List.length_singleton] <;> omega
theorem need_len (n z : Int) (F : Nat → Int) (sg : Int) : ∀ k, (needL n z F sg k).length ≤ k
  | 0 => Nat.le_refl _
  | k + 1 => by
    have := need_len n z F sg k
    unfold needL
    split <;> simp only [List.length_append, List.length_nil, List.length_singleton] <;> omega
theorem sum_bd (n z : Int) (F : Nat → Int) : ∀ k : Nat, 0 ≤ sumI n z F k ∧ sumI n z F k ≤ 255 * k
  | 0 => ⟨Int.le_refl _, Int.le_refl _⟩
  | k + 1 => by
    have h := sum_bd n z F k
    have c := cnt_bd n z F 255 k
    unfold sumI
    omega
/-- How the test comes out, guard by guard. -/
theorem free_ways (n z : Int) (F : Nat → Int) (sg nx : Int) (k : Nat) (L : Int) (hL : cntI n z F 255 k = L) :
    (freeB n z F sg nx k = false ∧ decide ((k : Int) < n) = false) ∨ (freeB n z F sg nx k = false ∧ (k : Int) < n ∧ (L == 0) = false) ∨ (freeB n z F sg nx k = false ∧ (k : Int) < n ∧ (L == 0) = true ∧ ((k : Int) == sg) = true) ∨
    (freeB n z F sg nx k = false ∧ (k : Int) < n ∧ (L == 0) = true ∧ ((k : Int) == sg) = false ∧ ((k : Int) == nx) = true) ∨ (freeB n z F sg nx k = true ∧ (k : Int) < n ∧ (L == 0) = true ∧ ((k : Int) == sg) = false ∧ ((k : Int) == nx) = false) := by
  unfold freeB
  rw [hL]
  by_cases h1 : (k : Int) < n
  · rw [decide_eq_true h1]
    cases h2 : L == 0
    · exact .inr (.inl ⟨by simp, h1, rfl⟩)
    · cases h3 : (k : Int) == sg
      · cases h4 : (k : Int) == nx
        · exact .inr (.inr (.inr (.inr ⟨by simp [bne, h3, h4], h1, rfl, rfl, rfl⟩)))
        · exact .inr (.inr (.inr (.inl ⟨by simp [bne, h3, h4], h1, rfl, rfl, rfl⟩)))
      · exact .inr (.inr (.inl ⟨by simp [bne, h3], h1, rfl, rfl⟩))
  · rw [decide_eq_false h1]
    exact .inl ⟨by simp, rfl⟩

set_option maxRecDepth 100000 in
set_option maxHeartbeats 1000000 in
theorem full_any (n z : Int) (c : Array Value) (F : Nat → Int) (hc : Nums c .i64 256 F) (w : World) :
    Calls Try.prog 26 #[geo n z, .agg c] w fun e w' => e = .returned (.int .i64 (sumI n z F 32)) ∧ Below w.heap.size w w' := by
  obtain ⟨R, hR⟩ : ∃ R, sumI n z F 32 = R := ⟨_, rfl⟩
  rw [hR]
  have hR := hid (show ∀ k, k = 32 → sumI n z F k = R from fun k hk => by rw [hk]; exact hR)
  rename_i hR0
  clear hR0
  have KL := hid (fun w => live_any n z c F hc w)
  have sz := hc.size
  unfold geo at *
  clear hc
  go_enter Try.func26, Try.ntmps26
  obtain ⟨B0, B1, H⟩ := @boxed2 w _ #[.int .i64 n, .int .i64 z] c 43 44 (Below.refl _ _)
  have HH := hid H
  have hr := hid B1.range
  clear H B1
  have HB0 := hid B0
  obtain ⟨l0, k0, f0⟩ := B0
  go_wp2_with (refine wpList_load_mid rfl 44 _ rfl (w.heap.size + 1) 0 rfl c.toList _ hr.out Try.underlying44 rfl (by rw [tab256]; simp [sz]) ?_)
  refine (KL.out _).mono ?_
  rintro e w3 ⟨d, rfl, ND, hb3⟩
  have NDh := hid ND
  have H3 := hid (below2 HH.out hb3 HH.out.size)
  clear hb3 ND KL l0 k0 f0
  go_wp2_with fail
  go_loop [5, 11] (fun s i => ∃ k : Nat, k ≤ 32 ∧ i = .int .i64 (k : Int) ∧ s = .int .i64 (sumI n z F k)) (fun _ i => 32 - (intOf i).toNat)
  case atStart => exact ⟨0, by omega, rfl, rfl⟩
  case round =>
    obtain ⟨k, hk, rfl, rfl⟩ := hrel
    by_cases hlt : k < 32
    · have hx := fun w => index_any 47 32 Try.underlying47 (k := .i64) NDh.out.get k hlt w
      have hs : Hid (sumI n z F (k + 1) = sumI n z F k + cntI n z F 255 k) := hid rfl
      have b1 := sum_bd n z F k
      have b2 := cnt_bd n z F 255 k
      have hlt1 : (k : Int) < 32 := by omega
      generalize sumI n z F k = s0 at *
      generalize cntI n z F 255 k = x at *
      go_wp2_with fail
      go_round
      case rel => exact ⟨k + 1, by omega, by go_num, by rw [hs.out]⟩
      case measure => simp [intOf]; omega
    · obtain rfl : k = 32 := by omega
      rw [hR.out _ rfl]
      go_wp2
      go_ret
      exact ⟨rfl, H3.out⟩

set_option maxRecDepth 100000 in
set_option maxHeartbeats 1000000 in
theorem free_any (n z : Int) (c : Array Value) (F : Nat → Int) (hc : Nums c .i64 256 F) (sg og nx : Int) (w : World) :
    Calls Try.prog 24 #[geo n z, .agg c, .agg #[.int .i64 sg, .int .i64 og, .int .i64 nx]] w fun e w' => ∃ v, e = .returned v ∧ IntsOwn w' w.heap.size v (if okB n z then freeL n z F sg nx 32 else []) ∧ Below w.heap.size w w' := by
  obtain ⟨j0, hj, hy0, hy1, hy2⟩ := info_parts intTab
  obtain ⟨R, hR⟩ : ∃ R, freeL n z F sg nx 32 = R := ⟨_, rfl⟩
  rw [hR]
  have hR := hid (show ∀ k, k = 32 → freeL n z F sg nx k = R from fun k hk => by rw [hk]; exact hR)
  rename_i hR0
  clear hR0
  have KL := hid (fun w => live_any n z c F hc w)
  have KC := hid (fun w => check_any n z w)
  have sz := hc.size
  unfold geo chkI at *
  obtain ⟨B0, B1, B2, H⟩ := @boxed3 w _ #[.int .i64 n, .int .i64 z] c #[.int .i64 sg, .int .i64 og, .int .i64 nx] 43 44 46 (Below.refl _ _)
  have HH := hid H
  have hB1 := hid B1
  have hB2 := hid B2
  have HB0 := hid B0
  obtain ⟨l0, k0, f0⟩ := B0
  clear hc H B1 B2
  cases ho : okB n z with
  | false =>
    rw [ho] at KC
    clear ho
    go_enter Try.func24, Try.ntmps24
    go_wp2_with fail
    refine (KC.out _).mono ?_
    rintro e w3 ⟨rfl, hb3⟩
    have H3 := hid (HH.out.trans (hb3.mono HH.out.size))
    clear hb3 KC KL l0 k0 f0
    go_wp2_with fail
    go_ret
    exact ⟨_, rfl, IntsOwn.nil _ _, H3.out⟩
  | true =>
    rw [ho] at KC
    clear ho
    rw [if_pos rfl]
    go_enter Try.func24, Try.ntmps24
    obtain ⟨W, hW⟩ : ∃ W, ((w.alloc (.cells #[.int .i64 n, .int .i64 z] 43)).alloc (.cells c 44)).alloc (.cells #[.int .i64 sg, .int .i64 og, .int .i64 nx] 46) = W := ⟨_, rfl⟩
    rw [hW] at HH hB1 hB2 HB0 l0 k0 f0
    go_wp2_with fail
    have hWs := HH.out.size
    replace hW := hid hW
    refine (KC.out _).mono ?_
    rintro e w3 ⟨rfl, hb3⟩
    have H3 := hid hb3
    have E0 := HB0.out.more hb3
    have hr := hid (hB1.out.more hb3).range
    clear hb3 KC l0 k0 f0
    obtain ⟨l0, k0, f0⟩ := E0
    go_wp2_with (refine wpList_load_mid rfl 44 _ rfl (w.heap.size + 1) 0 rfl c.toList _ hr.out Try.underlying44 rfl (by rw [tab256]; simp [sz]) ?_)
    refine (KL.out _).mono ?_
    rintro e w4 ⟨d, rfl, ND, hb4⟩
    have NDh := hid ND
    have H4 := hid (below2 H3.out hb4 H3.out.size)
    clear hb4 ND KL l0 k0 f0 hr H3
    go_wp2_with fail
    go_loopw [7, 16] (fun v i wr => ∃ k : Nat, k ≤ 32 ∧ i = .int .i64 (k : Int) ∧ IntsOwn wr W.heap.size v (freeL n z F sg nx k) ∧ Below W.heap.size W wr) (fun _ i _ => 32 - (intOf i).toNat)
    case atStart => exact ⟨0, by omega, rfl, IntsOwn.nil _ _, H4.out⟩
    case round =>
      obtain ⟨k, hk, rfl, HK, Hb⟩ := hrel
      clear H4
      by_cases hlt : k < 32
      · have hx := fun w => index_any 47 32 Try.underlying47 (k := .i64) NDh.out.get k hlt w
        have hlen := free_len n z F sg nx k
        have hst : freeL n z F sg nx (k + 1) = freeL n z F sg nx k ++ if freeB n z F sg nx k then [(k : Int)] else [] := rfl
        obtain ⟨x, hL⟩ : ∃ x, cntI n z F 255 k = x := ⟨_, rfl⟩
        have ways := free_ways n z F sg nx k x hL
        rw [hL] at hx
        obtain ⟨L, hLe⟩ : ∃ L, freeL n z F sg nx k = L := ⟨_, rfl⟩
        rw [hLe] at HK hlen hst
        replace hLe := hid hLe
        replace hL := hid hL
        obtain ⟨pv, cv, rfl, c1, c2, RV⟩ := HK.open
        have hlt1 : (k : Int) < 32 := by omega
        have HKh := hid HK
        have Hbh := hid Hb
        have sz3 := Hb.size
        obtain ⟨l0, k0, f0⟩ := HB0.out.more Hb
        obtain ⟨l2, k2, f2⟩ := hB2.out.more Hb
        clear RV HK Hb c1 c2
        rcases ways with ⟨e, g1⟩ | ⟨e, g1, g2⟩ | ⟨e, g1, g2, g3⟩ | ⟨e, g1, g2, g3, g4⟩ | ⟨e, g1, g2, g3, g4⟩
        · rw [e] at hst
          replace hst := hid hst
          clear e
          go_wp2_with fail
          go_roundw
          case rel => exact ⟨k + 1, by omega, by go_num, by rw [hst.out]; simpa using HKh.out, Hbh.out⟩
          case measure => simp [intOf]; omega
        · rw [e] at hst
          replace hst := hid hst
          clear e
          go_wp2_with fail
          go_roundw
          case rel => exact ⟨k + 1, by omega, by go_num, by rw [hst.out]; simpa using HKh.out, Hbh.out⟩
          case measure => simp [intOf]; omega
        · rw [e] at hst
          replace hst := hid hst
          have g3' : ((k : Int) != sg) = false := by simp [bne, g3]
          clear e
          go_wp2_with fail
          go_roundw
          case rel => exact ⟨k + 1, by omega, by go_num, by rw [hst.out]; simpa using HKh.out, Hbh.out⟩
          case measure => simp [intOf]; omega
        · rw [e] at hst
          replace hst := hid hst
          have g3' : ((k : Int) != sg) = true := by simp [bne, g3]
          have g4' : ((k : Int) != nx) = false := by simp [bne, g4]
          clear e
          go_wp2_with fail
          go_roundw
          case rel => exact ⟨k + 1, by omega, by go_num, by rw [hst.out]; simpa using HKh.out, Hbh.out⟩
          case measure => simp [intOf]; omega
        · rw [e] at hst
          have hst1 := hid (show freeL n z F sg nx (k + 1) = L ++ [(k : Int)] from hst)
          clear hst
          have g3' : ((k : Int) != sg) = true := by simp [bne, g3]
          have g4' : ((k : Int) != nx) = true := by simp [bne, g4]
          have hnews := hid (new_cells wr #[.int .i64 (k : Int)] 3)
          have OO := hid (show wr.ownsRow W.heap.size 3 1 (.slice pv L.length cv) L.length (L.map (Value.int .i64)) from HKh.out)
          clear e
          go_wp2_with (at_builtin; refine wpList_append_own _ rfl _ _ 22 rfl W.heap.size 3 j0 (.int .i64 0) 1 8 Try.underlying22 hj hy0 hy1 hy2 rfl (by decide) (.slice pv L.length cv) L.length (L.map (Value.int .i64)) (by kernel_rfl) (OO.out.alloc _) ⟨wr.heap.size, 0, none⟩ 1 1 [.int .i64 (k : Int)] (by kernel_rfl) rfl hnews.out (one_int _) (by unfold maxLen; omega) (by omega) (by first | omega | (simp; omega)) ?_)
          intro v9 w9 hown hgrow hne
          have E := hid (ints_grow Hbh.out HKh.out sz3 hown hgrow)
          clear hown hgrow hne hnews OO l0 k0 f0 l2 k2 f2
          go_wp2_with fail
          go_roundw
          case rel => exact ⟨k + 1, by omega, by go_num, by rw [hst1.out]; exact E.out.1, E.out.2⟩
          case measure => simp [intOf]; omega
      · obtain rfl : k = 32 := by omega
        rw [hR.out _ rfl] at HK
        have HKh := hid HK
        have Hbh := hid (below2 HH.out Hb HH.out.size)
        clear HK Hb
        go_wp2_with fail
        go_ret
        exact ⟨_, rfl, HKh.out.mono hWs, Hbh.out⟩

set_option maxRecDepth 100000 in
set_option maxHeartbeats 1000000 in
theorem needed_any (n z : Int) (c : Array Value) (F : Nat → Int) (hc : Nums c .i64 256 F) (sg : Int) (w : World) :
    Calls Try.prog 25 #[geo n z, .agg c, .int .i64 sg] w fun e w' => ∃ v, e = .returned v ∧ IntsOwn w' w.heap.size v (needL n z F sg 256) ∧ Below w.heap.size w w' := by
  obtain ⟨j0, hj, hy0, hy1, hy2⟩ := info_parts intTab
  obtain ⟨R, hR⟩ : ∃ R, needL n z F sg 256 = R := ⟨_, rfl⟩
  rw [hR]
  have hR := hid (show ∀ k, k = 256 → needL n z F sg k = R from fun k hk => by rw [hk]; exact hR)
  rename_i hR0
  clear hR0
  have KW := hid (fun s w => where_any n z s w)
  have sz := hc.size
  have NC := hid hc
  unfold geo at *
  obtain ⟨B0, B1, H⟩ := @boxed2 w _ #[.int .i64 n, .int .i64 z] c 43 44 (Below.refl _ _)
  have HH := hid H
  have hr := hid B1.range
  have HB0 := hid B0
  clear hc H B1 B0
  go_enter Try.func25, Try.ntmps25
  obtain ⟨W, hW⟩ : ∃ W, (w.alloc (.cells #[.int .i64 n, .int .i64 z] 43)).alloc (.cells c 44) = W := ⟨_, rfl⟩
  rw [hW] at HH HB0 hr
  go_wp2_with (refine wpList_load_mid rfl 44 _ rfl (w.heap.size + 1) 0 rfl c.toList _ hr.out Try.underlying44 rfl (by rw [tab256]; simp [sz]) ?_)
  have hWs := HH.out.size
  replace hW := hid hW
  go_loopw [7, 14] (fun v i wr => ∃ k : Nat, k ≤ 256 ∧ i = .int .i64 (k : Int) ∧ IntsOwn wr W.heap.size v (needL n z F sg k) ∧ Below W.heap.size W wr) (fun _ i _ => 256 - (intOf i).toNat)
  case atStart => exact ⟨0, by omega, rfl, IntsOwn.nil _ _, Below.refl _ _⟩
  case round =>
    obtain ⟨k, hk, rfl, HK, Hb⟩ := hrel
    by_cases hlt : k < 256
    · have hx := fun w => index_any 44 256 Try.underlying44 (k := .i64) NC.out.get k hlt w
      have hlen := need_len n z F sg k
      have hst : needL n z F sg (k + 1) = needL n z F sg k ++ if whB n z (F k) && decide (0 < (k : Int)) && (whQ n z (F k) == sg) then [(k : Int)] else [] := rfl
      have KW1 := hid (KW.out (F k))
      generalize F k = s at *
      generalize whB n z s = wb at *
      generalize whQ n z s = wq at *
      generalize whR n z s = wo at *
      obtain ⟨L, hLe⟩ : ∃ L, needL n z F sg k = L := ⟨_, rfl⟩
      rw [hLe] at HK hlen hst
      replace hLe := hid hLe
      obtain ⟨pv, cv, rfl, c1, c2, RV⟩ := HK.open
      have hlt1 : (k : Int) < 256 := by omega
      have HKh := hid HK
      have Hbh := hid Hb
      have sz3 := Hb.size
      obtain ⟨l0, k0, f0⟩ := HB0.out.more Hb
      clear RV HK Hb c1 c2
      replace hst := hid hst
      go_wp2_with fail
      refine (KW1.out _).mono ?_
      rintro e w3 ⟨rfl, hb3⟩
      have HK3 := hid (HKh.out.more hb3)
      have Hb3 := hid (below2 Hbh.out hb3 sz3)
      have sz4 := Nat.le_trans sz3 hb3.size
      clear hb3 KW1 l0 k0 f0 hx HKh Hbh sz3
      cases wb with
      | false =>
        have hst' := hid (show needL n z F sg (k + 1) = L ++ [] from hst.out)
        go_wp2_with fail
        go_roundw
        case rel => exact ⟨k + 1, by omega, by go_num, by rw [hst'.out, List.append_nil]; exact HK3.out, Hb3.out⟩
        case measure => simp [intOf]; omega
      | true =>
        by_cases h0 : (0 : Int) < (k : Int)
        · have h0n : 0 < k := by omega
          cases h1 : wq == sg with
          | false =>
            have hst' := hid (show needL n z F sg (k + 1) = L ++ [] by rw [hst.out, decide_eq_true h0, h1]; rfl)
            go_wp2_with fail
            go_roundw
            case rel => exact ⟨k + 1, by omega, by go_num, by rw [hst'.out, List.append_nil]; exact HK3.out, Hb3.out⟩
            case measure => simp [intOf]; omega
          | true =>
            have hst' := hid (show needL n z F sg (k + 1) = L ++ [(k : Int)] by rw [hst.out, decide_eq_true h0, h1]; rfl)
            have hnews := hid (new_cells w3 #[.int .i64 (k : Int)] 3)
            have OO := hid (show w3.ownsRow W.heap.size 3 1 (.slice pv L.length cv) L.length (L.map (Value.int .i64)) from HK3.out)
            go_wp2_with (at_builtin; refine wpList_append_own _ rfl _ _ 22 rfl W.heap.size 3 j0 (.int .i64 0) 1 8 Try.underlying22 hj hy0 hy1 hy2 rfl (by decide) (.slice pv L.length cv) L.length (L.map (Value.int .i64)) (by kernel_rfl) (OO.out.alloc _) ⟨w3.heap.size, 0, none⟩ 1 1 [.int .i64 (k : Int)] (by kernel_rfl) rfl hnews.out (one_int _) (by unfold maxLen; omega) (by omega) (by first | omega | (simp; omega)) ?_)
            intro v9 w9 hown hgrow hne
            have E := hid (ints_grow Hb3.out HK3.out sz4 hown hgrow)
            clear hown hgrow hne hnews OO
            go_wp2_with fail
            go_roundw
            case rel => exact ⟨k + 1, by omega, by go_num, by rw [hst'.out]; exact E.out.1, E.out.2⟩
            case measure => simp [intOf]; omega
        · have hst' := hid (show needL n z F sg (k + 1) = L ++ [] by rw [hst.out, decide_eq_false h0]; rfl)
          have h0n : decide (0 < k) = false := decide_eq_false (by omega)
          replace h0 := decide_eq_false h0
          go_wp2_with fail
          go_roundw
          case rel => exact ⟨k + 1, by omega, by go_num, by rw [hst'.out, List.append_nil]; exact HK3.out, Hb3.out⟩
          case measure => simp [intOf]; omega
    · obtain rfl : k = 256 := by omega
      rw [hR.out _ rfl] at HK
      have HKh := hid HK
      have Hbh := hid (below2 HH.out Hb HH.out.size)
      clear HK Hb
      go_wp2_with fail
      go_ret
      exact ⟨_, rfl, HKh.out.mono hWs, Hbh.out⟩
end Go.Proofs.Ytjmacojlneldaaa
