/-
  Layer 2: any octets' sum is, bit by bit, as the page says. The walk.
-/
import Derived.Test.YtjlfpflgbanncaaCrcRef
namespace Go.Proofs.Ytjlfpflgbanncaa
open Go.RowKit
set_option linter.unusedVariables false
set_option linter.unusedSimpArgs false

theorem along_sum (l : List UInt8) : alongN tabN (byteAt l) 4294967295 l.length = sumN l := bits_along _ _ _

set_option maxRecDepth 100000 in
set_option maxHeartbeats 8000000 in
theorem crcTells (l m : List UInt8) (a1 a2 : Option Addr) (c1 c2 : Nat) (i : Nat) (hi : i < 256) (h1 : l.length ≤ c1) (h2 : c1 ≤ maxLen) (h3 : m.length ≤ c2) (h4 : c2 ≤ maxLen) (hl : l.length + m.length ≤ 140737488355328) (w : World) (O1 : Octs w a1 l) (O2 : Octs w a2 m) :
    Calls Try.prog 6 #[.slice a1 l.length c1, .slice a2 m.length c2, .int .u8 (i : Int)] w fun e w' => e = .returned (.bool true) ∧ Below w.heap.size w w' := by
  have KO := fun pl w HL HR => of_any pl 2 2 (fun j => if j = 0 then a1 else a2) (fun j => if j = 0 then l.length else m.length) (fun j => if j = 0 then c1 else c2) (fun j => if j = 0 then byteAt l else byteAt m) (Nat.le_refl _) (by decide)
    (fun j _ k _ => by by_cases h : j = 0 <;> simp only [h, if_true, if_false] <;> exact byteAt_lt _ _) (fun j _ => by by_cases h : j = 0 <;> simp only [h, if_true, if_false] <;> omega) w HL HR
  have eS : allN (fun j => if j = 0 then l.length else m.length) (fun j => if j = 0 then byteAt l else byteAt m) 2 = sumN (l ++ m) := by
    show alongN tabN (byteAt m) (alongN tabN (byteAt l) 4294967295 l.length) m.length = _
    rw [sumN_app, bits_along, along_sum]
  rw [eS] at KO
  replace KO := hid KO
  have KS := fun w HR => sum_any tabN (byteAt l) l.length c1 a1 (fun j hj => tab_lt (by omega)) (fun j _ => byteAt_lt l j) h1 h2 w HR
  rw [along_sum] at KS
  replace KS := hid KS
  have T0 := hid (fun j => halves_lt (n := i) (by omega) j)
  have i1 : 0 ≤ (i : Int) ∧ (i : Int) ≤ 255 := by omega
  have hS1 := hid (sumN_lt l)
  have hS2 := hid (sumN_lt (l ++ m))
  replace O1 := hid O1
  replace O2 := hid O2
  replace hl := hid hl
  unfold maxLen at h2 h4
  clear eS
  go_enter Try.func6, Try.ntmps6
  go_wp2_with fail
  refine (alive2 _).mono ?_
  rintro e w1 ⟨rfl, hb1⟩
  replace O1 := hid (O1.out.more hb1)
  replace O2 := hid (O2.out.more hb1)
  replace hb1 := hid hb1
  go_wp2_with fail
  refine (table_any _).mono ?_
  rintro e w2 ⟨rfl, hb2⟩
  replace O1 := hid (O1.out.more hb2)
  replace O2 := hid (O2.out.more hb2)
  replace hb1 := hid (below2 hb1.out hb2 hb1.out.size)
  clear hb2
  have NT := hid (tabC_nums tabN)
  generalize hc : tabC tabN = c at *
  replace hc := hid hc
  have sz : c.size = 256 := NT.out.size
  have hbA := Below.alloc hb1.out hb1.out.size (.cells (Array.replicate 256 (.int .u32 0)) 55)
  have TA := Blk.new w2 (Array.replicate 256 (.int .u32 0)) 55
  have hbT := below_cells hbA hb1.out.size 0 c.toList
  have TB := TA.whole (d := c) (by simp [sz])
  have hb0 : Below w2.heap.size w2 ((w2.alloc (.cells (Array.replicate 256 (.int .u32 0)) 55)).setCells w2.heap.size 0 c.toList) := below_cells (Below.alloc (Below.refl _ _) (Nat.le_refl _) _) (Nat.le_refl _) 0 c.toList
  have HBT := hid hbT
  have HTB := hid TB
  replace O1 := hid (O1.out.more hb0)
  replace O2 := hid (O2.out.more hb0)
  replace TA := hid TA
  have one := NT.out.one
  clear hbT hbA TB hb0 hb1
  go_wp2_with (first
    | (refine Go.Great.wpList_runTo rfl (some 7) rfl _ _ (alloc_tab _ _ _ _ _ _) ?_)
    | (refine wpList_store_mid rfl 55 _ _ rfl w2.heap.size 0 c rfl rfl (TA.out.there (by simp [sz])) (by rw [tab_size, sz]) one ?_))
  generalize hw3 : (w2.alloc _).setCells _ _ _ = w3 at *
  generalize w2.heap.size = bt at *
  clear TA
  go_loop [8, 9] (fun x k => ∃ j : Nat, j ≤ 8 ∧ k = .int .i64 (j : Int) ∧ x = .int .u32 (halves i j : Int)) (fun _ k => 8 - (intOf k).toNat)
  case atStart => exact ⟨0, by omega, rfl, rfl⟩
  case round =>
    obtain ⟨j, hj, rfl, rfl⟩ := hrel
    by_cases hj8 : j < 8
    · have hq := T0.out j
      have hw := half_ways (halves i j) hq
      have hs : halves i (j + 1) = halfN (halves i j) := rfl
      generalize halves i j = y at *
      generalize halfN y = y' at *
      replace hs := hid hs
      have d1 : 0 ≤ (y : Int) ∧ (y : Int) ≤ 4294967295 := by omega
      rcases hw with ⟨h1, h2⟩ | ⟨h1, h2⟩
      · have h3 : (y : Int) % 2 = 1 := by omega
        clear h1 hq
        go_wp2_with fail
        go_round
        case rel => exact ⟨j + 1, by omega, by go_num, by rw [hs.out]⟩
        case measure => simp [intOf]; omega
      · have h3 : (y : Int) % 2 = 0 := by omega
        clear h1 hq
        go_wp2_with fail
        go_round
        case rel => exact ⟨j + 1, by omega, by go_num, by rw [hs.out]⟩
        case measure => simp [intOf]; omega
    · obtain rfl : j = 8 := by omega
      rw [halves8]
      go_wp2_with fail
      have hbW : Below w3.heap.size w3 (w3.alloc (.cells #[.slice a1 l.length c1, .slice a2 m.length c2] 26)) := Below.alloc (Below.refl _ _) (Nat.le_refl _) _
      have LW : RowP (w3.alloc (.cells #[.slice a1 l.length c1, .slice a2 m.length c2] 26)) (some ⟨w3.heap.size, 0, none⟩) 1 2 (fun j => [.slice (if j = 0 then a1 else a2) (if j = 0 then l.length else m.length) (if j = 0 then c1 else c2)]) := by
        refine .inr ⟨w3.heap.size, 0, rfl, by simp, fun j hj k v hv => ?_⟩
        have hk : k = 0 := by
          rcases k with _ | k
          · rfl
          · simp at hv
        subst hk
        rw [cell_new]
        match j, hj with
        | 0, _ => simp at hv; subst hv; rfl
        | 1, _ => simp at hv; subst hv; rfl
      refine (KO.out _ _ LW (fun j hj => by by_cases h : j = 0 <;> simp only [h, if_true, if_false]; exact row_of_octs (O1.out.more hbW); exact row_of_octs (O2.out.more hbW))).mono ?_
      rintro e w5 ⟨rfl, hb5⟩
      have hb35 := hbW.trans (hb5.mono hbW.size)
      replace O1 := hid (O1.out.more hb35)
      replace O2 := hid (O2.out.more hb35)
      have TC5 := hid (HTB.out.more hb35)
      have hB5 := hid (below2 HBT.out hb35 HBT.out.size)
      clear hb35 hb5 hbW LW HBT HTB
      go_wp2_with fail
      refine (refCat_any l m a1 a2 c1 c2 w5 O1.out O2.out hl.out).mono ?_
      rintro e w6 ⟨v, rfl, ca, cc, rfl, RC, hb6⟩
      replace O1 := hid (O1.out.more hb6)
      have TC6 := TC5.out.more hb6
      have hB6 := hid (below2 hB5.out hb6 hB5.out.size)
      have OC := hid (Octs.of_own RC)
      clear hb6 RC TC5
      go_wp2_with fail
      have KR := refSum_any (l ++ m) ca cc _ OC.out (by rw [List.length_append]; exact hl.out)
      rw [List.length_append] at KR
      (with_reducible refine KR.mono ?_)
      clear KR
      rintro e w7 ⟨rfl, rfl⟩
      have HT6 := TC6.cell i
      rw [NT.out.get i hi] at HT6
      replace TC6 := hid TC6
      have s1 := hS1.out
      have s2 := hS2.out
      generalize hq1 : sumN l = q1 at *
      generalize hq2 : sumN (l ++ m) = q2 at *
      have d1 : 0 ≤ (q1 : Int) ∧ (q1 : Int) ≤ 4294967295 := by omega
      have d2 : 0 ≤ (q2 : Int) ∧ (q2 : Int) ≤ 4294967295 := by omega
      replace hq1 := hid hq1
      replace hq2 := hid hq2
      clear s1 s2 hS1 hS2
      go_wp2_with fail
      refine wp_load_mid 55 _ rfl bt 0 rfl c.toList _ TC6.out.range Try.underlying55 rfl (by rw [tab_size]; simp [sz]) ?_
      go_wp2_with fail
      refine (KS.out _ (row_of_octs O1.out)).mono ?_
      rintro e w8 ⟨rfl, hb8⟩
      have OL := hid (O1.out.more hb8)
      have HT8 : Hid (w8.cell? ⟨bt, i, none⟩ = some (.int .u32 (tabN i : Int))) := hid ((hb8.cell (p := ⟨bt, i, none⟩) TC6.out.lt).trans HT6)
      have hB8 := hid (below2 hB6.out hb8 hB6.out.size)
      clear hb8 HT6
      go_wp2_with fail
      have KR := refSum_any l a1 c1 _ OL.out (by have := hl.out; omega)
      rw [hq1.out] at KR
      (with_reducible refine KR.mono ?_)
      clear KR
      rintro e w9 ⟨rfl, rfl⟩
      have HT9 := HT8.out
      go_wp2_with fail
      go_ret
      exact ⟨by simp, hB8.out⟩
end Go.Proofs.Ytjlfpflgbanncaa
