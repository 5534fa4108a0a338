/-
  Layer 46: thinned by nothing just those at the place of the one ahead are left out; straightened, no more are kept. The walk of TrackZero.
-/
import Derived.Test.YtjenhnigdgkkoaaTrackAlive
import Derived.Test.YtjenhnigdgkkoaaPlainPoints
import Derived.Deep.DeepCutAuto
import Derived.Outline
namespace Go.Proofs.Ytjenhnigdgkkoaa
open Go.RowKit
set_option linter.unusedVariables false
set_option linter.unusedSimpArgs false

theorem zero_len (f : Nat → Pt) (i : Nat) : (zeroL f i).length ≤ i := by
  induction i with
  | zero => exact Nat.le_refl _
  | succ i ih =>
    show (zeroStep f i (zeroL f i)).length ≤ i + 1
    unfold zeroStep
    split
    · simp only [List.length_append, List.length_singleton]; omega
    · omega

set_option maxRecDepth 100000 in
set_option maxHeartbeats 8000000 in
theorem trackZero (p : Option Addr) (n cap : Nat) (f : Nat → Pt) (hf : ∀ i, (f i).ok) (h1 : n ≤ cap) (h2 : cap ≤ maxLen) (w : World) (HA : RowP w p 4 n (fun i => pcells (f i))) :
    Calls Try.prog 8 #[.slice p n cap] w fun e w' => e = .returned (.bool true) ∧ Below w.heap.size w w' := by
  obtain ⟨i0, hi, hz0, hz1, hz2⟩ := info_parts ptTab
  have HAh := hid HA
  have hfh := hid hf
  have h12 := hid (And.intro h1 h2)
  have KA := hid alive46
  have h2' : cap ≤ 9223372036854775807 := by unfold maxLen at h2; exact h2
  clear HA hf h2
  go_enter Try.func8, Try.ntmps8
  go_wp2_with fail
  refine (KA.out _).mono ?_
  rintro e w1 ⟨rfl, hb1⟩
  have D1 := hid hb1
  clear hb1 KA
  go_upto_if 9 with (fail)
  go_cut [0] (fun s wx => ∃ N, N ≤ n ∧ N ≤ 60 ∧ s = .slice p N cap ∧ Below w.heap.size w wx)
  case first =>
    by_cases g : 60 < (n : Int)
    · have gc : (60 : Int) ≤ (cap : Int) := by omega
      go_wp2_with fail
      go_meet
      case rel => exact ⟨60, by omega, by omega, rfl, D1.out⟩
    · go_wp2_with fail
      go_meet
      case rel => exact ⟨n, by omega, by omega, rfl, D1.out⟩
  case rest =>
    obtain ⟨N, hN, hN60, rfl, hb2⟩ := hcut
    have D2 := hid hb2
    have hNc : (N : Int) ≤ (cap : Int) := by omega
    have HN := hid (HAh.out.take hN)
    clear D1 hb2 HAh
    go_wp2_with fail
    go_loopw [3, 4] (fun v i wr => ∃ k : Nat, k ≤ N ∧ i = .int .i64 (k : Int) ∧ PtsOwn wr w.heap.size v (zeroL f k) ∧ Below w.heap.size w wr) (fun _ i _ => N - (intOf i).toNat)
    case atStart => exact ⟨0, by omega, rfl, PtsOwn.nil _ _, D2.out⟩
    case round =>
      obtain ⟨k, hk, rfl, HK, hb⟩ := hrel
      have hlen := zero_len f k
      obtain ⟨pv, cv, rfl, c1, c2, RV⟩ := HK.open
      have hbW := hid hb
      by_cases hlt : k < N
      · have hlt1 : (k : Int) < (N : Int) := by omega
        obtain ⟨b, o, rfl, R0⟩ := HN.out.row (by omega)
        have R := R0.more hb
        have hzs : zeroL f (k + 1) = zeroStep f k (zeroL f k) := rfl
        have z0 := R.at0 hlt (v := .int .i64 (f k).id) rfl
        have z1 := R.at1 hlt (v := .int .u32 (f k).x) rfl
        have z2 := R.at2 hlt (v := .int .u32 (f k).y) rfl
        have z3 := R.at3 hlt (v := .string (f k).d) rfl
        have cc : ∀ (c oo : Nat) (v : Value), wr.cell? ⟨c, oo, none⟩ = some v → ∀ u : Later wr, u.val.cell? ⟨c, oo, none⟩ = some v := fun c oo v hv u => (u.cell c oo (cell_lt hv)).trans hv
        have a1 := cc _ _ _ z1
        have a2 := cc _ _ _ z2
        have zz := hid (And.intro (And.intro z0 z1) (And.intro z2 z3))
        cases k with
        | zero =>
          obtain ⟨L, hLe⟩ : ∃ L, zeroL f 0 = L := ⟨_, rfl⟩
          rw [hLe] at HK c1 RV hlen hzs ⊢
          replace hLe := hid hLe
          have hst : zeroStep f 0 L = L ++ [f 0] := by simp [zeroStep]
          rw [hst] at hzs
          replace hzs := hid hzs
          clear cc z0 z1 z2 z3 hst
          go_wp2_with fail
          refine wp_region_late 29 (by kernel_rfl) (by kernel_rfl) ?_
          simp only [List.take_succ_cons, List.take_zero, List.drop_succ_cons, List.drop_zero]
          iterate 29 (go_big_quiet_step (fail))
          refine wpQuiet_nil ?_
          intro w3 h3'
          have h3 := late_out h3'
          clear h3' a1 a2
          have hbW3 := hid (hbW.out.trans (h3.mono hbW.out.size))
          have HO3 := HK.more h3
          unfold PtsOwn at HO3
          have OO := hid HO3
          have r0 := (h3.cell (p := ⟨b, o + 0 * 4, none⟩) (cell_lt zz.out.1.1)).trans zz.out.1.1
          have r1 := (h3.cell (p := ⟨b, o + 0 * 4 + 1, none⟩) (cell_lt zz.out.1.2)).trans zz.out.1.2
          have r2 := (h3.cell (p := ⟨b, o + 0 * 4 + 2, none⟩) (cell_lt zz.out.2.1)).trans zz.out.2.1
          have r3 := (h3.cell (p := ⟨b, o + 0 * 4 + 3, none⟩) (cell_lt zz.out.2.2)).trans zz.out.2.2
          simp only [Nat.zero_mul, Nat.add_zero] at r0 r1 r2 r3
          have hnews := hid (four_new w3 #[.int .i64 (f 0).id, .int .u32 (f 0).x, .int .u32 (f 0).y, .string (f 0).d] 25)
          have hs3 := hbW3.out.size
          clear h3 HO3 HK RV R R0
          go_wp2_with (at_builtin; refine wpList_append_own _ rfl _ _ 22 rfl w.heap.size 25 i0 (.agg #[.int .i64 0, .int .u32 0, .int .u32 0, .string ByteArray.empty]) 4 32 Try.underlying22 hi hz0 hz1 hz2 rfl (by decide) (.slice pv L.length cv) L.length (flatP L) (by kernel_rfl) (OO.out.alloc _) ⟨w3.heap.size, 0, none⟩ 1 1 [.int .i64 (f 0).id, .int .u32 (f 0).x, .int .u32 (f 0).y, .string (f 0).d] (by kernel_rfl) rfl hnews.out (pt_one (f 0)) (by unfold maxLen; omega) (by omega) (by first | omega | (simp; omega)) ?_)
          intro v9 w9 hown hgrow hne
          have hO9 := hid (show PtsOwn w9 w.heap.size v9 (L ++ [f 0]) by unfold PtsOwn; rw [flatP_append, flatP_one, List.length_append]; exact hown)
          have hb9 := hid ((hbW3.out.alloc hbW3.out.size _).grown hgrow (by simp; omega) (fun k hk => (OO.out.lt k hk).1))
          clear hown hgrow hne hnews hi hz0 hz1 hz2 r0 r1 r2 r3 OO
          go_wp2_with fail
          go_roundw
          case rel => exact ⟨0 + 1, by omega, by go_num, by rw [hzs.out]; exact hO9.out, hb9.out⟩
          case measure => simp [intOf]; omega
        | succ j =>
          have Rj := R
          have y1 := R.at1 (i := j) (by omega) (v := .int .u32 (f j).x) rfl
          have y2 := R.at2 (i := j) (by omega) (v := .int .u32 (f j).y) rfl
          have b1 := cc _ _ _ y1
          have b2 := cc _ _ _ y2
          have hst : zeroStep f (j + 1) (zeroL f (j + 1)) = if samB (f (j + 1)) (f j) = false then zeroL f (j + 1) ++ [f (j + 1)] else zeroL f (j + 1) := by simp [zeroStep]
          rw [hst] at hzs
          have hsam : samB (f (j + 1)) (f j) = (((f (j + 1)).x == (f j).x) && ((f (j + 1)).y == (f j).y)) := rfl
          rw [hsam] at hzs
          obtain ⟨L, hLe⟩ : ∃ L, zeroL f (j + 1) = L := ⟨_, rfl⟩
          rw [hLe] at HK c1 RV hlen hzs ⊢
          replace hLe := hid hLe
          replace hzs := hid hzs
          have hj0 : (0 : Int) ≤ (j : Int) := by omega
          have hj1 : (j : Int) < (N : Int) := by omega
          have hj2 : ¬ (j : Int) + 1 = 0 := by omega
          have hj3 : ((j : Int) + 1 == 0) = false := by simp; omega
          clear cc z0 z1 z2 z3 hst hsam Rj y1 y2
          cases hx : (f (j + 1)).x == (f j).x with
          | false =>
            have hx' : ((f (j + 1)).x != (f j).x) = true := by simp [bne, hx]
            rw [hx] at hzs
            go_wp2_with fail
            refine wp_region_late 29 (by kernel_rfl) (by kernel_rfl) ?_
            simp only [List.take_succ_cons, List.take_zero, List.drop_succ_cons, List.drop_zero]
            iterate 29 (go_big_quiet_step (fail))
            refine wpQuiet_nil ?_
            intro w3 h3'
            have h3 := late_out h3'
            clear h3' a1 a2 b1 b2
            have hbW3 := hid (hbW.out.trans (h3.mono hbW.out.size))
            have HO3 := HK.more h3
            unfold PtsOwn at HO3
            have OO := hid HO3
            have r0 := (h3.cell (p := ⟨b, o + (j + 1) * 4, none⟩) (cell_lt zz.out.1.1)).trans zz.out.1.1
            have r1 := (h3.cell (p := ⟨b, o + (j + 1) * 4 + 1, none⟩) (cell_lt zz.out.1.2)).trans zz.out.1.2
            have r2 := (h3.cell (p := ⟨b, o + (j + 1) * 4 + 2, none⟩) (cell_lt zz.out.2.1)).trans zz.out.2.1
            have r3 := (h3.cell (p := ⟨b, o + (j + 1) * 4 + 3, none⟩) (cell_lt zz.out.2.2)).trans zz.out.2.2
            have hnews := hid (four_new w3 #[.int .i64 (f (j + 1)).id, .int .u32 (f (j + 1)).x, .int .u32 (f (j + 1)).y, .string (f (j + 1)).d] 25)
            have hs3 := hbW3.out.size
            clear h3 HO3 HK RV R R0
            go_wp2_with (at_builtin; refine wpList_append_own _ rfl _ _ 22 rfl w.heap.size 25 i0 (.agg #[.int .i64 0, .int .u32 0, .int .u32 0, .string ByteArray.empty]) 4 32 Try.underlying22 hi hz0 hz1 hz2 rfl (by decide) (.slice pv L.length cv) L.length (flatP L) (by kernel_rfl) (OO.out.alloc _) ⟨w3.heap.size, 0, none⟩ 1 1 [.int .i64 (f (j + 1)).id, .int .u32 (f (j + 1)).x, .int .u32 (f (j + 1)).y, .string (f (j + 1)).d] (by kernel_rfl) rfl hnews.out (pt_one (f (j + 1))) (by unfold maxLen; omega) (by omega) (by first | omega | (simp; omega)) ?_)
            intro v9 w9 hown hgrow hne
            have hO9 := hid (show PtsOwn w9 w.heap.size v9 (L ++ [f (j + 1)]) by unfold PtsOwn; rw [flatP_append, flatP_one, List.length_append]; exact hown)
            have hb9 := hid ((hbW3.out.alloc hbW3.out.size _).grown hgrow (by simp; omega) (fun k hk => (OO.out.lt k hk).1))
            clear hown hgrow hne hnews hi hz0 hz1 hz2 r0 r1 r2 r3 OO
            go_wp2_with fail
            go_roundw
            case rel => exact ⟨(j + 1) + 1, by omega, by go_num, by rw [hzs.out]; simpa using hO9.out, hb9.out⟩
            case measure => simp [intOf]; omega
          | true =>
            have hx' : ((f (j + 1)).x != (f j).x) = false := by simp [bne, hx]
            cases hy : (f (j + 1)).y == (f j).y with
            | false =>
              have hy' : ((f (j + 1)).y != (f j).y) = true := by simp [bne, hy]
              rw [hx, hy] at hzs
              go_wp2_with fail
              refine wp_region_late 29 (by kernel_rfl) (by kernel_rfl) ?_
              simp only [List.take_succ_cons, List.take_zero, List.drop_succ_cons, List.drop_zero]
              iterate 29 (go_big_quiet_step (fail))
              refine wpQuiet_nil ?_
              intro w3 h3'
              have h3 := late_out h3'
              clear h3' a1 a2 b1 b2
              have hbW3 := hid (hbW.out.trans (h3.mono hbW.out.size))
              have HO3 := HK.more h3
              unfold PtsOwn at HO3
              have OO := hid HO3
              have r0 := (h3.cell (p := ⟨b, o + (j + 1) * 4, none⟩) (cell_lt zz.out.1.1)).trans zz.out.1.1
              have r1 := (h3.cell (p := ⟨b, o + (j + 1) * 4 + 1, none⟩) (cell_lt zz.out.1.2)).trans zz.out.1.2
              have r2 := (h3.cell (p := ⟨b, o + (j + 1) * 4 + 2, none⟩) (cell_lt zz.out.2.1)).trans zz.out.2.1
              have r3 := (h3.cell (p := ⟨b, o + (j + 1) * 4 + 3, none⟩) (cell_lt zz.out.2.2)).trans zz.out.2.2
              have hnews := hid (four_new w3 #[.int .i64 (f (j + 1)).id, .int .u32 (f (j + 1)).x, .int .u32 (f (j + 1)).y, .string (f (j + 1)).d] 25)
              have hs3 := hbW3.out.size
              clear h3 HO3 HK RV R R0
              go_wp2_with (at_builtin; refine wpList_append_own _ rfl _ _ 22 rfl w.heap.size 25 i0 (.agg #[.int .i64 0, .int .u32 0, .int .u32 0, .string ByteArray.empty]) 4 32 Try.underlying22 hi hz0 hz1 hz2 rfl (by decide) (.slice pv L.length cv) L.length (flatP L) (by kernel_rfl) (OO.out.alloc _) ⟨w3.heap.size, 0, none⟩ 1 1 [.int .i64 (f (j + 1)).id, .int .u32 (f (j + 1)).x, .int .u32 (f (j + 1)).y, .string (f (j + 1)).d] (by kernel_rfl) rfl hnews.out (pt_one (f (j + 1))) (by unfold maxLen; omega) (by omega) (by first | omega | (simp; omega)) ?_)
              intro v9 w9 hown hgrow hne
              have hO9 := hid (show PtsOwn w9 w.heap.size v9 (L ++ [f (j + 1)]) by unfold PtsOwn; rw [flatP_append, flatP_one, List.length_append]; exact hown)
              have hb9 := hid ((hbW3.out.alloc hbW3.out.size _).grown hgrow (by simp; omega) (fun k hk => (OO.out.lt k hk).1))
              clear hown hgrow hne hnews hi hz0 hz1 hz2 r0 r1 r2 r3 OO
              go_wp2_with fail
              go_roundw
              case rel => exact ⟨(j + 1) + 1, by omega, by go_num, by rw [hzs.out]; simpa using hO9.out, hb9.out⟩
              case measure => simp [intOf]; omega
            | true =>
              have hy' : ((f (j + 1)).y != (f j).y) = false := by simp [bne, hy]
              rw [hx, hy] at hzs
              go_wp2_with fail
              refine wp_region_late 29 (by kernel_rfl) (by kernel_rfl) ?_
              simp only [List.take_succ_cons, List.take_zero, List.drop_succ_cons, List.drop_zero]
              iterate 29 (go_big_quiet_step (fail))
              refine wpQuiet_nil ?_
              intro w3 h3'
              have h3 := late_out h3'
              clear h3' a1 a2 b1 b2
              have hbW3 := hid (hbW.out.trans (h3.mono hbW.out.size))
              have HO3 := HK.more h3
              have HO9 := hid HO3
              clear h3 HO3 HK RV R R0
              go_wp2_with fail
              go_roundw
              case rel => exact ⟨j + 1 + 1, by omega, by go_num, by rw [hzs.out]; simpa using HO9.out, hbW3.out⟩
              case measure => simp [intOf]; omega
      · obtain rfl : k = N := by omega
        obtain ⟨m1, m2⟩ := h12.out
        have hT := zero_thin f hfh.out k
        have hS := str_short f k
        have KT := hid (fun wx (hbx : Below w.heap.size w wx) => thin_any 0 0 p k cap f hfh.out (by omega) m2 hN60 wx (HN.out.more hbx))
        have KS := hid (fun wx (hbx : Below w.heap.size w wx) => straight_any p k cap f hfh.out (by omega) m2 hN60 wx (HN.out.more hbx))
        rw [hT] at KT
        obtain ⟨L, hLe⟩ : ∃ L, zeroL f k = L := ⟨_, rfl⟩
        rw [hLe] at HK c1 RV hlen KT hS ⊢
        replace hLe := hid hLe
        obtain ⟨ns, hns⟩ : ∃ ns, (keepL strStep f k).length = ns := ⟨_, rfl⟩
        rw [hns] at hS
        have hS' : (ns : Int) ≤ (L.length : Int) := by omega
        have hns' := hid hns
        have RVh := hid RV
        have c2' := hid (And.intro c1 c2)
        unfold dval at KT
        clear hT hS HK RV hb hi hz0 hz1 hz2 hns
        go_wp2_with fail
        refine (KT.out _ hbW.out).mono ?_
        rintro e w3 ⟨v, rfl, ⟨q, c, rfl, d1, d2, RT⟩, hb3⟩
        have RTh := hid RT
        have RV3 := hid (RVh.out.more hb3)
        have hbW3 := hid (below2 hbW.out hb3 hbW.out.size)
        have dd := hid (And.intro d1 d2)
        clear hb3 RT d1 d2 KT
        go_wp2_with fail
        refine (plainPoints_same q pv L.length c cv (ptAt L) dd.out.1 dd.out.2 c2'.out.1 c2'.out.2 _ RTh.out RV3.out).mono ?_
        rintro e w4 ⟨rfl, hb4⟩
        have hbW4 := hid (below2 hbW3.out hb4 hbW3.out.size)
        clear hb4
        go_wp2_with fail
        refine (KS.out _ hbW4.out).mono ?_
        rintro e w5 ⟨v, rfl, ⟨q', c', rfl, _, _, _⟩, hb5⟩
        have hbW5 := hid (below2 hbW4.out hb5 hbW4.out.size)
        rw [hns'.out]
        clear hb5 KS
        go_wp2_with fail
        go_ret
        exact ⟨rfl, hbW5.out⟩
end Go.Proofs.Ytjenhnigdgkkoaa
