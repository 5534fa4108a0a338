/-
  Layer 18: PlanTells, the way A: why they can't go.
-/
import Derived.Test.YtibjccfillhfpaaPlanGot
namespace Go.Proofs.Ytibjccfillhfpaa
open Go.RowKit
set_option linter.unusedVariables false
set_option linter.unusedSimpArgs false

set_option maxRecDepth 100000 in
set_option maxHeartbeats 16000000 in
theorem planTellsA (n z s o x : Int) (fp : Option Addr) (fcap : Nat) (F : List Int) (lp : Option Addr) (lcap : Nat) (L0 : List En) (f1 : F.length ≤ fcap) (f2 : fcap ≤ maxLen) (f3 : F.length ≤ 17592186044416) (f4 : fp = none → F = []) (l1 : L0.length ≤ lcap) (l2 : lcap ≤ maxLen) (w : World) (RF : RowOf inT w fp F) (RL0 : RowOf enT w lp L0) (hway : placedB n z ⟨s, o, x⟩ F = false ∨ (L0.take 200).all goodE = false) :
    Calls Try.prog 3 #[geo n z, plv s o x, .slice fp F.length fcap, .slice lp L0.length lcap] w fun e w' => e = .returned (.bool true) ∧ Below w.heap.size w w' := by
  obtain ⟨B0, B1, Hb⟩ := @boxed2 w _ #[.int .i64 n, .int .i64 z] #[.int .i64 s, .int .i64 o, .int .i64 x] 23 25 (Below.refl _ _)
  obtain ⟨W, hW⟩ : ∃ W, (w.alloc (.cells #[.int .i64 n, .int .i64 z] 23)).alloc (.cells #[.int .i64 s, .int .i64 o, .int .i64 x] 25) = W := ⟨_, rfl⟩
  rw [hW] at B0 B1 Hb
  have HB0 := hid B0
  have HB1 := hid B1
  have HH := hid Hb
  replace hW := hid hW
  have RFh := hid RF
  have RLh := hid RL0
  have hl63 : (L0.length : Int) ≤ 9223372036854775807 := by unfold maxLen at l2; omega
  have hlc : (L0.length : Int) ≤ (lcap : Int) := by omega
  clear B0 B1 Hb RF RL0
  go_enter Try.func3, Try.ntmps3
  go_wp2_with fail
  rw [hW.out]
  refine (alive18 _).mono ?_
  rintro e w1 ⟨rfl, hb1⟩
  have C0 := hid (HB0.out.more hb1)
  have C1 := hid (HB1.out.more hb1)
  have D1 := hid (below2 HH.out hb1 HH.out.size)
  clear hb1 HB0 HB1 HH hW
  go_upto_if 25 with (fail)
  go_cut [3] (fun s3 wx => ∃ L : List En, s3 = .slice lp L.length lcap ∧ L.length ≤ 200 ∧ L.length ≤ lcap ∧ RowOf enT w lp L ∧ L = L0.take 200 ∧ wx = w1)
  case first =>
    by_cases g : 200 < (L0.length : Int)
    · have gc : (200 : Int) ≤ (lcap : Int) := by omega
      have ht : (L0.take 200).length = 200 := by rw [List.length_take]; omega
      have hT := hid (RowOf.take RLh.out 200 (by omega))
      replace ht := hid ht
      go_wp2_with fail
      go_meet
      case rel => exact ⟨L0.take 200, by rw [ht.out], by have := ht.out; omega, by have := ht.out; omega, hT.out, rfl, rfl⟩
    · go_wp2_with fail
      go_meet
      case rel => exact ⟨L0, rfl, by omega, l1, RLh.out, (List.take_of_length_le (by omega)).symm, rfl⟩
  case rest =>
    obtain ⟨L, rfl, hL2, hLc, RL, hLt, rfl⟩ := hcut
    rw [← hLt] at hway
    replace hway := hid hway
    clear hLt
    obtain ⟨l0, k0, g0⟩ := C0.out
    obtain ⟨l1', k1, g1⟩ := C1.out
    have KP := hid ((parts_any n z s o x fp fcap F lp lcap L f1 f2 f3 f4 hLc l2 (by omega) wc (RowOf.more RFh.out D1.out) (RowOf.more RL D1.out)).mono fun e w' h => h.got)
    have RLL := hid RL
    clear RL RLh hl63 hlc
    go_wp2_with fail
    refine KP.out.mono ?_
    rintro e w2 ⟨pv, nv, cv, qs, qo, qx, pf, nf, cf, code, rfl, hb2, hgot⟩
    have hGot := hid hgot
    have hlw := hid (show w.heap.size < w2.heap.size by have h1 := (C0.out.more hb2).lt; exact h1)
    have E0 := hid ((C0.out.more hb2).alloc (.cells #[.int .i64 qs, .int .i64 qo, .int .i64 qx] 25))
    have E1 := hid ((C1.out.more hb2).alloc (.cells #[.int .i64 qs, .int .i64 qo, .int .i64 qx] 25))
    have E2 := hid (Blk.new w2 #[.int .i64 qs, .int .i64 qo, .int .i64 qx] 25)
    have Da := below2 D1.out hb2 D1.out.size
    have D2 := hid (Da.alloc Da.size (.cells #[.int .i64 qs, .int .i64 qo, .int .i64 qx] 25))
    have hmore := hid ((Below.refl w2.heap.size w2).alloc (Nat.le_refl _) (.cells #[.int .i64 qs, .int .i64 qo, .int .i64 qx] 25))
    clear hgot hb2 KP l0 k0 g0 l1' k1 g1 Da C0 C1 D1
    go_wp2_with fail
    generalize w2.alloc (.cells #[.int .i64 qs, .int .i64 qo, .int .i64 qx] 25) = W2 at *
    have hall : Hid (∀ k, k < L.length → (L.take (k + 1)).all goodE = ((L.take k).all goodE && goodE (enAt L k))) := hid (fun k hk => by
      rw [List.take_add_one, List.getElem?_eq_getElem hk, ← atR_eq (T := enT) L k hk]
      simp [List.all_append])
    have hfull : Hid ((L.take L.length).all goodE = L.all goodE) := hid (by rw [List.take_length])
    have h00 : Hid ((L.take 0).all goodE = true) := hid (by simp)
    go_loopw [13, 14] (fun s13 i wr => ∃ k : Nat, k ≤ L.length ∧ i = .int .i64 (k : Int) ∧ s13 = .int .i64 (wantI ((L.take k).all goodE)) ∧ wr = W2) (fun _ i _ => L.length - (intOf i).toNat)
    case atStart => exact ⟨0, by omega, rfl, by rw [h00.out]; rfl, rfl⟩
    case round =>
      obtain ⟨k, hk, rfl, rfl, rfl⟩ := hrel
      by_cases hlt : k < L.length
      · obtain ⟨b, o', rfl, R0⟩ := (en_rowp RLL.out).row (by omega)
        have R := R0.more D2.out
        have z0 := R.at0 hlt (v := .int .i64 (enAt L k).k) rfl
        have z1 := R.at1 hlt (v := .int .i64 (enAt L k).i) rfl
        have hst := hall.out k hlt
        have hlt1 : (k : Int) < (L.length : Int) := by omega
        have hk0 : (0 : Int) ≤ (k : Int) := by omega
        have hk1 : IntKind.i64.wrap ((k : Int) + 1) = (k : Int) + 1 := IntWalk.i64_in _ ⟨by omega, by omega⟩
        have hgw := good_ways (enAt L k)
        generalize (L.take k).all goodE = c at *
        have hst2 : Hid (goodE (enAt L k) = true → wantI ((L.take (k + 1)).all goodE) = wantI c) := hid (fun h => by rw [hst, h]; cases c <;> rfl)
        have hst3 : Hid (goodE (enAt L k) = false → wantI ((L.take (k + 1)).all goodE) = 12) := hid (fun h => by rw [hst, h]; cases c <;> rfl)
        generalize wantI c = wc' at *
        generalize goodE (enAt L k) = gk at *
        generalize (enAt L k).k = ek at *
        generalize (enAt L k).i = ei at *
        clear R R0 hst
        rcases hgw with ⟨rfl, hk12, i1, i2⟩ | ⟨rfl, hk1'⟩ | ⟨rfl, hk2⟩ | ⟨rfl, hk12, i1⟩ | ⟨rfl, hk12, i1, i2⟩
        · have j1 : decide (ei < 1) = false := decide_eq_false (by omega)
          have j2 : decide (255 < ei) = false := decide_eq_false (by omega)
          have hr := hid (hst2.out rfl)
          clear i1 i2 hst2 hst3
          rcases hk12 with rfl | rfl
          all_goals
            go_wp2_with fail
            go_roundw
            case rel => exact ⟨k + 1, hlt, by go_num, by rw [hr.out], by simp⟩
            case measure => simp [intOf]; omega
        · have hr := hid (hst3.out rfl)
          clear hst2 hst3
          go_wp2_with fail
          go_roundw
          case rel => exact ⟨k + 1, hlt, by go_num, by rw [hr.out], by simp⟩
          case measure => simp [intOf]; omega
        · have hr := hid (hst3.out rfl)
          have j1 : decide (ek < 1) = false := decide_eq_false (by omega)
          clear hst2 hst3
          go_wp2_with fail
          go_roundw
          case rel => exact ⟨k + 1, hlt, by go_num, by rw [hr.out], by simp⟩
          case measure => simp [intOf]; omega
        · have hr := hid (hst3.out rfl)
          clear hst2 hst3
          rcases hk12 with rfl | rfl
          all_goals
            go_wp2_with fail
            go_roundw
            case rel => exact ⟨k + 1, hlt, by go_num, by rw [hr.out], by simp⟩
            case measure => simp [intOf]; omega
        · have hr := hid (hst3.out rfl)
          have j1 : decide (ei < 1) = false := decide_eq_false (by omega)
          clear hst2 hst3 i1
          rcases hk12 with rfl | rfl
          all_goals
            go_wp2_with fail
            go_roundw
            case rel => exact ⟨k + 1, hlt, by go_num, by rw [hr.out], by simp⟩
            case measure => simp [intOf]; omega
      · obtain rfl : k = L.length := by omega
        rw [hfull.out]
        have KO := hid (odd_any n z s o x F fp fcap f1 f2 wr (RowOf.more RFh.out D2.out))
        obtain ⟨l0, k0, g0⟩ := E0.out
        obtain ⟨l1', k1, g1⟩ := E1.out
        clear hall h00 hfull
        rcases hGot.out.ways with ⟨hpb, rfl, rfl, rfl, rfl, rfl, rfl⟩ | ⟨hpb, hgb, rfl, rfl, rfl, rfl, rfl, rfl⟩ | ⟨hpb, hgb, hpl, rfl, rfl, rfl⟩ | ⟨hpb, hgb, V, f, hpl, rfl, rfl, rfl, c1, c2, RV, hV⟩
        · have KR := hid (fun w' hb => room_any n z s o x F fp fcap f1 f2 (fun h => by rw [hpb] at h; cases h) w' (RowOf.more RFh.out hb))
          rw [show roomI n z ⟨s, o, x⟩ F = 0 by unfold roomI; rw [hpb]; rfl] at KR
          rw [hpb] at KO
          clear hpb
          generalize wantI (L.all goodE) = wv at *
          go_wp2_with fail
          refine KO.out.mono ?_
          rintro e w4 ⟨rfl, hb4⟩
          have D4 := hid (below2 D2.out hb4 D2.out.size)
          obtain ⟨l2', k2, g2⟩ := E2.out.more hb4
          obtain ⟨l3, k3, g3⟩ := E0.out.more hb4
          obtain ⟨l4, k4, g4⟩ := E1.out.more hb4
          clear hb4 KO l0 k0 g0 l1' k1 g1
          go_wp2_with fail
          refine (KR.out _ D4.out).mono ?_
          rintro e w5 ⟨rfl, hb5⟩
          have D5 := hid (below2 D4.out hb5 D4.out.size)
          clear hb5
          go_wp2_with fail
          go_ret
          exact ⟨rfl, D5.out⟩
        · rw [hpb] at KO
          rw [hgb]
          have hwi : wantI false = 12 := rfl
          rw [hwi]
          clear hpb hgb
          go_wp2_with fail
          refine KO.out.mono ?_
          rintro e w4 ⟨rfl, hb4⟩
          have D4 := hid (below2 D2.out hb4 D2.out.size)
          obtain ⟨l2', k2, g2⟩ := E2.out.more hb4
          clear hb4 KO l0 k0 g0 l1' k1 g1
          go_wp2_with fail
          go_ret
          exact ⟨rfl, D4.out⟩
        · exact absurd hway.out (by rw [hpb, hgb]; simp)
        · exact absurd hway.out (by rw [hpb, hgb]; simp)
end Go.Proofs.Ytibjccfillhfpaa
