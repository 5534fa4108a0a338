/-
  Layer 11: a sector of a place in a segment is at that place. The walk of LayoutBack.
-/
import Derived.Test.YtdnjgnnifclidaaLayoutWhere
namespace Go.Proofs.Ytdnjgnnifclidaa
open Go.RowKit
set_option linter.unusedVariables false

theorem at_true {n z k o : Int} (h : adB n z k o = true) : (6 ≤ n ∧ n ≤ 32 ∧ 4 ≤ z ∧ z ≤ 32) ∧ 0 ≤ k ∧ k < n ∧ 0 ≤ o ∧ o < z ∧ adI n z k o = 9 + k * z + o := by
  have e : adI n z k o = 9 + k * z + o := by rw [adI, if_pos h]
  unfold adB segB at h
  simp only [Bool.and_eq_true, decide_eq_true_eq] at h
  exact ⟨ok_true h.1.1.1.1, h.1.1.1.2, h.1.1.2, h.1.2, h.2, e⟩

theorem back_facts {n z k o : Int} (h : adB n z k o = true) : let x := 9 + k * z + o
    adI n z k o = x ∧ whB n z x = true ∧ whQ n z x = k ∧ whR n z x = o ∧ x < secI n z ∧ segI n z k = x - o ∧ 9 ≤ x ∧ x ≤ 2000 := by
  intro x
  obtain ⟨g, k1, k2, o1, o2, e⟩ := at_true h
  have hok : okB n z = true := by
    unfold adB segB at h
    simp only [Bool.and_eq_true] at h
    exact h.1.1.1.1
  have b := mul_in (k := k) (z := z) (by omega) (by omega) (by omega) (by omega)
  have m : (k + 1) * z ≤ n * z := Int.mul_le_mul_of_nonneg_right (by omega) (by omega)
  rw [Int.add_mul, Int.one_mul] at m
  have hx : x = 9 + k * z + o := rfl
  have s1 : secI n z = 9 + n * z := by unfold secI; rw [hok]; rfl
  have w1 : whB n z x = true := by
    unfold whB
    rw [hok, decide_eq_true (show 9 ≤ x by omega), decide_eq_true (show x < 9 + n * z by omega)]; rfl
  have d1 : x - 9 = o + k * z := by omega
  have q1 : (x - 9) / z = k := by rw [d1, Int.add_mul_ediv_right _ _ (by omega), Int.ediv_eq_zero_of_lt o1 o2, Int.zero_add]
  have r1 : (x - 9) % z = o := by rw [d1, Int.add_mul_emod_self_right, Int.emod_eq_of_lt o1 o2]
  have sg : segI n z k = 9 + k * z := by
    unfold segI segB
    rw [hok, decide_eq_true k1, decide_eq_true k2]; rfl
  refine ⟨e, w1, ?_, ?_, by omega, by omega, by omega, by omega⟩
  · unfold whQ; rw [if_pos w1, q1]
  · unfold whR; rw [if_pos w1, r1]

set_option maxRecDepth 100000 in
set_option maxHeartbeats 16000000 in
theorem layoutBack (n z k o : Int) (w : World) :
    Calls Try.prog 7 #[geo n z, .int .i64 k, .int .i64 o] w fun e w' => e = .returned (.bool true) ∧ Below w.heap.size w w' := by
  have K1 := fun w => address_any n z k o w
  cases h : adB n z k o
  · have e0 : adI n z k o = 0 := by unfold adI; rw [h]; rfl
    rw [h, e0] at K1
    have HK1 := hid K1
    clear K1 e0 h
    go_enter Try.func7, Try.ntmps7
    go_wp2_with fail
    refine (alive11 _).mono ?_
    rintro e w1 ⟨rfl, hb1⟩
    obtain ⟨B0, H⟩ := boxed1 hb1
    have H1 := hid H
    obtain ⟨l0, k0, f0⟩ := B0
    clear hb1 H
    go_wp2_with fail
    refine (HK1.out _).mono ?_
    rintro e w2 ⟨rfl, hb2⟩
    have H2 := hid (below2 H1.out hb2 H1.out.size)
    clear l0 k0 f0 hb2
    go_wp2
    go_ret
    exact ⟨by simp, H2.out⟩
  · obtain ⟨f1, f2, f3, f4, f5, f6, f7, f8⟩ := back_facts h
    generalize 9 + k * z + o = x at *
    have hk := at_true h
    have m1 : IntKind.i64.wrap (x - o) = x - o := IntWalk.i64_in _ (by omega)
    have K2 := fun w => where_any n z x w
    have K3 := fun w => sectors_any n z w
    have K4 := fun w => segment_any n z k w
    rw [h, f1] at K1
    rw [f2, f3, f4] at K2
    rw [f6] at K4
    generalize secI n z = sc at *
    have g7 : 8 < x := by omega
    clear f1 f2 f3 f4 f6 f7 f8 hk h
    have HK1 := hid K1
    have HK2 := hid K2
    have HK3 := hid K3
    have HK4 := hid K4
    clear K1 K2 K3 K4
    go_enter Try.func7, Try.ntmps7
    go_wp2_with fail
    refine (alive11 _).mono ?_
    rintro e w1 ⟨rfl, hb1⟩
    obtain ⟨B0, H⟩ := boxed1 hb1
    have HB0 := hid B0
    have H1 := hid H
    obtain ⟨l0, k0, f0⟩ := B0
    clear hb1 H
    go_wp2_with fail
    refine (HK1.out _).mono ?_
    rintro e w2 ⟨rfl, hb2⟩
    have HB1 := hid (HB0.out.more hb2)
    have H2 := hid (below2 H1.out hb2 H1.out.size)
    clear l0 k0 f0 HB0 H1
    obtain ⟨l0, k0, f0⟩ := HB1.out
    clear hb2
    go_wp2_with fail
    refine (HK2.out _).mono ?_
    rintro e w3 ⟨rfl, hb3⟩
    have HB2 := hid (HB1.out.more hb3)
    have H3 := hid (below2 H2.out hb3 H2.out.size)
    clear l0 k0 f0 HB1 H2
    obtain ⟨l0, k0, f0⟩ := HB2.out
    clear hb3
    go_wp2_with fail
    refine (HK3.out _).mono ?_
    rintro e w4 ⟨rfl, hb4⟩
    have HB3 := hid (HB2.out.more hb4)
    have H4 := hid (below2 H3.out hb4 H3.out.size)
    clear l0 k0 f0 HB2 H3
    obtain ⟨l0, k0, f0⟩ := HB3.out
    clear hb4
    go_wp2_with fail
    refine (HK4.out _).mono ?_
    rintro e w5 ⟨rfl, hb5⟩
    have H5 := hid (below2 H4.out hb5 H4.out.size)
    clear l0 k0 f0 HB3 H4 hb5
    go_wp2
    go_ret
    exact ⟨by simp, H5.out⟩
end Go.Proofs.Ytdnjgnnifclidaa
