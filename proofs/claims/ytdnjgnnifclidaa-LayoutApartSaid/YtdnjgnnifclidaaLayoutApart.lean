/-
  Layer 11: unlike places have unlike sectors. The walk of LayoutApart.
-/
import Derived.Test.YtdnjgnnifclidaaLayout
namespace Go.Proofs.Ytdnjgnnifclidaa
open Go.RowKit
set_option linter.unusedVariables false

theorem ad_true {n z k o : Int} (h : adB n z k o = true) : (6 ≤ n ∧ n ≤ 32 ∧ 4 ≤ z ∧ z ≤ 32) ∧ 0 ≤ k ∧ k < n ∧ 0 ≤ o ∧ o < z ∧ adI n z k o = 9 + k * z + o := by
  have e : adI n z k o = 9 + k * z + o := by rw [adI, if_pos h]
  unfold adB segB at h
  simp only [Bool.and_eq_true, decide_eq_true_eq] at h
  exact ⟨ok_true h.1.1.1.1, h.1.1.1.2, h.1.1.2, h.1.2, h.2, e⟩

theorem place_inj {z a b c d : Int} (hb : 0 ≤ b) (hb' : b < z) (hd : 0 ≤ d) (hd' : d < z) (h : 9 + a * z + b = 9 + c * z + d) : a = c ∧ b = d := by
  have e : a * z + b = c * z + d := by omega
  have h1 : (a * z + b) / z = a := by rw [Int.add_comm, Int.add_mul_ediv_right _ _ (by omega), Int.ediv_eq_zero_of_lt hb hb', Int.zero_add]
  have h2 : (c * z + d) / z = c := by rw [Int.add_comm, Int.add_mul_ediv_right _ _ (by omega), Int.ediv_eq_zero_of_lt hd hd', Int.zero_add]
  rw [e, h2] at h1
  subst h1
  exact ⟨rfl, by omega⟩

set_option maxRecDepth 100000 in
set_option maxHeartbeats 16000000 in
theorem layoutApart (n z a b c d : Int) (w : World) :
    Calls Try.prog 8 #[geo n z, .int .i64 a, .int .i64 b, .int .i64 c, .int .i64 d] w fun e w' => e = .returned (.bool true) ∧ Below w.heap.size w w' := by
  have K1 := fun w => address_any n z a b w
  have K2 := fun w => address_any n z c d w
  have ways : adB n z a b = false ∨ (adB n z a b = true ∧ adB n z c d = false) ∨
      (adB n z a b = true ∧ adB n z c d = true ∧ ((a = c ∧ b = d ∧ adI n z a b = adI n z c d) ∨ (a = c ∧ b ≠ d ∧ adI n z a b ≠ adI n z c d) ∨ (a ≠ c ∧ adI n z a b ≠ adI n z c d))) := by
    cases h1 : adB n z a b
    · exact .inl rfl
    · cases h2 : adB n z c d
      · exact .inr (.inl ⟨rfl, rfl⟩)
      · refine .inr (.inr ⟨rfl, rfl, ?_⟩)
        obtain ⟨_, _, _, p1, p2, p3⟩ := ad_true h1
        obtain ⟨_, _, _, q1, q2, q3⟩ := ad_true h2
        have inj : adI n z a b = adI n z c d → a = c ∧ b = d := fun h => place_inj p1 p2 q1 q2 (by rw [← p3, ← q3]; exact h)
        by_cases e1 : a = c
        · by_cases e2 : b = d
          · subst e1 e2; exact .inl ⟨rfl, rfl, rfl⟩
          · exact .inr (.inl ⟨e1, e2, fun h => e2 (inj h).2⟩)
        · exact .inr (.inr ⟨e1, fun h => e1 (inj h).1⟩)
  generalize adB n z a b = u at *
  generalize adB n z c d = v at *
  generalize adI n z a b = x at *
  generalize adI n z c d = y at *
  have HK1 := hid K1
  have HK2 := hid K2
  clear K1 K2
  rcases ways with rfl | ⟨rfl, rfl⟩ | ⟨rfl, rfl, ⟨h1, h2, h3⟩ | ⟨h1, h2, h3⟩ | ⟨h1, h3⟩⟩
  · go_enter Try.func8, Try.ntmps8
    go_wp2_with fail
    refine (alive11 _).mono ?_
    rintro e w1 ⟨rfl, hb1⟩
    obtain ⟨B0, H⟩ := boxed1 hb1
    have HB0 := hid B0
    have H1 := hid H
    obtain ⟨l0, k0, f0⟩ := B0
    clear hb1 H
    go_wp2_with fail
    refine (HK1.out _).mono ?_
    rintro e w2 ⟨rfl, hb2⟩
    have HB1 := hid (HB0.out.more hb2)
    have H2 := hid (below2 H1.out hb2 H1.out.size)
    clear l0 k0 f0 HB0 H1
    obtain ⟨l0, k0, f0⟩ := HB1.out
    clear hb2
    go_wp2_with fail
    refine (HK2.out _).mono ?_
    rintro e w3 ⟨rfl, hb3⟩
    have H3 := hid (below2 H2.out hb3 H2.out.size)
    clear l0 k0 f0 HB1 H2 hb3
    go_wp2
    go_ret
    exact ⟨by simp, H3.out⟩
  · go_enter Try.func8, Try.ntmps8
    go_wp2_with fail
    refine (alive11 _).mono ?_
    rintro e w1 ⟨rfl, hb1⟩
    obtain ⟨B0, H⟩ := boxed1 hb1
    have HB0 := hid B0
    have H1 := hid H
    obtain ⟨l0, k0, f0⟩ := B0
    clear hb1 H
    go_wp2_with fail
    refine (HK1.out _).mono ?_
    rintro e w2 ⟨rfl, hb2⟩
    have HB1 := hid (HB0.out.more hb2)
    have H2 := hid (below2 H1.out hb2 H1.out.size)
    clear l0 k0 f0 HB0 H1
    obtain ⟨l0, k0, f0⟩ := HB1.out
    clear hb2
    go_wp2_with fail
    refine (HK2.out _).mono ?_
    rintro e w3 ⟨rfl, hb3⟩
    have H3 := hid (below2 H2.out hb3 H2.out.size)
    clear l0 k0 f0 HB1 H2 hb3
    go_wp2
    go_ret
    exact ⟨by simp, H3.out⟩
  · subst h1 h2 h3
    go_enter Try.func8, Try.ntmps8
    go_wp2_with fail
    refine (alive11 _).mono ?_
    rintro e w1 ⟨rfl, hb1⟩
    obtain ⟨B0, H⟩ := boxed1 hb1
    have HB0 := hid B0
    have H1 := hid H
    obtain ⟨l0, k0, f0⟩ := B0
    clear hb1 H
    go_wp2_with fail
    refine (HK1.out _).mono ?_
    rintro e w2 ⟨rfl, hb2⟩
    have HB1 := hid (HB0.out.more hb2)
    have H2 := hid (below2 H1.out hb2 H1.out.size)
    clear l0 k0 f0 HB0 H1
    obtain ⟨l0, k0, f0⟩ := HB1.out
    clear hb2
    go_wp2_with fail
    refine (HK2.out _).mono ?_
    rintro e w3 ⟨rfl, hb3⟩
    have H3 := hid (below2 H2.out hb3 H2.out.size)
    clear l0 k0 f0 HB1 H2 hb3
    go_wp2
    go_ret
    exact ⟨by simp, H3.out⟩
  · subst h1
    have g2 : (b == d) = false := by simpa using h2
    have g3 : (x == y) = false := by simpa using h3
    clear h2 h3
    go_enter Try.func8, Try.ntmps8
    go_wp2_with fail
    refine (alive11 _).mono ?_
    rintro e w1 ⟨rfl, hb1⟩
    obtain ⟨B0, H⟩ := boxed1 hb1
    have HB0 := hid B0
    have H1 := hid H
    obtain ⟨l0, k0, f0⟩ := B0
    clear hb1 H
    go_wp2_with fail
    refine (HK1.out _).mono ?_
    rintro e w2 ⟨rfl, hb2⟩
    have HB1 := hid (HB0.out.more hb2)
    have H2 := hid (below2 H1.out hb2 H1.out.size)
    clear l0 k0 f0 HB0 H1
    obtain ⟨l0, k0, f0⟩ := HB1.out
    clear hb2
    go_wp2_with fail
    refine (HK2.out _).mono ?_
    rintro e w3 ⟨rfl, hb3⟩
    have H3 := hid (below2 H2.out hb3 H2.out.size)
    clear l0 k0 f0 HB1 H2 hb3
    go_wp2
    go_ret
    exact ⟨by simp, H3.out⟩
  · have g2 : (a == c) = false := by simpa using h1
    have g3 : (x == y) = false := by simpa using h3
    clear h1 h3
    go_enter Try.func8, Try.ntmps8
    go_wp2_with fail
    refine (alive11 _).mono ?_
    rintro e w1 ⟨rfl, hb1⟩
    obtain ⟨B0, H⟩ := boxed1 hb1
    have HB0 := hid B0
    have H1 := hid H
    obtain ⟨l0, k0, f0⟩ := B0
    clear hb1 H
    go_wp2_with fail
    refine (HK1.out _).mono ?_
    rintro e w2 ⟨rfl, hb2⟩
    have HB1 := hid (HB0.out.more hb2)
    have H2 := hid (below2 H1.out hb2 H1.out.size)
    clear l0 k0 f0 HB0 H1
    obtain ⟨l0, k0, f0⟩ := HB1.out
    clear hb2
    go_wp2_with fail
    refine (HK2.out _).mono ?_
    rintro e w3 ⟨rfl, hb3⟩
    have H3 := hid (below2 H2.out hb3 H2.out.size)
    clear l0 k0 f0 HB1 H2 hb3
    go_wp2
    go_ret
    exact ⟨by simp, H3.out⟩
end Go.Proofs.Ytdnjgnnifclidaa
