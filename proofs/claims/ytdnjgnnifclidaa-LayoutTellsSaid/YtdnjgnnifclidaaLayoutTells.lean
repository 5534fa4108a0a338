/-
  Layer 11: which geometries may be, and where their segments and regions are. The walk of LayoutTells.
-/
import Derived.Test.YtdnjgnnifclidaaLayoutBack
import Derived.Deep.DeepCutAuto
namespace Go.Proofs.Ytdnjgnnifclidaa
open Go.RowKit
set_option linter.unusedVariables false

def regI (e : Int) : Int := if e.tmod 2 = 0 then 1 else 5

theorem region_any (e : Int) (w : World) : Calls Try.prog 34 #[.int .i64 e] w fun r w' => r = .returned (.int .i64 (regI e)) ∧ w' = w := by
  unfold regI
  generalize ht : e.tmod 2 = t
  by_cases h : t = 0
  · rw [if_pos h]
    subst h
    go_enter Try.func34, Try.ntmps34
    go_wp2
    go_ret
    exact ⟨rfl, rfl⟩
  · rw [if_neg h]
    have g : (t == 0) = false := by simpa using h
    go_enter Try.func34, Try.ntmps34
    go_wp2
    go_ret
    exact ⟨rfl, rfl⟩

theorem ok_ways2 (n z : Int) : (okB n z = true ∧ 6 ≤ n ∧ n ≤ 32 ∧ 4 ≤ z ∧ z ≤ 32) ∨ (okB n z = false ∧ decide (6 ≤ n) = false) ∨ (okB n z = false ∧ 6 ≤ n ∧ decide (n ≤ 32) = false) ∨
    (okB n z = false ∧ 6 ≤ n ∧ n ≤ 32 ∧ decide (4 ≤ z) = false) ∨ (okB n z = false ∧ 6 ≤ n ∧ n ≤ 32 ∧ 4 ≤ z ∧ decide (z ≤ 32) = false) := by
  simp only [decide_eq_false_iff_not]
  rcases ok_ways n z with ⟨e, h⟩ | ⟨e, h⟩ | ⟨e, h⟩ | ⟨e, h⟩ | ⟨e, h⟩
  all_goals simp only [e, Bool.true_eq_false, Bool.false_eq_true, true_and, false_and, false_or, or_false]; omega

/-- What the law reckons of a segment and a place, of a geometry that may be. -/
theorem place_ways (n z k o : Int) (hok : okB n z = true) :
    (decide (0 ≤ k) = false ∧ adB n z k o = false ∧ adI n z k o = 0 ∧ segI n z k = 0) ∨
    (0 ≤ k ∧ decide (k < n) = false ∧ adB n z k o = false ∧ adI n z k o = 0 ∧ segI n z k = 0) ∨
    (0 ≤ k ∧ k < n ∧ decide (0 ≤ o) = false ∧ adB n z k o = false ∧ adI n z k o = 0 ∧ IntKind.i64.wrap (k * z) = k * z ∧ IntKind.i64.wrap (9 + k * z) = segI n z k) ∨
    (0 ≤ k ∧ k < n ∧ 0 ≤ o ∧ decide (o < z) = false ∧ adB n z k o = false ∧ adI n z k o = 0 ∧ IntKind.i64.wrap (k * z) = k * z ∧ IntKind.i64.wrap (9 + k * z) = segI n z k) ∨
    (0 ≤ k ∧ k < n ∧ 0 ≤ o ∧ o < z ∧ adB n z k o = true ∧ IntKind.i64.wrap (segI n z k + o) = adI n z k o ∧ IntKind.i64.wrap (k * z) = k * z ∧ IntKind.i64.wrap (9 + k * z) = segI n z k) := by
  have q := ok_true hok
  by_cases h1 : 0 ≤ k
  · by_cases h2 : k < n
    · have b := mul_in (k := k) (z := z) (by omega) (by omega) (by omega) (by omega)
      have hs : segB n z k = true := by unfold segB; rw [hok, decide_eq_true h1, decide_eq_true h2]; rfl
      have sg : segI n z k = 9 + k * z := by unfold segI; rw [if_pos hs]
      have m1 : IntKind.i64.wrap (k * z) = k * z := IntWalk.i64_in _ (by omega)
      have m2 : IntKind.i64.wrap (9 + k * z) = segI n z k := by rw [sg]; exact IntWalk.i64_in _ (by omega)
      have no : (0 ≤ o ∧ o < z) ∨ adB n z k o = false := by
        by_cases h3 : 0 ≤ o ∧ o < z
        · exact .inl h3
        · right
          unfold adB
          rw [hs]
          simp only [Bool.true_and, Bool.and_eq_false_iff, decide_eq_false_iff_not]
          omega
      by_cases h3 : 0 ≤ o
      · by_cases h4 : o < z
        · have hb : adB n z k o = true := by unfold adB; rw [hs, decide_eq_true h3, decide_eq_true h4]; rfl
          have m3 : IntKind.i64.wrap (segI n z k + o) = adI n z k o := by
            unfold adI; rw [if_pos hb, sg]; exact IntWalk.i64_in _ (by omega)
          exact .inr (.inr (.inr (.inr ⟨h1, h2, h3, h4, hb, m3, m1, m2⟩)))
        · have hb := no.resolve_left (by omega)
          exact .inr (.inr (.inr (.inl ⟨h1, h2, h3, decide_eq_false h4, hb, by unfold adI; rw [hb]; rfl, m1, m2⟩)))
      · have hb := no.resolve_left (by omega)
        exact .inr (.inr (.inl ⟨h1, h2, decide_eq_false h3, hb, by unfold adI; rw [hb]; rfl, m1, m2⟩))
    · have hs : segB n z k = false := by unfold segB; rw [decide_eq_false h2, Bool.and_false]
      have hb : adB n z k o = false := by unfold adB; rw [hs, Bool.false_and, Bool.false_and]
      exact .inr (.inl ⟨h1, decide_eq_false h2, hb, by unfold adI; rw [hb]; rfl, by unfold segI; rw [hs]; rfl⟩)
  · have hs : segB n z k = false := by unfold segB; rw [decide_eq_false h1, Bool.and_false, Bool.false_and]
    have hb : adB n z k o = false := by unfold adB; rw [hs, Bool.false_and, Bool.false_and]
    exact .inl ⟨decide_eq_false h1, hb, by unfold adI; rw [hb]; rfl, by unfold segI; rw [hs]; rfl⟩

/-- What is found of a sector, in the law's words. -/
theorem where_ways (n z s : Int) : (whB n z s = true ∧ decide (s < 9) = false ∧ decide (secI n z ≤ s) = false ∧ IntKind.i64.wrap (whQ n z s * z) = whQ n z s * z ∧ IntKind.i64.wrap (whQ n z s * z + whR n z s) = s - 9 ∧ IntKind.i64.wrap (s - 9) = s - 9 ∧ 0 ≤ whR n z s ∧ whR n z s < z) ∨
    (whB n z s = false ∧ whQ n z s = 0 ∧ whR n z s = 0 ∧ s < 9) ∨ (whB n z s = false ∧ whQ n z s = 0 ∧ whR n z s = 0 ∧ decide (s < 9) = false ∧ secI n z ≤ s) := by
  rcases wh_ways n z s with ⟨e, ho, h1, h2⟩ | ⟨e, h1⟩ | ⟨e, h1, h2⟩
  · have o := ok_true ho
    have hs : s < 9 + n * z := by
      have : secI n z = 9 + n * z := by unfold secI; rw [ho]; rfl
      omega
    have b := mul_in (k := n) (z := z) (by omega) (by omega) (by omega) (by omega)
    have q1 : 0 ≤ (s - 9) / z := Int.ediv_nonneg (by omega) (by omega)
    have q2 : (s - 9) / z < n := Int.ediv_lt_of_lt_mul (by omega) (by omega)
    have r1 : 0 ≤ (s - 9) % z := Int.emod_nonneg _ (by omega)
    have r2 : (s - 9) % z < z := Int.emod_lt_of_pos _ (by omega)
    have e1 : whQ n z s = (s - 9) / z := by unfold whQ; rw [if_pos e]
    have e2 : whR n z s = (s - 9) % z := by unfold whR; rw [if_pos e]
    have b2 := mul_in (k := (s - 9) / z) (z := z) q1 (by omega) (by omega) (by omega)
    have eq1 : (s - 9) / z * z + (s - 9) % z = s - 9 := by have := Int.emod_add_mul_ediv (s - 9) z; rw [Int.mul_comm] at this; omega
    refine .inl ⟨e, decide_eq_false h1, decide_eq_false h2, ?_, ?_, IntWalk.i64_in _ (by omega), by omega, by omega⟩
    · rw [e1]; exact IntWalk.i64_in _ (by omega)
    · rw [e1, e2, eq1]; exact IntWalk.i64_in _ (by omega)
  · exact .inr (.inl ⟨e, by unfold whQ; rw [e]; rfl, by unfold whR; rw [e]; rfl, h1⟩)
  · exact .inr (.inr ⟨e, by unfold whQ; rw [e]; rfl, by unfold whR; rw [e]; rfl, decide_eq_false h1, by omega⟩)
end Go.Proofs.Ytdnjgnnifclidaa
