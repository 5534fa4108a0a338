/-
  What the functions of package rect come to.
-/
import Derived.Test.YtdepmoocjnmbeaaProg
import Derived.Test.YtdepmoocjnmbeaaAid
import Derived.Test.YtdepmoocjnmbeaaRegion
namespace Go.Proofs.Ytdepmoocjnmbeaa
open Go.RowKit
set_option linter.unusedVariables false

/-- A window as a value. -/
abbrev rct (a b c d : Int) : Value := .agg #[.int .u32 a, .int .u32 b, .int .u32 c, .int .u32 d]

def emptyB (a b c d : Int) : Bool := decide (c < a) || decide (d < b)
def rhasB (a b c d x y : Int) : Bool := decide (a ≤ x) && decide (x ≤ c) && decide (b ≤ y) && decide (y ≤ d)

theorem empty_any (a b c d : Int) (w : World) :
    Calls Try.prog 9 #[rct a b c d] w fun e w' => e = .returned (.bool (emptyB a b c d)) ∧ Below w.heap.size w w' := by
  by_cases h1 : c < a
  · have e : emptyB a b c d = true := by simp [emptyB, h1]
    rw [e]
    clear e
    go_enter Try.func9, Try.ntmps9
    go_wp2
    go_ret
    exact ⟨rfl, by go_grown⟩
  · by_cases h2 : d < b
    · have e : emptyB a b c d = true := by simp [emptyB, h2]
      rw [e]
      clear e
      go_enter Try.func9, Try.ntmps9
      go_wp2
      go_ret
      exact ⟨rfl, by go_grown⟩
    · have e : emptyB a b c d = false := by simp [emptyB]; omega
      rw [e]
      clear e
      go_enter Try.func9, Try.ntmps9
      go_wp2
      go_ret
      exact ⟨rfl, by go_grown⟩

theorem rhas_ways (a b c d x y : Int) : (a ≤ x ∧ x ≤ c ∧ b ≤ y ∧ y ≤ d ∧ rhasB a b c d x y = true) ∨ (¬ a ≤ x ∧ rhasB a b c d x y = false) ∨ (a ≤ x ∧ ¬ x ≤ c ∧ rhasB a b c d x y = false) ∨ (a ≤ x ∧ x ≤ c ∧ ¬ b ≤ y ∧ rhasB a b c d x y = false) ∨ (a ≤ x ∧ x ≤ c ∧ b ≤ y ∧ ¬ y ≤ d ∧ rhasB a b c d x y = false) := by
  unfold rhasB
  by_cases h1 : a ≤ x <;> by_cases h2 : x ≤ c <;> by_cases h3 : b ≤ y <;> by_cases h4 : y ≤ d <;> simp [h1, h2, h3, h4]

theorem rect_none (w : World) :
    Calls Try.prog 27 #[] w fun e w' => e = .returned (rct 1 1 0 0) ∧ Below w.heap.size w w' := by
  go_enter Try.func27, Try.ntmps27
  go_wp2
  go_returns
  exact ⟨rfl, by go_grown⟩

def sideI (a b : Int) : Int := (b - a) % 18446744073709551616 + 1
def eq4 (a b c d a' b' c' d' : Int) : Bool := decide (a = a') && decide (b = b') && decide (c = c') && decide (d = d')
/-- Two windows, compared: one Bool, no ways. -/
@[go_sem high] theorem eql_rct (a b c d a' b' c' d' : Int) (w : World) : (binOp .eql 24 (.agg #[.int .u32 a, .int .u32 b, .int .u32 c, .int .u32 d]) (.agg #[.int .u32 a', .int .u32 b', .int .u32 c', .int .u32 d'])).run Try.prog w = .ok (.bool (eq4 a b c d a' b' c' d')) w := by
  rw [run_eql_struct]
  by_cases h1 : a = a' <;> by_cases h2 : b = b' <;> by_cases h3 : c = c' <;> by_cases h4 : d = d' <;> simp [go_sem, eq4, h1, h2, h3, h4]
@[go_sem high] theorem neq_rct (a b c d a' b' c' d' : Int) (w : World) : (binOp .neq 24 (.agg #[.int .u32 a, .int .u32 b, .int .u32 c, .int .u32 d]) (.agg #[.int .u32 a', .int .u32 b', .int .u32 c', .int .u32 d'])).run Try.prog w = .ok (.bool (!eq4 a b c d a' b' c' d')) w := by
  rw [run_neq_struct]
  by_cases h1 : a = a' <;> by_cases h2 : b = b' <;> by_cases h3 : c = c' <;> by_cases h4 : d = d' <;> simp [go_sem, eq4, h1, h2, h3, h4]

/-- What two windows have in common. -/
def noCut (a b c d a' b' c' d' : Int) : Bool := emptyB (max a a') (max b b') (min c c') (min d d')
def cutP (a b c d a' b' c' d' : Int) : Int := bif noCut a b c d a' b' c' d' then 1 else max a a'
def cutQ (a b c d a' b' c' d' : Int) : Int := bif noCut a b c d a' b' c' d' then 1 else max b b'
def cutR (a b c d a' b' c' d' : Int) : Int := bif noCut a b c d a' b' c' d' then 0 else min c c'
def cutS (a b c d a' b' c' d' : Int) : Int := bif noCut a b c d a' b' c' d' then 0 else min d d'

set_option maxHeartbeats 1000000 in
theorem cut_any (a b c d a' b' c' d' : Int) (w : World) :
    Calls Try.prog 26 #[rct a b c d, rct a' b' c' d'] w fun e w' => e = .returned (rct (cutP a b c d a' b' c' d') (cutQ a b c d a' b' c' d') (cutR a b c d a' b' c' d') (cutS a b c d a' b' c' d')) ∧ Below w.heap.size w w' := by
  have K := fun w => empty_any (max a a') (max b b') (min c c') (min d d') w
  unfold cutP cutQ cutR cutS
  rw [show emptyB (max a a') (max b b') (min c c') (min d d') = noCut a b c d a' b' c' d' from rfl] at K
  cases hn : noCut a b c d a' b' c' d'
  all_goals
    rw [hn] at K
    have HK := hid K
    clear K hn
    simp only [cond_true, cond_false]
    go_enter Try.func26, Try.ntmps26
    go_wp2_with fail
    refine (HK.out _).mono ?_
    rintro e w1 ⟨rfl, hb1⟩
    obtain ⟨_, _, B2, B3, H1⟩ := boxed4 hb1
    have HB2 := hid B2
    have H1 := hid H1
    obtain ⟨l2, k2, f2⟩ := B2
    obtain ⟨l3, k3, f3⟩ := B3
    clear hb1
    go_wp2_with fail
  · refine bodyPost_ret (v := rct (max a a') (max b b') (min c c') (min d d')) (by simp [results, Try.results26, go_sem, k2]) rfl ⟨rfl, ?_⟩
    exact Below.setCell (Below.setCell (Below.setCell (Below.setCell H1.out (by simp; omega) _) (by simp; omega) _) (by simp; omega) _) (by simp; omega) _
  · refine (rect_none _).mono ?_
    rintro e w2 ⟨rfl, hb2⟩
    have H2 := hid (below2 H1.out hb2 H1.out.size)
    clear k2 f2 l2 k3 f3 l3
    obtain ⟨l2, k2, f2⟩ := HB2.out.more hb2
    clear hb2
    go_wp2_with fail
    refine bodyPost_ret (v := rct 1 1 0 0) (by simp [results, Try.results26, go_sem, k2]) rfl ⟨rfl, ?_⟩
    exact Below.setCell (Below.setCell (Below.setCell (Below.setCell H2.out (by simp; omega) _) (by simp; omega) _) (by simp; omega) _) (by simp; omega) _

def meetsB (a b c d a' b' c' d' : Int) : Bool := !noCut a b c d a' b' c' d'
theorem cut_eq_none (a b c d a' b' c' d' : Int) : (!eq4 (cutP a b c d a' b' c' d') (cutQ a b c d a' b' c' d') (cutR a b c d a' b' c' d') (cutS a b c d a' b' c' d') 1 1 0 0) = meetsB a b c d a' b' c' d' := by
  unfold meetsB cutP cutQ cutR cutS
  cases h : noCut a b c d a' b' c' d'
  · unfold noCut emptyB at h
    simp only [Bool.or_eq_false_iff, decide_eq_false_iff_not] at h
    simp only [cond_false, eq4, Bool.not_false, Bool.not_eq_true', Bool.and_eq_false_iff, decide_eq_false_iff_not]
    omega
  · rfl

theorem meets_any (a b c d a' b' c' d' : Int) (w : World) :
    Calls Try.prog 12 #[rct a b c d, rct a' b' c' d'] w fun e w' => e = .returned (.bool (meetsB a b c d a' b' c' d')) ∧ Below w.heap.size w w' := by
  have K := hid (fun w => cut_any a b c d a' b' c' d' w)
  have E := hid (cut_eq_none a b c d a' b' c' d')
  generalize cutP a b c d a' b' c' d' = p at *
  generalize cutQ a b c d a' b' c' d' = q at *
  generalize cutR a b c d a' b' c' d' = r at *
  generalize cutS a b c d a' b' c' d' = s at *
  go_enter Try.func12, Try.ntmps12
  go_wp2_with fail
  refine (K.out _).mono ?_
  rintro e w1 ⟨rfl, hb1⟩
  obtain ⟨_, _, H⟩ := boxed2 hb1
  have H1 := hid H
  clear hb1 H
  go_wp2_with fail
  refine (rect_none _).mono ?_
  rintro e w2 ⟨rfl, hb2⟩
  have H2 := hid (below2 H1.out hb2 H1.out.size)
  clear hb2 H1
  go_wp2
  go_ret
  exact ⟨ret_bool E.out, H2.out⟩

def withinB (a b c d a' b' c' d' : Int) : Bool := emptyB a b c d || eq4 (cutP a b c d a' b' c' d') (cutQ a b c d a' b' c' d') (cutR a b c d a' b' c' d') (cutS a b c d a' b' c' d') a b c d

theorem within_any (a b c d a' b' c' d' : Int) (w : World) :
    Calls Try.prog 14 #[rct a b c d, rct a' b' c' d'] w fun e w' => e = .returned (.bool (withinB a b c d a' b' c' d')) ∧ Below w.heap.size w w' := by
  have K := hid (fun w => cut_any a b c d a' b' c' d' w)
  have M := fun w => empty_any a b c d w
  unfold withinB
  generalize cutP a b c d a' b' c' d' = p at *
  generalize cutQ a b c d a' b' c' d' = q at *
  generalize cutR a b c d a' b' c' d' = r at *
  generalize cutS a b c d a' b' c' d' = s at *
  cases hn : emptyB a b c d
  all_goals
    rw [hn] at M
    have HM := hid M
    clear M hn
    go_enter Try.func14, Try.ntmps14
    go_wp2_with fail
    generalize hW : (w.alloc (.cells #[.int .u32 a, .int .u32 b, .int .u32 c, .int .u32 d] 24)).alloc (.cells #[.int .u32 a', .int .u32 b', .int .u32 c', .int .u32 d'] 24) = W
    obtain ⟨B0, B1, H⟩ := boxed2 (w := w) (w1 := W) (c := #[.int .u32 a, .int .u32 b, .int .u32 c, .int .u32 d]) (c' := #[.int .u32 a', .int .u32 b', .int .u32 c', .int .u32 d']) (t := 24) (t' := 24) (hW ▸ Below.refl _ _)
    have q0 := fun u : Later W => u.blk B0
    have q1 := fun u : Later W => u.blk B1
    have H1 := hid H
    clear hW B0 B1 H
    refine wp_region_late 9 (by kernel_rfl) (by kernel_rfl) ?_
    simp only [List.take_succ_cons, List.take_zero, List.drop_succ_cons, List.drop_zero]
    repeat (quiet_step (first | (go_at_call 9; (with_reducible exact late_call (HM.out _))) | (go_at_call 26; (with_reducible exact late_call (K.out _)))))
    refine wpQuiet_nil ?_
    intro w3 h3'
    have h3 := late_out h3'
    clear h3'
    go_wp2
    go_ret
    exact ⟨by simp, H1.out.trans (h3.mono H1.out.size)⟩

def areaI (a b c d : Int) : Int := bif emptyB a b c d then 0 else ((c - a + 1) * (d - b + 1)) % 18446744073709551616
def areaB (a b c d : Int) : Bool := emptyB a b c d || (((c - a + 1) * (d - b + 1)) % 18446744073709551616 != 0)

end Go.Proofs.Ytdepmoocjnmbeaa
