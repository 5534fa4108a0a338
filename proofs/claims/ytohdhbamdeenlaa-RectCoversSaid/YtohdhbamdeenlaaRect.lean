/-
  What the functions of package rect come to.
-/
import Derived.Test.YtohdhbamdeenlaaProg
import Derived.Test.YtohdhbamdeenlaaAid
import Derived.Test.YtohdhbamdeenlaaRegion
namespace Go.Proofs.Ytohdhbamdeenlaa
open Go.RowKit
set_option linter.unusedVariables false

/-- A window as a value. -/
abbrev rct (a b c d : Int) : Value := .agg #[.int .u32 a, .int .u32 b, .int .u32 c, .int .u32 d]

def emptyB (a b c d : Int) : Bool := decide (c < a) || decide (d < b)
def hasB (a b c d x y : Int) : Bool := decide (a ≤ x) && decide (x ≤ c) && decide (b ≤ y) && decide (y ≤ d)

theorem empty_any (a b c d : Int) (w : World) :
    Calls Try.prog 75 #[rct a b c d] w fun e w' => e = .returned (.bool (emptyB a b c d)) ∧ Below w.heap.size w w' := by
  by_cases h1 : c < a
  · have e : emptyB a b c d = true := by simp [emptyB, h1]
    rw [e]
    clear e
    go_enter Try.func75, Try.ntmps75
    go_wp2
    go_ret
    exact ⟨rfl, by go_grown⟩
  · by_cases h2 : d < b
    · have e : emptyB a b c d = true := by simp [emptyB, h2]
      rw [e]
      clear e
      go_enter Try.func75, Try.ntmps75
      go_wp2
      go_ret
      exact ⟨rfl, by go_grown⟩
    · have e : emptyB a b c d = false := by simp [emptyB]; omega
      rw [e]
      clear e
      go_enter Try.func75, Try.ntmps75
      go_wp2
      go_ret
      exact ⟨rfl, by go_grown⟩

theorem has_ways (a b c d x y : Int) : (a ≤ x ∧ x ≤ c ∧ b ≤ y ∧ y ≤ d ∧ hasB a b c d x y = true) ∨ (¬ a ≤ x ∧ hasB a b c d x y = false) ∨ (a ≤ x ∧ ¬ x ≤ c ∧ hasB a b c d x y = false) ∨ (a ≤ x ∧ x ≤ c ∧ ¬ b ≤ y ∧ hasB a b c d x y = false) ∨ (a ≤ x ∧ x ≤ c ∧ b ≤ y ∧ ¬ y ≤ d ∧ hasB a b c d x y = false) := by
  unfold hasB
  by_cases h1 : a ≤ x <;> by_cases h2 : x ≤ c <;> by_cases h3 : b ≤ y <;> by_cases h4 : y ≤ d <;> simp [h1, h2, h3, h4]

def sideI (a b : Int) : Int := (b - a) % 18446744073709551616 + 1
theorem rside_any (a b : Int) (ha : 0 ≤ a) (ha' : a ≤ 4294967295) (hb : 0 ≤ b) (hb' : b ≤ 4294967295) (hab : a ≤ b) (w : World) :
    Calls Try.prog 91 #[.int .u32 a, .int .u32 b] w fun e w' => e = .returned (.int .u64 (b - a + 1)) ∧ w' = w := by
  go_enter Try.func91, Try.ntmps91
  go_wp2
  go_ret
  exact ⟨rfl, rfl⟩


def eq4 (a b c d a' b' c' d' : Int) : Bool := decide (a = a') && decide (b = b') && decide (c = c') && decide (d = d')
/-- Two windows, compared: one Bool, no ways. -/
@[go_sem high] theorem eql_rct (a b c d a' b' c' d' : Int) (w : World) : (binOp .eql 70 (.agg #[.int .u32 a, .int .u32 b, .int .u32 c, .int .u32 d]) (.agg #[.int .u32 a', .int .u32 b', .int .u32 c', .int .u32 d'])).run Try.prog w = .ok (.bool (eq4 a b c d a' b' c' d')) w := by
  rw [run_eql_struct]
  by_cases h1 : a = a' <;> by_cases h2 : b = b' <;> by_cases h3 : c = c' <;> by_cases h4 : d = d' <;> simp [go_sem, eq4, h1, h2, h3, h4]
@[go_sem high] theorem neq_rct (a b c d a' b' c' d' : Int) (w : World) : (binOp .neq 70 (.agg #[.int .u32 a, .int .u32 b, .int .u32 c, .int .u32 d]) (.agg #[.int .u32 a', .int .u32 b', .int .u32 c', .int .u32 d'])).run Try.prog w = .ok (.bool (!eq4 a b c d a' b' c' d')) w := by
  rw [run_neq_struct]
  by_cases h1 : a = a' <;> by_cases h2 : b = b' <;> by_cases h3 : c = c' <;> by_cases h4 : d = d' <;> simp [go_sem, eq4, h1, h2, h3, h4]

/-- What two windows have in common. -/
def noCut (a b c d a' b' c' d' : Int) : Bool := emptyB (max a a') (max b b') (min c c') (min d d')
def cutP (a b c d a' b' c' d' : Int) : Int := bif noCut a b c d a' b' c' d' then 1 else max a a'
def cutQ (a b c d a' b' c' d' : Int) : Int := bif noCut a b c d a' b' c' d' then 1 else max b b'
def cutR (a b c d a' b' c' d' : Int) : Int := bif noCut a b c d a' b' c' d' then 0 else min c c'
def cutS (a b c d a' b' c' d' : Int) : Int := bif noCut a b c d a' b' c' d' then 0 else min d d'

def meetsB (a b c d a' b' c' d' : Int) : Bool := !noCut a b c d a' b' c' d'
theorem cut_eq_none (a b c d a' b' c' d' : Int) : (!eq4 (cutP a b c d a' b' c' d') (cutQ a b c d a' b' c' d') (cutR a b c d a' b' c' d') (cutS a b c d a' b' c' d') 1 1 0 0) = meetsB a b c d a' b' c' d' := by
  unfold meetsB cutP cutQ cutR cutS
  cases h : noCut a b c d a' b' c' d'
  · unfold noCut emptyB at h
    simp only [Bool.or_eq_false_iff, decide_eq_false_iff_not] at h
    simp only [cond_false, eq4, Bool.not_false, Bool.not_eq_true', Bool.and_eq_false_iff, decide_eq_false_iff_not]
    omega
  · rfl

def withinB (a b c d a' b' c' d' : Int) : Bool := emptyB a b c d || eq4 (cutP a b c d a' b' c' d') (cutQ a b c d a' b' c' d') (cutR a b c d a' b' c' d') (cutS a b c d a' b' c' d') a b c d

def areaI (a b c d : Int) : Int := bif emptyB a b c d then 0 else ((c - a + 1) * (d - b + 1)) % 18446744073709551616
def areaB (a b c d : Int) : Bool := emptyB a b c d || (((c - a + 1) * (d - b + 1)) % 18446744073709551616 != 0)

theorem area_any (a b c d : Int) (ha : 0 ≤ a) (ha' : a ≤ 4294967295) (hb : 0 ≤ b) (hb' : b ≤ 4294967295) (hc : 0 ≤ c) (hc' : c ≤ 4294967295) (hd : 0 ≤ d) (hd' : d ≤ 4294967295) (w : World) :
    Calls Try.prog 74 #[rct a b c d] w fun e w' => e = .returned (.tuple #[.int .u64 (areaI a b c d), .bool (areaB a b c d)]) ∧ Below w.heap.size w w' := by
  have M := fun w => empty_any a b c d w
  cases hn : emptyB a b c d
  · have e1 : areaI a b c d = ((c - a + 1) * (d - b + 1)) % 18446744073709551616 := by simp [areaI, hn]
    have e2 : areaB a b c d = (((c - a + 1) * (d - b + 1)) % 18446744073709551616 != 0) := by simp [areaB, hn]
    rw [e1, e2]
    have h := hn
    unfold emptyB at h
    simp only [Bool.or_eq_false_iff, decide_eq_false_iff_not] at h
    have S1 := hid (fun w => rside_any a c ha ha' hc hc' (by omega) w)
    have S2 := hid (fun w => rside_any b d hb hb' hd hd' (by omega) w)
    have m1 : IntKind.u64.wrap ((c - a + 1) * (d - b + 1)) = ((c - a + 1) * (d - b + 1)) % 18446744073709551616 := IntKind.wrap_u64 _
    generalize ((c - a + 1) * (d - b + 1)) % 18446744073709551616 = k at *
    generalize c - a + 1 = p at *
    generalize d - b + 1 = q at *
    rw [hn] at M
    have HM := hid M
    clear M hn e1 e2 h ha ha' hb hb' hc hc' hd hd'
    go_enter Try.func74, Try.ntmps74
    go_wp2_with fail
    refine (HM.out _).mono ?_
    rintro e w1 ⟨rfl, hb1⟩
    obtain ⟨B0, H⟩ := boxed1 hb1
    have q0 := fun u : Later w1 => u.blk B0
    have H1 := hid H
    clear hb1 H B0
    go_wp2_with fail
    refine wp_region_late 11 (by kernel_rfl) (by kernel_rfl) ?_
    simp only [List.take_succ_cons, List.take_zero, List.drop_succ_cons, List.drop_zero]
    repeat (quiet_step (first | (go_at_call 91; first | (with_reducible exact late_same (S1.out _)) | (with_reducible exact late_same (S2.out _)))))
    refine wpQuiet_nil ?_
    intro w3 h3'
    have h3 := late_out h3'
    clear h3'
    go_wp2
    go_ret2
    exact ⟨by rfl, H1.out.trans (h3.mono H1.out.size)⟩
  · have e1 : areaI a b c d = 0 := by simp [areaI, hn]
    have e2 : areaB a b c d = true := by simp [areaB, hn]
    rw [e1, e2]
    rw [hn] at M
    have HM := hid M
    clear M hn e1 e2
    go_enter Try.func74, Try.ntmps74
    go_wp2_with fail
    refine (HM.out _).mono ?_
    rintro e w1 ⟨rfl, hb1⟩
    obtain ⟨B0, H⟩ := boxed1 hb1
    clear hb1
    go_wp2
    go_ret2
    exact ⟨by rfl, H⟩
end Go.Proofs.Ytohdhbamdeenlaa
