/-
  Layer 3: any two places' squared distance, and which of two distances is less, are as by hand. The walk of WideTells.
-/
import Derived.Test.YtmgjghgelidmiaaWideLaw
namespace Go.Proofs.Ytmgjghgelidmiaa
open Go.RowKit
set_option linter.unusedVariables false

theorem gap_any (a b : Int) (ha : 0 ≤ a) (ha2 : a ≤ 4294967295) (hb : 0 ≤ b) (hb2 : b ≤ 4294967295) (w : World) :
    Calls Try.prog 46 #[.int .u32 a, .int .u32 b] w fun e w' => e = .returned (.int .u64 (apartI a b)) ∧ w = w' := by
  go_enter Try.func46, Try.ntmps46
  go_wp2
  all_goals (go_ret; exact ⟨ret_int (by unfold apartI; omega), rfl⟩)

theorem ref_between (a b c d : Int) (ha : 0 ≤ a) (ha' : a ≤ 4294967295) (hb : 0 ≤ b) (hb' : b ≤ 4294967295) (hc : 0 ≤ c) (hc' : c ≤ 4294967295) (hd : 0 ≤ d) (hd' : d ≤ 4294967295) (w : World) :
    Calls Try.prog 32 #[.int .u32 a, .int .u32 b, .int .u32 c, .int .u32 d] w fun e w' => e = .returned (.tuple #[.int .u64 (hiS 0 (sqI (apartI a c)) 0 (sqI (apartI b d))), .int .u64 (loS (sqI (apartI a c)) (sqI (apartI b d)))]) ∧ w = w' := by
  have h1 := apartI_bd a c ha ha' hc hc'
  have h2 := apartI_bd b d hb hb' hd hd'
  obtain ⟨g1, g2⟩ := two_bd h1 h2
  have K1 := hid (fun w => gap_any a c ha ha' hc hc' w)
  have K2 := hid (fun w => gap_any b d hb hb' hd hd' w)
  generalize apartI a c = p at *
  generalize apartI b d = q at *
  have m1 : IntKind.u64.wrap (p * p) = sqI p := IntWalk.u64_in _ (by unfold sqI at g1; omega)
  have m2 : IntKind.u64.wrap (q * q) = sqI q := IntWalk.u64_in _ (by unfold sqI at g2; omega)
  generalize sqI p = pp at *
  generalize sqI q = qq at *
  obtain ⟨s1, s2, s3⟩ := hi_wrap 0 pp 0 qq (by omega) g1.1 (by omega) g2.1 (by omega) g1.2 (by omega) g2.2
  have t1 : loS pp qq < pp → hiS 0 pp 0 qq = 1 := fun h => by rw [← s2 h]; rfl
  have t0 : ¬ loS pp qq < pp → hiS 0 pp 0 qq = 0 := fun h => by rw [← s3 h]; rfl
  clear s2 s3 g1 g2 h1 h2 ha ha' hb hb' hc hc' hd hd'
  by_cases hlt : loS pp qq < pp
  all_goals
    first | rw [t1 hlt] | rw [t0 hlt]
    clear t1 t0
    go_enter Try.func32, Try.ntmps32
    go_wp2_with (go_at_call 46; first | ((with_reducible refine (K1.out _).mono ?_); rintro e w' ⟨rfl, rfl⟩) | ((with_reducible refine (K2.out _).mono ?_); rintro e w' ⟨rfl, rfl⟩))
    go_ret2
    exact ⟨rfl, rfl⟩

theorem less_yes (a b c d : Int) (h : a < c ∨ (a = c ∧ b < d)) (w : World) :
    Calls Try.prog 33 #[.int .u64 a, .int .u64 b, .int .u64 c, .int .u64 d] w fun e w' => e = .returned (.bool true) ∧ w = w' := by
  by_cases h1 : a < c
  · clear h
    go_enter Try.func33, Try.ntmps33
    go_wp2
    go_ret
    exact ⟨rfl, rfl⟩
  · obtain ⟨rfl, h2⟩ := h.resolve_left h1
    clear h
    go_enter Try.func33, Try.ntmps33
    go_wp2
    go_ret
    exact ⟨rfl, rfl⟩
theorem less_no (a b c d : Int) (h : c < a ∨ (a = c ∧ ¬ b < d)) (w : World) :
    Calls Try.prog 33 #[.int .u64 a, .int .u64 b, .int .u64 c, .int .u64 d] w fun e w' => e = .returned (.bool false) ∧ w = w' := by
  by_cases h1 : c < a
  · clear h
    have h3 : ¬ a < c := by omega
    have h4 : (a == c) = false := by simp; omega
    go_enter Try.func33, Try.ntmps33
    go_wp2
    go_ret
    exact ⟨rfl, rfl⟩
  · obtain ⟨rfl, h2⟩ := h.resolve_left h1
    clear h
    go_enter Try.func33, Try.ntmps33
    go_wp2
    go_ret
    exact ⟨rfl, rfl⟩

theorem cmpI_lt {a b : Int} (h : a < b) : cmpI a b = -1 := by simp [cmpI, h]
theorem cmpI_gt {a b : Int} (h : b < a) : cmpI a b = 1 := by unfold cmpI; rw [if_neg (by omega), if_pos h]
theorem cmpI_eq (a : Int) : cmpI a a = 0 := by simp [cmpI]
theorem cmpD_lt {a b c d : Int} (h : a < c ∨ (a = c ∧ b < d)) : cmpD a b c d = -1 := by
  unfold cmpD orI
  rcases h with h | ⟨rfl, h⟩
  · rw [cmpI_lt h]; rfl
  · rw [cmpI_eq, if_pos rfl, cmpI_lt h]
theorem cmpD_gt {a b c d : Int} (h : c < a ∨ (a = c ∧ d < b)) : cmpD a b c d = 1 := by
  unfold cmpD orI
  rcases h with h | ⟨rfl, h⟩
  · rw [cmpI_gt h]; rfl
  · rw [cmpI_eq, if_pos rfl, cmpI_gt h]
theorem cmpD_eq (a b : Int) : cmpD a b a b = 0 := by unfold cmpD orI; rw [cmpI_eq, if_pos rfl, cmpI_eq]

/-- The law's three ways. -/
theorem wideTells_way (x0 y0 x1 y1 a b c d : Int) (k : Int) (l1 l2 : Bool) (hx0 : 0 ≤ x0) (hx0' : x0 ≤ 4294967295) (hy0 : 0 ≤ y0) (hy0' : y0 ≤ 4294967295) (hx1 : 0 ≤ x1) (hx1' : x1 ≤ 4294967295) (hy1 : 0 ≤ y1) (hy1' : y1 ≤ 4294967295)
    (hk : cmpD a b c d = k) (hl : (l1 = true ∧ l2 = false ∧ k = -1) ∨ (l1 = false ∧ l2 = true ∧ k = 1) ∨ (l1 = false ∧ l2 = false ∧ k = 0))
    (L1 : ∀ w, Calls Try.prog 33 #[.int .u64 a, .int .u64 b, .int .u64 c, .int .u64 d] w fun e w' => e = .returned (.bool l1) ∧ w = w')
    (L2 : ∀ w, Calls Try.prog 33 #[.int .u64 c, .int .u64 d, .int .u64 a, .int .u64 b] w fun e w' => e = .returned (.bool l2) ∧ w = w') (w : World) :
    Calls Try.prog 8 #[.int .u32 x0, .int .u32 y0, .int .u32 x1, .int .u32 y1, .agg #[.int .u64 a, .int .u64 b], .agg #[.int .u64 c, .int .u64 d]] w fun e w' => e = .returned (.bool true) ∧ Below w.heap.size w w' := by
  have R := hid (fun w => ref_between x0 y0 x1 y1 hx0 hx0' hy0 hy0' hx1 hx1' hy1 hy1' w)
  have B := hid (fun w => between_any x0 y0 x1 y1 hx0 hx0' hy0 hy0' hx1 hx1' hy1 hy1' w)
  have S := hid (fun w => square_any x0 hx0 hx0' w)
  have C := hid (fun w => cmp_any a b c d w)
  rw [hk] at C
  have h0 := sq_bd x0 hx0 hx0'
  have m1 : IntKind.u64.wrap (x0 * x0) = sqI x0 := IntWalk.u64_in _ (by unfold sqI at h0; omega)
  generalize hiS 0 (sqI (apartI x0 x1)) 0 (sqI (apartI y0 y1)) = hh at *
  generalize loS (sqI (apartI x0 x1)) (sqI (apartI y0 y1)) = ll at *
  generalize sqI x0 = ss at *
  have M1 := hid L1
  have M2 := hid L2
  clear L1 L2 h0 hy0 hy0' hx1 hx1' hy1 hy1' hk
  rcases hl with ⟨rfl, rfl, rfl⟩ | ⟨rfl, rfl, rfl⟩ | ⟨rfl, rfl, rfl⟩
  all_goals
    go_enter Try.func8, Try.ntmps8
    go_wp2_with fail
    refine (alive3 _).mono ?_
    rintro e w1 ⟨rfl, hb1⟩
    obtain ⟨B0, B1, H⟩ := boxed2 hb1
    have HB0 := hid B0
    have HB1 := hid B1
    have H1 := hid H
    obtain ⟨l0, k0, f0⟩ := B0
    obtain ⟨l1, k1, f1⟩ := B1
    clear hb1 H
    go_wp2_with fail
    refine (R.out _).mono ?_
    rintro e w' ⟨rfl, rfl⟩
    go_wp2_with fail
    refine (M1.out _).mono ?_
    rintro e w' ⟨rfl, rfl⟩
    go_wp2_with fail
    refine (M2.out _).mono ?_
    rintro e w' ⟨rfl, rfl⟩
    go_wp2_with fail
    refine (B.out _).mono ?_
    rintro e w2 ⟨rfl, hb2⟩
    have B0 := HB0.out.more hb2
    have B1 := HB1.out.more hb2
    have H2 := hid (below2 H1.out hb2 H1.out.size)
    clear k0 f0 k1 f1 H1 hb2 l0 l1 HB0 HB1
    obtain ⟨l0, k0, f0⟩ := B0
    obtain ⟨l1, k1, f1⟩ := B1
    go_wp2_with fail
    refine (C.out _).mono ?_
    rintro e w3 ⟨rfl, hb3⟩
    have H3 := hid (below2 H2.out hb3 H2.out.size)
    clear k0 f0 k1 f1 l0 l1 H2 hb3
    go_wp2_with fail
    refine (S.out _).mono ?_
    rintro e w4 ⟨rfl, hb4⟩
    have H4 := hid (below2 H3.out hb4 H3.out.size)
    clear H3 hb4
    go_wp2_with fail
    refine (alive3 _).mono ?_
    rintro e w5 ⟨rfl, hb5⟩
    have H5 := hid (below2 H4.out hb5 H4.out.size)
    clear H4 hb5
    go_wp2
    go_ret
    exact ⟨by simp, H5.out⟩

theorem wideTells (x0 y0 x1 y1 a b c d : Int) (hx0 : 0 ≤ x0) (hx0' : x0 ≤ 4294967295) (hy0 : 0 ≤ y0) (hy0' : y0 ≤ 4294967295) (hx1 : 0 ≤ x1) (hx1' : x1 ≤ 4294967295) (hy1 : 0 ≤ y1) (hy1' : y1 ≤ 4294967295) (w : World) :
    Calls Try.prog 8 #[.int .u32 x0, .int .u32 y0, .int .u32 x1, .int .u32 y1, .agg #[.int .u64 a, .int .u64 b], .agg #[.int .u64 c, .int .u64 d]] w fun e w' => e = .returned (.bool true) ∧ Below w.heap.size w w' := by
  have key : (a < c ∨ (a = c ∧ b < d)) ∨ (c < a ∨ (a = c ∧ d < b)) ∨ (a = c ∧ b = d) := by omega
  rcases key with h | h | ⟨rfl, rfl⟩
  · exact wideTells_way x0 y0 x1 y1 a b c d (-1) true false hx0 hx0' hy0 hy0' hx1 hx1' hy1 hy1' (cmpD_lt h) (.inl ⟨rfl, rfl, rfl⟩) (fun w => less_yes a b c d h w) (fun w => less_no c d a b (by omega) w) w
  · exact wideTells_way x0 y0 x1 y1 a b c d 1 false true hx0 hx0' hy0 hy0' hx1 hx1' hy1 hy1' (cmpD_gt h) (.inr (.inl ⟨rfl, rfl, rfl⟩)) (fun w => less_no a b c d (by omega) w) (fun w => less_yes c d a b (by omega) w) w
  · exact wideTells_way x0 y0 x1 y1 a b a b 0 false false hx0 hx0' hy0 hy0' hx1 hx1' hy1 hy1' (cmpD_eq a b) (.inr (.inr ⟨rfl, rfl, rfl⟩)) (fun w => less_no a b a b (by omega) w) (fun w => less_no a b a b (by omega) w) w
end Go.Proofs.Ytmgjghgelidmiaa
