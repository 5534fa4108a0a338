/-
  Layer 3: any two places' squared distance, and which of two distances is less, are as by hand. The walk of WideTells.
-/
import Derived.Test.YtjenhnigdgkkoaaWideLaw
namespace Go.Proofs.Ytjenhnigdgkkoaa
open Go.RowKit
set_option linter.unusedVariables false

theorem gap_any (a b : Int) (ha : 0 ≤ a) (ha2 : a ≤ 4294967295) (hb : 0 ≤ b) (hb2 : b ≤ 4294967295) (w : World) :
    Calls Try.prog 39 #[.int .u32 a, .int .u32 b] w fun e w' => e = .returned (.int .u64 (apartI a b)) ∧ w = w' := by
  go_enter Try.func39, Try.ntmps39
  go_wp2
  all_goals (go_ret; exact ⟨ret_int (by unfold apartI; omega), rfl⟩)

theorem ref_between (a b c d : Int) (ha : 0 ≤ a) (ha' : a ≤ 4294967295) (hb : 0 ≤ b) (hb' : b ≤ 4294967295) (hc : 0 ≤ c) (hc' : c ≤ 4294967295) (hd : 0 ≤ d) (hd' : d ≤ 4294967295) (w : World) :
    Calls Try.prog 20 #[.int .u32 a, .int .u32 b, .int .u32 c, .int .u32 d] w fun e w' => e = .returned (.tuple #[.int .u64 (hiS 0 (sqI (apartI a c)) 0 (sqI (apartI b d))), .int .u64 (loS (sqI (apartI a c)) (sqI (apartI b d)))]) ∧ w = w' := by
  have h1 := apartI_bd a c ha ha' hc hc'
  have h2 := apartI_bd b d hb hb' hd hd'
  obtain ⟨g1, g2⟩ := two_bd h1 h2
  have K1 := hid (fun w => gap_any a c ha ha' hc hc' w)
  have K2 := hid (fun w => gap_any b d hb hb' hd hd' w)
  generalize apartI a c = p at *
  generalize apartI b d = q at *
  have m1 : IntKind.u64.wrap (p * p) = sqI p := IntWalk.u64_in _ (by unfold sqI at g1; omega)
  have m2 : IntKind.u64.wrap (q * q) = sqI q := IntWalk.u64_in _ (by unfold sqI at g2; omega)
  generalize sqI p = pp at *
  generalize sqI q = qq at *
  obtain ⟨s1, s2, s3⟩ := hi_wrap 0 pp 0 qq (by omega) g1.1 (by omega) g2.1 (by omega) g1.2 (by omega) g2.2
  have t1 : loS pp qq < pp → hiS 0 pp 0 qq = 1 := fun h => by rw [← s2 h]; rfl
  have t0 : ¬ loS pp qq < pp → hiS 0 pp 0 qq = 0 := fun h => by rw [← s3 h]; rfl
  clear s2 s3 g1 g2 h1 h2 ha ha' hb hb' hc hc' hd hd'
  by_cases hlt : loS pp qq < pp
  all_goals
    first | rw [t1 hlt] | rw [t0 hlt]
    clear t1 t0
    go_enter Try.func20, Try.ntmps20
    go_wp2_with (go_at_call 39; first | ((with_reducible refine (K1.out _).mono ?_); rintro e w' ⟨rfl, rfl⟩) | ((with_reducible refine (K2.out _).mono ?_); rintro e w' ⟨rfl, rfl⟩))
    go_ret2
    exact ⟨rfl, rfl⟩

theorem less_yes (a b c d : Int) (h : a < c ∨ (a = c ∧ b < d)) (w : World) :
    Calls Try.prog 24 #[.int .u64 a, .int .u64 b, .int .u64 c, .int .u64 d] w fun e w' => e = .returned (.bool true) ∧ w = w' := by
  by_cases h1 : a < c
  · clear h
    go_enter Try.func24, Try.ntmps24
    go_wp2
    go_ret
    exact ⟨rfl, rfl⟩
  · obtain ⟨rfl, h2⟩ := h.resolve_left h1
    clear h
    go_enter Try.func24, Try.ntmps24
    go_wp2
    go_ret
    exact ⟨rfl, rfl⟩
theorem less_no (a b c d : Int) (h : c < a ∨ (a = c ∧ ¬ b < d)) (w : World) :
    Calls Try.prog 24 #[.int .u64 a, .int .u64 b, .int .u64 c, .int .u64 d] w fun e w' => e = .returned (.bool false) ∧ w = w' := by
  by_cases h1 : c < a
  · clear h
    have h3 : ¬ a < c := by omega
    have h4 : (a == c) = false := by simp; omega
    go_enter Try.func24, Try.ntmps24
    go_wp2
    go_ret
    exact ⟨rfl, rfl⟩
  · obtain ⟨rfl, h2⟩ := h.resolve_left h1
    clear h
    go_enter Try.func24, Try.ntmps24
    go_wp2
    go_ret
    exact ⟨rfl, rfl⟩

theorem cmpI_lt {a b : Int} (h : a < b) : cmpI a b = -1 := by simp [cmpI, h]
theorem cmpI_gt {a b : Int} (h : b < a) : cmpI a b = 1 := by unfold cmpI; rw [if_neg (by omega), if_pos h]
theorem cmpI_eq (a : Int) : cmpI a a = 0 := by simp [cmpI]
theorem cmpD_lt {a b c d : Int} (h : a < c ∨ (a = c ∧ b < d)) : cmpD a b c d = -1 := by
  unfold cmpD orI
  rcases h with h | ⟨rfl, h⟩
  · rw [cmpI_lt h]; rfl
  · rw [cmpI_eq, if_pos rfl, cmpI_lt h]
theorem cmpD_gt {a b c d : Int} (h : c < a ∨ (a = c ∧ d < b)) : cmpD a b c d = 1 := by
  unfold cmpD orI
  rcases h with h | ⟨rfl, h⟩
  · rw [cmpI_gt h]; rfl
  · rw [cmpI_eq, if_pos rfl, cmpI_gt h]
theorem cmpD_eq (a b : Int) : cmpD a b a b = 0 := by unfold cmpD orI; rw [cmpI_eq, if_pos rfl, cmpI_eq]

end Go.Proofs.Ytjenhnigdgkkoaa
