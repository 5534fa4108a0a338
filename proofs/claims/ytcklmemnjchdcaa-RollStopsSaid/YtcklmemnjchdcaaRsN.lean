/-
  Package batch, as other layers reach it: which summaries may be. (The text of Batch's beginning: the law of another layer is not in this seat.)
-/
import Derived.Test.YtcklmemnjchdcaaRsZ

namespace Go.Proofs.Ytcklmemnjchdcaa
open Go.RowKit
set_option linter.unusedVariables false
set_option linter.unusedSimpArgs false

/-- An entry. -/
structure En where
  k : Int
  i : Int
def En.ok (e : En) : Prop := -9223372036854775808 ≤ e.k ∧ e.k ≤ 9223372036854775807 ∧ -9223372036854775808 ≤ e.i ∧ e.i ≤ 9223372036854775807
def ecells (e : En) : List Value := [.int .i64 e.k, .int .i64 e.i]
abbrev smval (nx : Int) (la : Bool) (p : Option Addr) (n cap : Nat) : Value := .agg #[.int .i64 nx, .bool la, .slice p n cap]
abbrev smcells (nx : Int) (la : Bool) (p : Option Addr) (n cap : Nat) : Array Value := #[.int .i64 nx, .bool la, .slice p n cap]
def goodE (e : En) : Bool := (decide (e.k = 1) || decide (e.k = 2)) && (decide (1 ≤ e.i) && decide (e.i ≤ 255))
def allG (f : Nat → En) : Nat → Bool
  | 0 => true
  | k + 1 => allG f k && goodE (f k)
theorem allG_iff (f : Nat → En) : ∀ n, allG f n = true ↔ ∀ i, i < n → goodE (f i) = true
  | 0 => by simp [allG]
  | n + 1 => by
    simp only [allG, Bool.and_eq_true, allG_iff f n]
    constructor
    · rintro ⟨h1, h2⟩ i hi
      by_cases e : i = n
      · rw [e]; exact h2
      · exact h1 i (by omega)
    · intro h
      exact ⟨fun i hi => h i (by omega), h n (by omega)⟩
theorem allG_bad (f : Nat → En) {k n : Nat} (h : goodE (f k) = false) (hk : k < n) : allG f n = false := by
  cases hg : allG f n with
  | false => rfl
  | true => have := (allG_iff f n).1 hg k hk; rw [h] at this; cases this
def bCk (nx : Int) (n : Nat) (f : Nat → En) : Int := if nx < 0 ∨ 31 < nx then 4 else if 64 < n then 3 else if allG f n then 0 else 12
theorem good_ways (e : En) : (goodE e = true ∧ ((e.k = 1) ∨ (e.k = 2)) ∧ 1 ≤ e.i ∧ e.i ≤ 255) ∨ (goodE e = false ∧ e.k < 1) ∨ (goodE e = false ∧ 2 < e.k) ∨ (goodE e = false ∧ (e.k = 1 ∨ e.k = 2) ∧ e.i < 1) ∨ (goodE e = false ∧ (e.k = 1 ∨ e.k = 2) ∧ 1 ≤ e.i ∧ 255 < e.i) := by
  have h : goodE e = true ↔ ((e.k = 1 ∨ e.k = 2) ∧ 1 ≤ e.i ∧ e.i ≤ 255) := by simp [goodE]
  cases hg : goodE e with
  | true => exact .inl ⟨rfl, h.1 hg⟩
  | false =>
    have hn : ¬ ((e.k = 1 ∨ e.k = 2) ∧ 1 ≤ e.i ∧ e.i ≤ 255) := fun x => by rw [h.2 x] at hg; cases hg
    by_cases h1 : e.k < 1
    · exact .inr (.inl ⟨rfl, h1⟩)
    · by_cases h2 : 2 < e.k
      · exact .inr (.inr (.inl ⟨rfl, h2⟩))
      · by_cases h3 : e.i < 1
        · exact .inr (.inr (.inr (.inl ⟨rfl, by omega, h3⟩)))
        · exact .inr (.inr (.inr (.inr ⟨rfl, by omega, by omega, by omega⟩)))

set_option maxRecDepth 100000 in
set_option maxHeartbeats 4000000 in
theorem bcheck_any (nx : Int) (la : Bool) (p : Option Addr) (n cap : Nat) (f : Nat → En) (h1 : n ≤ cap) (h2 : cap ≤ maxLen) (w : World) (HR : RowP w p 2 n (fun i => ecells (f i))) :
    Calls Try.prog 24 #[smval nx la p n cap] w fun e w' => e = .returned (.int .i64 (bCk nx n f)) ∧ Below w.heap.size w w' := by
  have hb0 : Below w.heap.size w (w.alloc (.cells (smcells nx la p n cap) 83)) := (Below.refl _ _).alloc (Nat.le_refl _) _
  have hR0 := hid HR
  have D0 := hid hb0
  unfold maxLen at h2
  clear HR hb0
  by_cases g1 : nx < 0
  · have hC := hid (show bCk nx n f = 4 by unfold bCk; rw [if_pos (.inl g1)])
    go_enter Try.func24, Try.ntmps24
    go_wp2_with fail
    go_ret
    exact ⟨by rw [hC.out]; rfl, D0.out⟩
  · by_cases g2 : 31 < nx
    · have hC := hid (show bCk nx n f = 4 by unfold bCk; rw [if_pos (.inr g2)])
      replace g1 := decide_eq_false g1
      go_enter Try.func24, Try.ntmps24
      go_wp2_with fail
      go_ret
      exact ⟨by rw [hC.out]; rfl, D0.out⟩
    · by_cases g3 : 64 < (n : Int)
      · have hC := hid (show bCk nx n f = 3 by unfold bCk; rw [if_neg (by omega), if_pos (by omega)])
        replace g1 := decide_eq_false g1
        replace g2 := decide_eq_false g2
        go_enter Try.func24, Try.ntmps24
        go_wp2_with fail
        go_ret
        exact ⟨by rw [hC.out]; rfl, D0.out⟩
      · have hC := hid (show bCk nx n f = if allG f n then 0 else 12 by unfold bCk; rw [if_neg (by omega), if_neg (by omega)])
        have n64 : n ≤ 64 := by omega
        replace g1 := decide_eq_false g1
        replace g2 := decide_eq_false g2
        replace g3 := decide_eq_false g3
        generalize bCk nx n f = C at *
        go_enter Try.func24, Try.ntmps24
        go_wp2_with fail
        clear g1 g2 g3
        go_loopw [20] (fun i wx => ∃ k : Nat, k ≤ n ∧ i = .int .i64 (k : Int) ∧ allG f k = true ∧ Below w.heap.size w wx) (fun i _ => n - (intOf i).toNat)
        case atStart => exact ⟨0, by omega, rfl, rfl, D0.out⟩
        case round =>
          obtain ⟨k, hk, rfl, ha, hb⟩ := hrel
          by_cases hlt : k < n
          · obtain ⟨b, o, rfl, R0⟩ := hR0.out.row (by omega)
            have R := R0.more hb
            have z0 := R.at0 hlt (v := .int .i64 (f k).k) rfl
            have z1 := R.at1 hlt (v := .int .i64 (f k).i) rfl
            have hbG := hid (hb.alloc hb.size (.cells #[.int .i64 (f k).k, .int .i64 (f k).i] 70))
            have hgw := good_ways (f k)
            clear R R0 hb
            rcases hgw with ⟨hg, hk12, i1, i2⟩ | ⟨hg, hk1⟩ | ⟨hg, hk2⟩ | ⟨hg, hk12, i1⟩ | ⟨hg, hk12, i1, i2⟩
            · have hst := hid (show allG f (k + 1) = true by show (allG f k && goodE (f k)) = true; rw [ha, hg]; rfl)
              replace ha := hid ha
              replace hg := hid hg
              have j1 : decide ((f k).i < 1) = false := decide_eq_false (by omega)
              have j2 : decide (255 < (f k).i) = false := decide_eq_false (by omega)
              clear i1 i2
              rcases hk12 with hk1 | hk2
              · rw [hk1] at z0
                replace hk1 := hid hk1
                rw [hk1.out] at hbG
                go_wp2_with fail
                go_roundw
                case rel => exact ⟨k + 1, by omega, by go_num, hst.out, hbG.out⟩
                case measure => simp [intOf]; omega
              · rw [hk2] at z0
                replace hk2 := hid hk2
                rw [hk2.out] at hbG
                go_wp2_with fail
                go_roundw
                case rel => exact ⟨k + 1, by omega, by go_num, hst.out, hbG.out⟩
                case measure => simp [intOf]; omega
            · replace hg := hid hg
              have q1 : ((f k).k != 1) = true := by simp; omega
              have q2 : ((f k).k != 2) = true := by simp; omega
              have hc0 := hid (show C = 12 by rw [hC.out, allG_bad f hg.out hlt]; rfl)
              go_wp2_with fail
              go_ret
              exact ⟨by rw [hc0.out]; rfl, hbG.out⟩
            · replace hg := hid hg
              have q1 : ((f k).k != 1) = true := by simp; omega
              have q2 : ((f k).k != 2) = true := by simp; omega
              have hc0 := hid (show C = 12 by rw [hC.out, allG_bad f hg.out hlt]; rfl)
              go_wp2_with fail
              go_ret
              exact ⟨by rw [hc0.out]; rfl, hbG.out⟩
            · replace hg := hid hg
              rcases hk12 with hk1 | hk2
              · rw [hk1] at z0 hbG
                replace hk1 := hid hk1
                have hc0 := hid (show C = 12 by rw [hC.out, allG_bad f hg.out hlt]; rfl)
                go_wp2_with fail
                go_ret
                exact ⟨by rw [hc0.out]; rfl, hbG.out⟩
              · rw [hk2] at z0 hbG
                replace hk2 := hid hk2
                have hc0 := hid (show C = 12 by rw [hC.out, allG_bad f hg.out hlt]; rfl)
                go_wp2_with fail
                go_ret
                exact ⟨by rw [hc0.out]; rfl, hbG.out⟩
            · replace hg := hid hg
              have j1 : decide ((f k).i < 1) = false := decide_eq_false (by omega)
              clear i1
              rcases hk12 with hk1 | hk2
              · rw [hk1] at z0 hbG
                replace hk1 := hid hk1
                have hc0 := hid (show C = 12 by rw [hC.out, allG_bad f hg.out hlt]; rfl)
                go_wp2_with fail
                go_ret
                exact ⟨by rw [hc0.out]; rfl, hbG.out⟩
              · rw [hk2] at z0 hbG
                replace hk2 := hid hk2
                have hc0 := hid (show C = 12 by rw [hC.out, allG_bad f hg.out hlt]; rfl)
                go_wp2_with fail
                go_ret
                exact ⟨by rw [hc0.out]; rfl, hbG.out⟩
          · obtain rfl : k = n := by omega
            have hc0 : C = 0 := by rw [hC.out, ha]; rfl
            replace ha := hid ha
            replace hb := hid hb
            go_wp2
            go_ret
            exact ⟨by rw [hc0]; rfl, hb.out⟩
end Go.Proofs.Ytcklmemnjchdcaa
