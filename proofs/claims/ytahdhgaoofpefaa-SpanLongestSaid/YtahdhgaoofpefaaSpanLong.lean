/-
  package span: Longest: the last of the longest roads.
-/
import Derived.Test.YtahdhgaoofpefaaSpan
namespace Go.Proofs.Ytahdhgaoofpefaa
open Go.RowKit
set_option linter.unusedVariables false
set_option linter.unusedSimpArgs false

def rdcmp (a b : Rd) : Int := cmpD a.h a.l b.h b.l
/-- The last of the longest of the first k + 1. -/
def bestN (f : Nat → Rd) : Nat → Nat
  | 0 => 0
  | k + 1 => if 0 ≤ rdcmp (f (1 + k)) (f (bestN f k)) then 1 + k else bestN f k
/-- The last place among the first k whose distance is that of place m. -/
def atI (f : Nat → Rd) (m : Nat) : Nat → Int
  | 0 => -1
  | k + 1 => if (f k).h = (f m).h ∧ (f k).l = (f m).l then (k : Int) else atI f m k

theorem cmpD_eq (a b c d : Int) : cmpD a b c d = if a < c then -1 else if c < a then 1 else if b < d then -1 else if d < b then 1 else 0 := by
  unfold cmpD orI cmpI
  by_cases h1 : a < c <;> by_cases h2 : c < a <;> simp [h1, h2]
theorem rdcmp_le (a b : Rd) : rdcmp a b ≤ 0 ↔ a.h < b.h ∨ (a.h = b.h ∧ a.l ≤ b.l) := by
  unfold rdcmp
  rw [cmpD_eq]
  (repeat' split) <;> omega
theorem rdcmp_lt (a b : Rd) : rdcmp a b < 0 ↔ a.h < b.h ∨ (a.h = b.h ∧ a.l < b.l) := by
  unfold rdcmp
  rw [cmpD_eq]
  (repeat' split) <;> omega

theorem bestN_le (f : Nat → Rd) : ∀ k, bestN f k ≤ k
  | 0 => Nat.le_refl _
  | k + 1 => by
    have := bestN_le f k
    unfold bestN
    split <;> omega
theorem bestN_max (f : Nat → Rd) : ∀ k j, j ≤ k → rdcmp (f j) (f (bestN f k)) ≤ 0
  | 0, j, h => by
    obtain rfl : j = 0 := by omega
    rw [rdcmp_le]; exact .inr ⟨rfl, Int.le_refl _⟩
  | k + 1, j, h => by
    have ih := bestN_max f k
    unfold bestN
    split
    · rename_i hg
      have hg' : ¬ rdcmp (f (1 + k)) (f (bestN f k)) < 0 := by omega
      rw [rdcmp_lt] at hg'
      by_cases e : j = 1 + k
      · subst e; rw [rdcmp_le]; exact .inr ⟨rfl, Int.le_refl _⟩
      · have := ih j (by omega)
        rw [rdcmp_le] at this ⊢
        omega
    · rename_i hg
      by_cases e : j = 1 + k
      · subst e; omega
      · exact ih j (by omega)
theorem bestN_last (f : Nat → Rd) : ∀ k j, bestN f k < j → j ≤ k → rdcmp (f j) (f (bestN f k)) < 0
  | 0, j, h, h2 => by omega
  | k + 1, j, h, h2 => by
    have ih := bestN_last f k
    unfold bestN at h ⊢
    split
    · rename_i hg; rw [if_pos hg] at h; omega
    · rename_i hg
      rw [if_neg hg] at h
      by_cases e : j = 1 + k
      · subst e; omega
      · exact ih j h (by omega)
theorem atI_best (f : Nat → Rd) (n : Nat) (hn : 0 < n) : atI f (bestN f (n - 1)) n = (bestN f (n - 1) : Int) := by
  have hl := bestN_last f (n - 1)
  have hb := bestN_le f (n - 1)
  generalize bestN f (n - 1) = m at *
  have : ∀ k, m < k → k ≤ n → atI f m k = (m : Int) := by
    intro k
    induction k with
    | zero => intro h; omega
    | succ k ih =>
      intro h1 h2
      unfold atI
      by_cases e : k = m
      · subst e; rw [if_pos ⟨rfl, rfl⟩]
      · have := hl k (by omega) (by omega)
        rw [rdcmp_lt] at this
        rw [if_neg (by omega)]
        exact ih (by omega) (by omega)
  exact this n (by omega) (Nat.le_refl _)

theorem longest_none (p : Option Addr) (cap : Nat) (w : World) :
    Calls Try.prog 33 #[.slice p 0 cap] w fun e w' => e = .returned (.tuple #[rdval ⟨0, 0, 0, 0⟩, .bool false]) ∧ Below w.heap.size w w' := by
  go_enter Try.func33, Try.ntmps33
  go_wp2_with fail
  refine bodyPost_ret (v := .tuple #[rdval ⟨0, 0, 0, 0⟩, .bool false]) (by simp [results, Try.results33, go_sem]) rfl ⟨rfl, ?_⟩
  go_grown

set_option maxRecDepth 100000 in
set_option maxHeartbeats 4000000 in
theorem longest_any (p : Option Addr) (n cap : Nat) (f : Nat → Rd) (h1 : n ≤ cap) (h2 : cap ≤ maxLen) (hn : 0 < n) (w : World) (HA : RowP w p 4 n (fun i => rcells (f i))) :
    Calls Try.prog 33 #[.slice p n cap] w fun e w' => e = .returned (.tuple #[rdval (f (bestN f (n - 1))), .bool true]) ∧ Below w.heap.size w w' := by
  obtain ⟨b, o, rfl, R⟩ := HA.row (by omega)
  have hbl := R.lt
  have z0 := R.at0 hn (v := .int .i64 (f 0).f) rfl
  have z1 := R.at1 hn (v := .int .i64 (f 0).t) rfl
  have z2 := R.at2 hn (v := .int .u64 (f 0).h) rfl
  have z3 := R.at3 hn (v := .int .u64 (f 0).l) rfl
  simp only [Nat.zero_mul, Nat.add_zero] at z0 z1 z2 z3
  have hmax : (cap : Int) ≤ 9223372036854775807 := by unfold maxLen at h2; omega
  have hn1 : (0 : Int) < (n : Int) := by omega
  have hn2 : (1 : Int) ≤ (n : Int) := by omega
  have hn3 : (n : Int) ≤ (cap : Int) := by omega
  have hn4 : ((n : Int) == 0) = false := by rw [beq_eq_false_iff_ne]; omega
  have hRh := hid R
  have h12 := hid (And.intro h1 h2)
  clear HA R h2
  by_cases hc : cap = 1
  · subst hc
    obtain rfl : n = 1 := by omega
    go_enter Try.func33, Try.ntmps33
    go_wp2_with fail
    refine wp_loop_rounds 1 ?_
    rw [rounds_succ]
    go_wp2_with fail
    refine bodyPost_ret (v := .tuple #[rdval (f (bestN f (1 - 1))), .bool true]) (by simp [results, Try.results33, go_sem, bestN]) rfl ⟨rfl, ?_⟩
    go_grown
  · have hcI : ¬ (cap : Int) = 1 := by omega
    go_enter Try.func33, Try.ntmps33
    go_wp2_with fail
    obtain ⟨B0, B1, H⟩ := @boxed2 w _ #[.int .i64 0, .int .i64 0, .int .u64 0, .int .u64 0] #[.int .i64 (f 0).f, .int .i64 (f 0).t, .int .u64 (f 0).h, .int .u64 (f 0).l] 70 70 (Below.refl _ _)
    have B0h := hid B0
    have B1h := hid B1
    have Hh := hid H
    clear B0 B1 H z0 z1 z2 z3
    generalize (w.alloc (.cells #[.int .i64 0, .int .i64 0, .int .u64 0, .int .u64 0] 70)).alloc (.cells #[.int .i64 (f 0).f, .int .i64 (f 0).t, .int .u64 (f 0).h, .int .u64 (f 0).l] 70) = W at *
    go_loopw [17] (fun i wx => ∃ k : Nat, k ≤ n - 1 ∧ i = .int .i64 (k : Int) ∧ Blk wx w.heap.size #[.int .i64 0, .int .i64 0, .int .u64 0, .int .u64 0] ∧ Blk wx (w.heap.size + 1) #[.int .i64 (f (bestN f k)).f, .int .i64 (f (bestN f k)).t, .int .u64 (f (bestN f k)).h, .int .u64 (f (bestN f k)).l] ∧ Below w.heap.size w wx) (fun i _ => n - 1 - (intOf i).toNat)
    case atStart => exact ⟨0, by omega, rfl, B0h.out, B1h.out, Hh.out⟩
    case round =>
      obtain ⟨k, hk, rfl, C0, C1, Hb⟩ := hrel
      clear B0h B1h Hh
      by_cases hlt : k < n - 1
      · have hlt1 : (k : Int) < (n : Int) - 1 := by omega
        have R := (hRh.out.drop 1).below Hb hbl
        have z0 := R.at0 hlt (v := .int .i64 (f (1 + k)).f) rfl
        have z1 := R.at1 hlt (v := .int .i64 (f (1 + k)).t) rfl
        have z2 := R.at2 hlt (v := .int .u64 (f (1 + k)).h) rfl
        have z3 := R.at3 hlt (v := .int .u64 (f (1 + k)).l) rfl
        have hb : bestN f (k + 1) = if 0 ≤ rdcmp (f (1 + k)) (f (bestN f k)) then 1 + k else bestN f k := rfl
        have KC := hid (fun w => cmp_any (f (1 + k)).h (f (1 + k)).l (f (bestN f k)).h (f (bestN f k)).l w)
        replace hb := hid hb
        unfold rdcmp at hb
        generalize cmpD (f (1 + k)).h (f (1 + k)).l (f (bestN f k)).h (f (bestN f k)).l = d at *
        have C0h := hid C0
        have C1h := hid C1
        have Hbh := hid Hb
        have l1 := C1.lt
        have k1 := C1.cell
        clear R C0 C1 Hb
        go_wp2_with fail
        refine (KC.out _).mono ?_
        rintro e w3 ⟨rfl, hb3⟩
        obtain ⟨C6, H6⟩ := boxed1 hb3
        have D0 := hid (C0h.out.more H6)
        have D1 := C1h.out.more H6
        have D1h := hid D1
        have H3 := hid (Hbh.out.trans (H6.mono Hbh.out.size))
        have l6 := C6.lt
        have k6 := C6.cell
        have f1 := D1.frz
        have k1 := D1.cell
        have l1 := D1.lt
        clear hb3 C6 H6 D1 C0h C1h Hbh KC z0 z1 z2 z3
        by_cases hd : 0 ≤ d
        · rw [if_pos hd] at hb
          have h := (((D1h.out.set 0 (.int .i64 (f (1 + k)).f) (by simp)).set 1 (.int .i64 (f (1 + k)).t) (by simp)).set 2 (.int .u64 (f (1 + k)).h) (by simp)).set 3 (.int .u64 (f (1 + k)).l) (by simp)
          have E1 := hid (show Blk _ (w.heap.size + 1) #[.int .i64 (f (bestN f (k + 1))).f, .int .i64 (f (bestN f (k + 1))).t, .int .u64 (f (bestN f (k + 1))).h, .int .u64 (f (bestN f (k + 1))).l] by rw [hb.out]; simpa using h)
          have hne : ∀ q : Nat, (⟨w.heap.size + 1, q, none⟩ : Addr).block ≠ w.heap.size := fun q => by simp
          have E0 := hid ((((D0.out.other ⟨w.heap.size + 1, 0, none⟩ (hne _) (.int .i64 (f (1 + k)).f)).other ⟨w.heap.size + 1, 1, none⟩ (hne _) (.int .i64 (f (1 + k)).t)).other ⟨w.heap.size + 1, 2, none⟩ (hne _) (.int .u64 (f (1 + k)).h)).other ⟨w.heap.size + 1, 3, none⟩ (hne _) (.int .u64 (f (1 + k)).l))
          have hle : ∀ q : Nat, w.heap.size ≤ (⟨w.heap.size + 1, q, none⟩ : Addr).block := fun q => by simp
          have E3 := hid (Below.setCell (Below.setCell (Below.setCell (Below.setCell H3.out (hle 0) (.int .i64 (f (1 + k)).f)) (hle 1) (.int .i64 (f (1 + k)).t)) (hle 2) (.int .u64 (f (1 + k)).h)) (hle 3) (.int .u64 (f (1 + k)).l))
          clear h hne hle D0 D1h H3
          go_wp2_with fail
          go_roundw
          case rel => exact ⟨k + 1, by omega, by go_num, E0.out, E1.out, E3.out⟩
          case measure => simp [intOf]; omega
        · rw [if_neg hd] at hb
          go_wp2_with fail
          go_roundw
          case rel => exact ⟨k + 1, by omega, by go_num, D0.out, by rw [hb.out]; exact D1h.out, H3.out⟩
          case measure => simp [intOf]; omega
      · obtain rfl : k = n - 1 := by omega
        have l1 := C1.lt
        have k1 := C1.cell
        have l0 := C0.lt
        have f0 := C0.frz
        have k0 := C0.cell
        have hlt1 : ¬ ((n - 1 : Nat) : Int) < (n : Int) - 1 := by omega
        have Hbh := hid Hb
        clear C0 C1 Hb
        go_wp2_with fail
        refine bodyPost_ret (v := .tuple #[rdval (f (bestN f (n - 1))), .bool true]) (by simp [results, Try.results33, go_sem, k0]) rfl ⟨rfl, ?_⟩
        exact Below.setCell (Below.setCell (Below.setCell (Below.setCell Hbh.out (by simp) _) (by simp) _) (by simp) _) (by simp) _
end Go.Proofs.Ytahdhgaoofpefaa
