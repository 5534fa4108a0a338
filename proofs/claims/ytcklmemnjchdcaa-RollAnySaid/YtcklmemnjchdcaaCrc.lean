/-
  What the functions of package crc come to: octet by octet, by a table.
-/
import Derived.Test.YtcklmemnjchdcaaBig
import Derived.Test.YtcklmemnjchdcaaSlices
import Derived.LoopTactic
import Derived.Great.Walk
import Derived.Laws.BitsAllLaws
namespace Go.Proofs.Ytcklmemnjchdcaa
open Go.RowKit
set_option linter.unusedVariables false
set_option linter.unusedSimpArgs false

/-- One bit of a sum. -/
def halfN (n : Nat) : Nat := if n % 2 = 1 then n / 2 ^^^ 3988292384 else n / 2
def tabN (n : Nat) : Nat := halfN (halfN (halfN (halfN (halfN (halfN (halfN (halfN n)))))))
theorem half_lt {n : Nat} (h : n < 2 ^ 32) : halfN n < 2 ^ 32 := by
  unfold halfN
  split
  · exact Nat.xor_lt_two_pow (by omega) (by decide)
  · omega
theorem tab_lt {n : Nat} (h : n < 2 ^ 32) : tabN n < 2 ^ 32 := half_lt (half_lt (half_lt (half_lt (half_lt (half_lt (half_lt (half_lt h)))))))

/-- A sum goes on, by a table. -/
def alongN (T : Nat → Nat) (g : Nat → Nat) (s : Nat) : Nat → Nat
  | 0 => s
  | k + 1 => T ((alongN T g s k) % 256 ^^^ g k) ^^^ (alongN T g s k) / 256
theorem along_lt {T g : Nat → Nat} {s : Nat} (hT : ∀ j, j < 256 → T j < 2 ^ 32) (hs : s < 2 ^ 32) : ∀ k, (∀ i, i < k → g i < 256) → alongN T g s k < 2 ^ 32
  | 0, _ => hs
  | k + 1, hg => by
    have := along_lt hT hs k fun i hi => hg i (by omega)
    unfold alongN
    have hx : (alongN T g s k) % 256 ^^^ g k < 256 := Nat.xor_lt_two_pow (n := 8) (by omega) (hg k (by omega))
    exact Nat.xor_lt_two_pow (hT _ hx) (by omega)

set_option maxRecDepth 100000 in
theorem half_any (n : Nat) (hn : n < 2 ^ 32) (w : World) : Calls Try.prog 87 #[.int .u32 (n : Int)] w fun e w' => e = .returned (.int .u32 (halfN n : Int)) ∧ w' = w := by
  have e1 : bits .and .u32 (n : Int) 1 = ((n % 2 : Nat) : Int) := by
    have := u32_and_nat n 1 (by omega) (by omega)
    rw [show ((1 : Nat) : Int) = 1 from rfl] at this
    rw [this, Nat.and_one_is_mod]
  have e2 : bits .xor .u32 ((n : Int) / (2 : Int)) 3988292384 = ((n / 2 ^^^ 3988292384 : Nat) : Int) := by
    have := u32_xor_nat (n / 2) 3988292384 (by omega) (by omega)
    rw [show ((3988292384 : Nat) : Int) = 3988292384 from rfl, Int.natCast_ediv] at this
    exact this
  have c1 : 0 ≤ (n : Int) ∧ (n : Int) ≤ 4294967295 := by omega
  unfold halfN
  by_cases h : n % 2 = 1
  · rw [if_pos h]
    generalize n / 2 ^^^ 3988292384 = r at *
    rw [h] at e1
    replace e1 : bits .and .u32 (n : Int) 1 = 1 := e1
    clear h
    go_enter Try.func87, Try.ntmps87
    go_wp2
    go_ret
    exact ⟨rfl, rfl⟩
  · rw [if_neg h]
    have e0 : n % 2 = 0 := by omega
    rw [e0] at e1
    replace e1 : bits .and .u32 (n : Int) 1 = 0 := e1
    clear e2 h e0
    have er : ((n / 2 : Nat) : Int) = (n : Int) / 2 := by omega
    rw [er]
    clear er
    go_enter Try.func87, Try.ntmps87
    go_wp2
    go_ret
    exact ⟨rfl, rfl⟩

/-- One octet more, as the walk has it. -/
theorem along_step {T g : Nat → Nat} {s k : Nat} (hT : ∀ j, j < 256 → T j < 2 ^ 32) (hA : alongN T g s k < 2 ^ 32) (hg : g k < 256) :
    ∃ x : Nat, x < 256 ∧ bits .xor .u8 ((alongN T g s k : Int) % 256) (g k : Int) = (x : Int) ∧ bits .xor .u32 (T x : Int) ((alongN T g s k : Int) / (256 : Int)) = (alongN T g s (k + 1) : Int) := by
  refine ⟨alongN T g s k % 256 ^^^ g k, Nat.xor_lt_two_pow (n := 8) (by omega) hg, ?_, ?_⟩
  · rw [show (alongN T g s k : Int) % 256 = ((alongN T g s k % 256 : Nat) : Int) by omega, u8_xor_nat _ _ (by omega) hg]
  · rw [show (alongN T g s k : Int) / (256 : Int) = ((alongN T g s k / 256 : Nat) : Int) by omega, u32_xor_nat _ _ (by have := hT (alongN T g s k % 256 ^^^ g k) (Nat.xor_lt_two_pow (n := 8) (by omega) hg); omega) (by omega)]
    rfl

set_option maxRecDepth 100000 in
set_option maxHeartbeats 4000000 in
theorem along_any (bt : Nat) (T g : Nat → Nat) (s n cap : Nat) (p : Option Addr) (hT : ∀ j, j < 256 → T j < 2 ^ 32) (hs : s < 2 ^ 32) (hg : ∀ i, i < n → g i < 256) (h1 : n ≤ cap) (h2 : cap ≤ maxLen) (w : World)
    (HT : ∀ j, j < 256 → w.cell? ⟨bt, j, none⟩ = some (.int .u32 (T j : Int))) (HR : RowP w p 1 n (fun i => [.int .u8 (g i : Int)])) :
    Calls Try.prog 78 #[.pointer (some ⟨bt, 0, none⟩), .int .u32 (s : Int), .slice p n cap] w fun e w' => e = .returned (.int .u32 (alongN T g s n : Int)) ∧ w' = w := by
  have AL := hid (fun k (hk : k ≤ n) => along_lt hT hs k fun i hi => hg i (by omega))
  have ST := hid (fun k (hk : k < n) => along_step (s := s) hT (AL.out k (by omega)) (hg k hk))
  unfold maxLen at h2
  replace HT := hid HT
  replace HR := hid HR
  clear hT hs hg
  go_enter Try.func78, Try.ntmps78
  go_wp2_with fail
  go_loop [1, 11] (fun sm i => ∃ k : Nat, k ≤ n ∧ i = .int .i64 (k : Int) ∧ sm = .int .u32 (alongN T g s k : Int)) (fun _ i => n - (intOf i).toNat)
  case atStart => exact ⟨0, by omega, rfl, rfl⟩
  case round =>
    obtain ⟨k, hk, rfl, rfl⟩ := hrel
    by_cases hlt : k < n
    · obtain ⟨b, o, rfl, R⟩ := HR.out.row (by omega)
      have z := R.at0 hlt (v := .int .u8 (g k : Int)) rfl
      rw [Nat.mul_one] at z
      obtain ⟨x, hx, e1, e2⟩ := ST.out k hlt
      have y := HT.out x hx
      have ha := AL.out k hk
      generalize hr' : alongN T g s (k + 1) = r' at *
      replace hr' := hid hr'
      generalize alongN T g s k = r at *
      have c1 : 0 ≤ (r : Int) ∧ (r : Int) ≤ 4294967295 := by omega
      clear R ha
      go_wp2_with fail
      go_round
      case rel => exact ⟨k + 1, by omega, by go_num, by rw [hr'.out]⟩
      case measure => simp [intOf]; omega
    · obtain rfl : k = n := by omega
      go_wp2
      go_ret
      exact ⟨rfl, rfl⟩

/-- A table, as a value. -/
def tabC (T : Nat → Nat) : Array Value := Array.ofFn fun i : Fin 256 => .int .u32 (T i.val : Int)
theorem tabC_nums (T : Nat → Nat) : Nums (tabC T) .u32 256 (fun j => (T j : Int)) := ⟨by simp [tabC], fun j hj => by simp [tabC, hj]⟩
theorem tab_size : (Try.prog.info? 152).map (·.size) = some 256 := by kernel_rfl

theorem not_max {r : Nat} (hr : r < 2 ^ 32) : bits .xor .u32 IntKind.u32.max (r : Int) = 4294967295 - (r : Int) := by
  have e : IntKind.u32.max = ((4294967295 : Nat) : Int) := by decide
  have x : 4294967295 ^^^ r = 4294967295 - r := by
    have e2 : 4294967295 - r = 2 ^ 32 - (r + 1) := by omega
    rw [e2, show 4294967295 = 2 ^ 32 - 1 from rfl]
    apply Nat.eq_of_testBit_eq
    intro i
    rw [Nat.testBit_xor, Nat.testBit_two_pow_sub_one, Nat.testBit_two_pow_sub_succ hr]
    by_cases h : i < 32
    · simp [h]
    · have : r.testBit i = false := Nat.testBit_lt_two_pow (Nat.lt_of_lt_of_le hr (Nat.pow_le_pow_right (by decide) (by omega)))
      simp [h, this]
  rw [e, u32_xor_nat _ _ (by decide) (by omega), x]
  omega

end Go.Proofs.Ytcklmemnjchdcaa
