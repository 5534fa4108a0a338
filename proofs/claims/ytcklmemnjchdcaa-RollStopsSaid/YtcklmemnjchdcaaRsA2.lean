/-
  The document's own points as octets: a point of octets.
-/
import Derived.Test.YtcklmemnjchdcaaRsZ
import Derived.LoopTactic
import Derived.Great.Walk
import Derived.Laws.BitsAllLaws
import Derived.Lib.SlBytesConst
import Derived.Test.YtcklmemnjchdcaaRsA
import Derived.Deep.RegionWith
import Derived.Deep.DeepCutAuto
import Derived.WalkSpells

/-
  What the functions of package crc come to: octet by octet, by a table.
-/





namespace Go.Proofs.Ytcklmemnjchdcaa
open Go.RowKit
set_option linter.unusedVariables false
set_option linter.unusedSimpArgs false

/-- One bit of a sum. -/
def halfN (n : Nat) : Nat := if n % 2 = 1 then n / 2 ^^^ 3988292384 else n / 2
def tabN (n : Nat) : Nat := halfN (halfN (halfN (halfN (halfN (halfN (halfN (halfN n)))))))
theorem half_lt {n : Nat} (h : n < 2 ^ 32) : halfN n < 2 ^ 32 := by
  unfold halfN
  split
  · exact Nat.xor_lt_two_pow (by omega) (by decide)
  · omega
theorem tab_lt {n : Nat} (h : n < 2 ^ 32) : tabN n < 2 ^ 32 := half_lt (half_lt (half_lt (half_lt (half_lt (half_lt (half_lt (half_lt h)))))))

/-- A sum goes on, by a table. -/
def alongN (T : Nat → Nat) (g : Nat → Nat) (s : Nat) : Nat → Nat
  | 0 => s
  | k + 1 => T ((alongN T g s k) % 256 ^^^ g k) ^^^ (alongN T g s k) / 256
theorem along_lt {T g : Nat → Nat} {s : Nat} (hT : ∀ j, j < 256 → T j < 2 ^ 32) (hs : s < 2 ^ 32) : ∀ k, (∀ i, i < k → g i < 256) → alongN T g s k < 2 ^ 32
  | 0, _ => hs
  | k + 1, hg => by
    have := along_lt hT hs k fun i hi => hg i (by omega)
    unfold alongN
    have hx : (alongN T g s k) % 256 ^^^ g k < 256 := Nat.xor_lt_two_pow (n := 8) (by omega) (hg k (by omega))
    exact Nat.xor_lt_two_pow (hT _ hx) (by omega)

set_option maxRecDepth 100000 in
theorem half_any (n : Nat) (hn : n < 2 ^ 32) (w : World) : Calls Try.prog 87 #[.int .u32 (n : Int)] w fun e w' => e = .returned (.int .u32 (halfN n : Int)) ∧ w' = w := by
  have e1 : bits .and .u32 (n : Int) 1 = ((n % 2 : Nat) : Int) := by
    have := u32_and_nat n 1 (by omega) (by omega)
    rw [show ((1 : Nat) : Int) = 1 from rfl] at this
    rw [this, Nat.and_one_is_mod]
  have e2 : bits .xor .u32 ((n : Int) / (2 : Int)) 3988292384 = ((n / 2 ^^^ 3988292384 : Nat) : Int) := by
    have := u32_xor_nat (n / 2) 3988292384 (by omega) (by omega)
    rw [show ((3988292384 : Nat) : Int) = 3988292384 from rfl, Int.natCast_ediv] at this
    exact this
  have c1 : 0 ≤ (n : Int) ∧ (n : Int) ≤ 4294967295 := by omega
  unfold halfN
  by_cases h : n % 2 = 1
  · rw [if_pos h]
    generalize n / 2 ^^^ 3988292384 = r at *
    rw [h] at e1
    replace e1 : bits .and .u32 (n : Int) 1 = 1 := e1
    clear h
    go_enter Try.func87, Try.ntmps87
    go_wp2
    go_ret
    exact ⟨rfl, rfl⟩
  · rw [if_neg h]
    have e0 : n % 2 = 0 := by omega
    rw [e0] at e1
    replace e1 : bits .and .u32 (n : Int) 1 = 0 := e1
    clear e2 h e0
    have er : ((n / 2 : Nat) : Int) = (n : Int) / 2 := by omega
    rw [er]
    clear er
    go_enter Try.func87, Try.ntmps87
    go_wp2
    go_ret
    exact ⟨rfl, rfl⟩

/-- One octet more, as the walk has it. -/
theorem along_step {T g : Nat → Nat} {s k : Nat} (hT : ∀ j, j < 256 → T j < 2 ^ 32) (hA : alongN T g s k < 2 ^ 32) (hg : g k < 256) :
    ∃ x : Nat, x < 256 ∧ bits .xor .u8 ((alongN T g s k : Int) % 256) (g k : Int) = (x : Int) ∧ bits .xor .u32 (T x : Int) ((alongN T g s k : Int) / (256 : Int)) = (alongN T g s (k + 1) : Int) := by
  refine ⟨alongN T g s k % 256 ^^^ g k, Nat.xor_lt_two_pow (n := 8) (by omega) hg, ?_, ?_⟩
  · rw [show (alongN T g s k : Int) % 256 = ((alongN T g s k % 256 : Nat) : Int) by omega, u8_xor_nat _ _ (by omega) hg]
  · rw [show (alongN T g s k : Int) / (256 : Int) = ((alongN T g s k / 256 : Nat) : Int) by omega, u32_xor_nat _ _ (by have := hT (alongN T g s k % 256 ^^^ g k) (Nat.xor_lt_two_pow (n := 8) (by omega) hg); omega) (by omega)]
    rfl

set_option maxRecDepth 100000 in
set_option maxHeartbeats 4000000 in
theorem along_any (bt : Nat) (T g : Nat → Nat) (s n cap : Nat) (p : Option Addr) (hT : ∀ j, j < 256 → T j < 2 ^ 32) (hs : s < 2 ^ 32) (hg : ∀ i, i < n → g i < 256) (h1 : n ≤ cap) (h2 : cap ≤ maxLen) (w : World)
    (HT : ∀ j, j < 256 → w.cell? ⟨bt, j, none⟩ = some (.int .u32 (T j : Int))) (HR : RowP w p 1 n (fun i => [.int .u8 (g i : Int)])) :
    Calls Try.prog 78 #[.pointer (some ⟨bt, 0, none⟩), .int .u32 (s : Int), .slice p n cap] w fun e w' => e = .returned (.int .u32 (alongN T g s n : Int)) ∧ w' = w := by
  have AL := hid (fun k (hk : k ≤ n) => along_lt hT hs k fun i hi => hg i (by omega))
  have ST := hid (fun k (hk : k < n) => along_step (s := s) hT (AL.out k (by omega)) (hg k hk))
  unfold maxLen at h2
  replace HT := hid HT
  replace HR := hid HR
  clear hT hs hg
  go_enter Try.func78, Try.ntmps78
  go_wp2_with fail
  go_loop [1, 11] (fun sm i => ∃ k : Nat, k ≤ n ∧ i = .int .i64 (k : Int) ∧ sm = .int .u32 (alongN T g s k : Int)) (fun _ i => n - (intOf i).toNat)
  case atStart => exact ⟨0, by omega, rfl, rfl⟩
  case round =>
    obtain ⟨k, hk, rfl, rfl⟩ := hrel
    by_cases hlt : k < n
    · obtain ⟨b, o, rfl, R⟩ := HR.out.row (by omega)
      have z := R.at0 hlt (v := .int .u8 (g k : Int)) rfl
      rw [Nat.mul_one] at z
      obtain ⟨x, hx, e1, e2⟩ := ST.out k hlt
      have y := HT.out x hx
      have ha := AL.out k hk
      generalize hr' : alongN T g s (k + 1) = r' at *
      replace hr' := hid hr'
      generalize alongN T g s k = r at *
      have c1 : 0 ≤ (r : Int) ∧ (r : Int) ≤ 4294967295 := by omega
      clear R ha
      go_wp2_with fail
      go_round
      case rel => exact ⟨k + 1, by omega, by go_num, by rw [hr'.out]⟩
      case measure => simp [intOf]; omega
    · obtain rfl : k = n := by omega
      go_wp2
      go_ret
      exact ⟨rfl, rfl⟩

/-- A table, as a value. -/
def tabC (T : Nat → Nat) : Array Value := Array.ofFn fun i : Fin 256 => .int .u32 (T i.val : Int)
theorem tabC_nums (T : Nat → Nat) : Nums (tabC T) .u32 256 (fun j => (T j : Int)) := ⟨by simp [tabC], fun j hj => by simp [tabC, hj]⟩
theorem tab_size : (Try.prog.info? 152).map (·.size) = some 256 := by kernel_rfl

theorem not_max {r : Nat} (hr : r < 2 ^ 32) : bits .xor .u32 IntKind.u32.max (r : Int) = 4294967295 - (r : Int) := by
  have e : IntKind.u32.max = ((4294967295 : Nat) : Int) := by decide
  have x : 4294967295 ^^^ r = 4294967295 - r := by
    have e2 : 4294967295 - r = 2 ^ 32 - (r + 1) := by omega
    rw [e2, show 4294967295 = 2 ^ 32 - 1 from rfl]
    apply Nat.eq_of_testBit_eq
    intro i
    rw [Nat.testBit_xor, Nat.testBit_two_pow_sub_one, Nat.testBit_two_pow_sub_succ hr]
    by_cases h : i < 32
    · simp [h]
    · have : r.testBit i = false := Nat.testBit_lt_two_pow (Nat.lt_of_lt_of_le hr (Nat.pow_le_pow_right (by decide) (by omega)))
      simp [h, this]
  rw [e, u32_xor_nat _ _ (by decide) (by omega), x]
  omega

end Go.Proofs.Ytcklmemnjchdcaa

/-
  The table of package crc: what each octet changes in a sum.
-/

namespace Go.Proofs.Ytcklmemnjchdcaa
open Go.RowKit
set_option linter.unusedVariables false
set_option linter.unusedSimpArgs false
set_option maxRecDepth 100000

theorem alloc_tab (ρ : Operand → Value) (dst : Option Tmp) (ty : TypeId) (pos : String) (af : Array Edge) (w : World) : (execOp ρ { dst := dst, op := .alloc 152, type := ty, pos := pos, after := af, guard := none }).run Try.prog w =
    .ok (.value (.pointer (some ⟨w.heap.size, 0, none⟩))) (w.alloc (.cells (Array.replicate 256 (.int .u32 0)) 152)) := by kernel_rfl

/-- A table under way: the entries of all multiples of 2 B, and of those of B up to 2 B m. -/
def wayG (B m j : Nat) : Int := if j % (2 * B) = 0 ∨ (j % B = 0 ∧ j < m * (2 * B)) then (tabN j : Int) else 0

theorem tab_step0 : ∀ m, m < 1 → tabN (m * 256 + 128) = tabN (m * 256) ^^^ 3988292384 := by
  have key : ∀ m : Fin 1, tabN (m.val * 256 + 128) = tabN (m.val * 256) ^^^ 3988292384 := by decide +kernel
  exact fun m hm => key ⟨m, hm⟩
theorem way_step0 (m : Nat) (j : Nat) : wayG 128 (m + 1) j = if j = m * 256 + 128 then (tabN (m * 256 + 128) : Int) else wayG 128 m j := by
  unfold wayG
  by_cases e : j = m * 256 + 128
  · subst e; rw [if_pos (.inr (by omega)), if_pos rfl]
  · rw [if_neg e]
    by_cases h : j % (2 * 128) = 0 ∨ (j % 128 = 0 ∧ j < m * (2 * 128))
    · rw [if_pos h, if_pos (by omega)]
    · rw [if_neg h, if_neg (by omega)]
theorem tab_step1 : ∀ m, m < 2 → tabN (m * 128 + 64) = tabN (m * 128) ^^^ 1994146192 := by
  have key : ∀ m : Fin 2, tabN (m.val * 128 + 64) = tabN (m.val * 128) ^^^ 1994146192 := by decide +kernel
  exact fun m hm => key ⟨m, hm⟩
theorem way_step1 (m : Nat) (j : Nat) : wayG 64 (m + 1) j = if j = m * 128 + 64 then (tabN (m * 128 + 64) : Int) else wayG 64 m j := by
  unfold wayG
  by_cases e : j = m * 128 + 64
  · subst e; rw [if_pos (.inr (by omega)), if_pos rfl]
  · rw [if_neg e]
    by_cases h : j % (2 * 64) = 0 ∨ (j % 64 = 0 ∧ j < m * (2 * 64))
    · rw [if_pos h, if_pos (by omega)]
    · rw [if_neg h, if_neg (by omega)]
theorem tab_step2 : ∀ m, m < 4 → tabN (m * 64 + 32) = tabN (m * 64) ^^^ 997073096 := by
  have key : ∀ m : Fin 4, tabN (m.val * 64 + 32) = tabN (m.val * 64) ^^^ 997073096 := by decide +kernel
  exact fun m hm => key ⟨m, hm⟩
theorem way_step2 (m : Nat) (j : Nat) : wayG 32 (m + 1) j = if j = m * 64 + 32 then (tabN (m * 64 + 32) : Int) else wayG 32 m j := by
  unfold wayG
  by_cases e : j = m * 64 + 32
  · subst e; rw [if_pos (.inr (by omega)), if_pos rfl]
  · rw [if_neg e]
    by_cases h : j % (2 * 32) = 0 ∨ (j % 32 = 0 ∧ j < m * (2 * 32))
    · rw [if_pos h, if_pos (by omega)]
    · rw [if_neg h, if_neg (by omega)]
theorem tab_step3 : ∀ m, m < 8 → tabN (m * 32 + 16) = tabN (m * 32) ^^^ 498536548 := by
  have key : ∀ m : Fin 8, tabN (m.val * 32 + 16) = tabN (m.val * 32) ^^^ 498536548 := by decide +kernel
  exact fun m hm => key ⟨m, hm⟩
theorem way_step3 (m : Nat) (j : Nat) : wayG 16 (m + 1) j = if j = m * 32 + 16 then (tabN (m * 32 + 16) : Int) else wayG 16 m j := by
  unfold wayG
  by_cases e : j = m * 32 + 16
  · subst e; rw [if_pos (.inr (by omega)), if_pos rfl]
  · rw [if_neg e]
    by_cases h : j % (2 * 16) = 0 ∨ (j % 16 = 0 ∧ j < m * (2 * 16))
    · rw [if_pos h, if_pos (by omega)]
    · rw [if_neg h, if_neg (by omega)]
theorem tab_step4 : ∀ m, m < 16 → tabN (m * 16 + 8) = tabN (m * 16) ^^^ 249268274 := by
  have key : ∀ m : Fin 16, tabN (m.val * 16 + 8) = tabN (m.val * 16) ^^^ 249268274 := by decide +kernel
  exact fun m hm => key ⟨m, hm⟩
theorem way_step4 (m : Nat) (j : Nat) : wayG 8 (m + 1) j = if j = m * 16 + 8 then (tabN (m * 16 + 8) : Int) else wayG 8 m j := by
  unfold wayG
  by_cases e : j = m * 16 + 8
  · subst e; rw [if_pos (.inr (by omega)), if_pos rfl]
  · rw [if_neg e]
    by_cases h : j % (2 * 8) = 0 ∨ (j % 8 = 0 ∧ j < m * (2 * 8))
    · rw [if_pos h, if_pos (by omega)]
    · rw [if_neg h, if_neg (by omega)]
theorem tab_step5 : ∀ m, m < 32 → tabN (m * 8 + 4) = tabN (m * 8) ^^^ 124634137 := by
  have key : ∀ m : Fin 32, tabN (m.val * 8 + 4) = tabN (m.val * 8) ^^^ 124634137 := by decide +kernel
  exact fun m hm => key ⟨m, hm⟩
theorem way_step5 (m : Nat) (j : Nat) : wayG 4 (m + 1) j = if j = m * 8 + 4 then (tabN (m * 8 + 4) : Int) else wayG 4 m j := by
  unfold wayG
  by_cases e : j = m * 8 + 4
  · subst e; rw [if_pos (.inr (by omega)), if_pos rfl]
  · rw [if_neg e]
    by_cases h : j % (2 * 4) = 0 ∨ (j % 4 = 0 ∧ j < m * (2 * 4))
    · rw [if_pos h, if_pos (by omega)]
    · rw [if_neg h, if_neg (by omega)]
theorem tab_step6 : ∀ m, m < 64 → tabN (m * 4 + 2) = tabN (m * 4) ^^^ 3993919788 := by
  have key : ∀ m : Fin 64, tabN (m.val * 4 + 2) = tabN (m.val * 4) ^^^ 3993919788 := by decide +kernel
  exact fun m hm => key ⟨m, hm⟩
theorem way_step6 (m : Nat) (j : Nat) : wayG 2 (m + 1) j = if j = m * 4 + 2 then (tabN (m * 4 + 2) : Int) else wayG 2 m j := by
  unfold wayG
  by_cases e : j = m * 4 + 2
  · subst e; rw [if_pos (.inr (by omega)), if_pos rfl]
  · rw [if_neg e]
    by_cases h : j % (2 * 2) = 0 ∨ (j % 2 = 0 ∧ j < m * (2 * 2))
    · rw [if_pos h, if_pos (by omega)]
    · rw [if_neg h, if_neg (by omega)]
theorem tab_step7 : ∀ m, m < 128 → tabN (m * 2 + 1) = tabN (m * 2) ^^^ 1996959894 := by
  have key : ∀ m : Fin 128, tabN (m.val * 2 + 1) = tabN (m.val * 2) ^^^ 1996959894 := by decide +kernel
  exact fun m hm => key ⟨m, hm⟩
theorem way_step7 (m : Nat) (j : Nat) : wayG 1 (m + 1) j = if j = m * 2 + 1 then (tabN (m * 2 + 1) : Int) else wayG 1 m j := by
  unfold wayG
  by_cases e : j = m * 2 + 1
  · subst e; rw [if_pos (.inr (by omega)), if_pos rfl]
  · rw [if_neg e]
    by_cases h : j % (2 * 1) = 0 ∨ (j % 1 = 0 ∧ j < m * (2 * 1))
    · rw [if_pos h, if_pos (by omega)]
    · rw [if_neg h, if_neg (by omega)]

set_option maxRecDepth 100000 in
set_option maxHeartbeats 32000000 in
theorem table_any (w : World) : Calls Try.prog 77 #[] w fun e w' => e = .returned (.agg (tabC tabN)) ∧ Below w.heap.size w w' := by
  have K0 := fun w => half_any 1 (by decide) w
  rw [show halfN 1 = 3988292384 from by decide] at K0
  replace K0 := hid K0
  have K1 := fun w => half_any 3988292384 (by decide) w
  rw [show halfN 3988292384 = 1994146192 from by decide] at K1
  replace K1 := hid K1
  have K2 := fun w => half_any 1994146192 (by decide) w
  rw [show halfN 1994146192 = 997073096 from by decide] at K2
  replace K2 := hid K2
  have K3 := fun w => half_any 997073096 (by decide) w
  rw [show halfN 997073096 = 498536548 from by decide] at K3
  replace K3 := hid K3
  have K4 := fun w => half_any 498536548 (by decide) w
  rw [show halfN 498536548 = 249268274 from by decide] at K4
  replace K4 := hid K4
  have K5 := fun w => half_any 249268274 (by decide) w
  rw [show halfN 249268274 = 124634137 from by decide] at K5
  replace K5 := hid K5
  have K6 := fun w => half_any 124634137 (by decide) w
  rw [show halfN 124634137 = 3993919788 from by decide] at K6
  replace K6 := hid K6
  have K7 := fun w => half_any 3993919788 (by decide) w
  rw [show halfN 3993919788 = 1996959894 from by decide] at K7
  replace K7 := hid K7
  go_enter Try.func77, Try.ntmps77
  go_wp2_with (first
    | (refine Go.Great.wpList_runTo rfl (some 0) rfl _ _ (alloc_tab _ _ _ _ _ _) ?_)
    | (refine Go.Great.wpList_runTo rfl (some 1) rfl _ _ (alloc_tab _ _ _ _ _ _) ?_))
  generalize hW : World.alloc _ _ = W
  have A0 := hid (show Blk W w.heap.size (Array.replicate 256 (.int .u32 0)) from hW ▸ (Blk.new w _ _).alloc _)
  have T0 : Hid (Blk W (w.heap.size + 1) (Array.replicate 256 (.int .u32 0))) := hid (by
    have := Blk.new (w.alloc (.cells (Array.replicate 256 (.int .u32 0)) 152)) (Array.replicate 256 (.int .u32 0)) 152
    rw [World.size_alloc] at this
    exact hW ▸ this)
  have H0 := hid (show Below w.heap.size w W from hW ▸ Below.alloc (Below.alloc (Below.refl _ _) (Nat.le_refl _) _) (by rw [World.size_alloc]; omega) _)
  have C0 : Hid (∃ c, Blk W (w.heap.size + 1) c ∧ Nums c .u32 256 (wayG 128 0)) := hid ⟨_, T0.out, (nums_rep .u32 256).congr fun j hj => by
    unfold wayG
    by_cases h : j = 0
    · subst h; decide
    · rw [if_neg (by omega)]⟩
  clear hW T0
  generalize hbt : w.heap.size + 1 = bt at *
  refine wp_loop_rounds 9 ?_
  rw [rounds_succ]
  go_wp2_with fail
  refine (K0.out _).mono ?_
  rintro e v0 ⟨rfl, rfl⟩
  go_wp2_with fail
  go_loopw [5] (fun s wx => ∃ m K : Nat, Hid (K = m * 256) ∧ m ≤ 1 ∧ s = .int .i64 (K : Int) ∧ (∃ c, Blk wx bt c ∧ Nums c .u32 256 (wayG 128 m)) ∧ Blk wx w.heap.size (Array.replicate 256 (.int .u32 0)) ∧ Below w.heap.size w wx) (fun s _ => 256 - (intOf s).toNat)
  case atStart => exact ⟨0, 0, hid rfl, by omega, rfl, C0.out, A0.out, H0.out⟩
  case round =>
    clear C0 A0 H0
    obtain ⟨m, K, hK, hm, rfl, ⟨c, TC, NC⟩, A1, H1⟩ := hrel
    replace A1 := hid A1
    replace H1 := hid H1
    by_cases hlt : m < 1
    · have hk0 : K + 128 < 256 := by have := hK.out; omega
      obtain ⟨l1, k1, f1⟩ := TC
      have TC := hid (Blk.mk l1 k1 f1)
      have z := (k1 K).trans (NC.get K (by omega))
      have zt : wayG 128 m K = (tabN K : Int) := if_pos (.inl (by have := hK.out; omega))
      rw [zt] at z
      have z2 := (k1 (K + 128)).trans (NC.get (K + 128) (by omega))
      have tl := tab_lt (n := K) (by omega)
      have e1 : bits .xor .u32 (tabN K : Int) 3988292384 = (tabN (K + 128) : Int) := by
        rw [hK.out, tab_step0 m hlt]
        exact u32_xor_nat _ 3988292384 (by have := tl; rw [hK.out] at this; omega) (by decide)
      have hs : 128 ≤ 128 := by decide
      have ws := hid (way_step0 m)
      rw [← hK.out] at ws
      replace NC := hid NC
      generalize wayG 128 m (K + 128) = old at *
      generalize tabN (K + 128) = new at *
      generalize tabN K = old0 at *
      clear k1 zt tl hs
      go_wp2_with fail
      go_roundw
      case rel => exact ⟨m + 1, K + 256, hid (by rw [hK.out]; omega), by omega, by go_num, ⟨_, TC.out.set (K + 128) _ (by rw [NC.out.size]; exact hk0), NC.out.set hk0 fun j _ => ws.out j⟩, A1.out.other _ (by simp; omega) _, Below.setCell (p := ⟨bt, _, none⟩) H1.out (by simp; omega) _⟩
      case measure => simp [intOf]; omega
    · obtain rfl : m = 1 := by omega
      have hk0 : 256 ≤ K := by have := hK.out; omega
      have C1 : Hid (∃ c, Blk wr bt c ∧ Nums c .u32 256 (wayG 64 0)) := hid ⟨c, TC, NC.congr fun j hj => by
        unfold wayG
        by_cases h : j % 128 = 0
        · rw [if_pos (.inl (by omega)), if_pos (.inr (by omega))]
        · rw [if_neg (by omega), if_neg (by omega)]⟩
      clear TC NC hm
      go_wp2_with fail
      rw [rounds_succ]
      go_wp2_with fail
      refine (K1.out _).mono ?_
      rintro e v1 ⟨rfl, rfl⟩
      go_wp2_with fail
      go_loopw [5] (fun s wx => ∃ m K : Nat, Hid (K = m * 128) ∧ m ≤ 2 ∧ s = .int .i64 (K : Int) ∧ (∃ c, Blk wx bt c ∧ Nums c .u32 256 (wayG 64 m)) ∧ Blk wx w.heap.size (Array.replicate 256 (.int .u32 0)) ∧ Below w.heap.size w wx) (fun s _ => 256 - (intOf s).toNat)
      case atStart => exact ⟨0, 0, hid rfl, by omega, rfl, C1.out, A1.out, H1.out⟩
      case round =>
        clear C1 A1 H1
        obtain ⟨m, K, hK, hm, rfl, ⟨c, TC, NC⟩, A2, H2⟩ := hrel
        replace A2 := hid A2
        replace H2 := hid H2
        by_cases hlt : m < 2
        · have hk0 : K + 64 < 256 := by have := hK.out; omega
          obtain ⟨l1, k1, f1⟩ := TC
          have TC := hid (Blk.mk l1 k1 f1)
          have z := (k1 K).trans (NC.get K (by omega))
          have zt : wayG 64 m K = (tabN K : Int) := if_pos (.inl (by have := hK.out; omega))
          rw [zt] at z
          have z2 := (k1 (K + 64)).trans (NC.get (K + 64) (by omega))
          have tl := tab_lt (n := K) (by omega)
          have e1 : bits .xor .u32 (tabN K : Int) 1994146192 = (tabN (K + 64) : Int) := by
            rw [hK.out, tab_step1 m hlt]
            exact u32_xor_nat _ 1994146192 (by have := tl; rw [hK.out] at this; omega) (by decide)
          have hs : 64 ≤ 128 := by decide
          have ws := hid (way_step1 m)
          rw [← hK.out] at ws
          replace NC := hid NC
          generalize wayG 64 m (K + 64) = old at *
          generalize tabN (K + 64) = new at *
          generalize tabN K = old0 at *
          clear k1 zt tl hs
          go_wp2_with fail
          go_roundw
          case rel => exact ⟨m + 1, K + 128, hid (by rw [hK.out]; omega), by omega, by go_num, ⟨_, TC.out.set (K + 64) _ (by rw [NC.out.size]; exact hk0), NC.out.set hk0 fun j _ => ws.out j⟩, A2.out.other _ (by simp; omega) _, Below.setCell (p := ⟨bt, _, none⟩) H2.out (by simp; omega) _⟩
          case measure => simp [intOf]; omega
        · obtain rfl : m = 2 := by omega
          have hk0 : 256 ≤ K := by have := hK.out; omega
          have C2 : Hid (∃ c, Blk wr bt c ∧ Nums c .u32 256 (wayG 32 0)) := hid ⟨c, TC, NC.congr fun j hj => by
            unfold wayG
            by_cases h : j % 64 = 0
            · rw [if_pos (.inl (by omega)), if_pos (.inr (by omega))]
            · rw [if_neg (by omega), if_neg (by omega)]⟩
          clear TC NC hm
          go_wp2_with fail
          rw [rounds_succ]
          go_wp2_with fail
          refine (K2.out _).mono ?_
          rintro e v2 ⟨rfl, rfl⟩
          go_wp2_with fail
          go_loopw [5] (fun s wx => ∃ m K : Nat, Hid (K = m * 64) ∧ m ≤ 4 ∧ s = .int .i64 (K : Int) ∧ (∃ c, Blk wx bt c ∧ Nums c .u32 256 (wayG 32 m)) ∧ Blk wx w.heap.size (Array.replicate 256 (.int .u32 0)) ∧ Below w.heap.size w wx) (fun s _ => 256 - (intOf s).toNat)
          case atStart => exact ⟨0, 0, hid rfl, by omega, rfl, C2.out, A2.out, H2.out⟩
          case round =>
            clear C2 A2 H2
            obtain ⟨m, K, hK, hm, rfl, ⟨c, TC, NC⟩, A3, H3⟩ := hrel
            replace A3 := hid A3
            replace H3 := hid H3
            by_cases hlt : m < 4
            · have hk0 : K + 32 < 256 := by have := hK.out; omega
              obtain ⟨l1, k1, f1⟩ := TC
              have TC := hid (Blk.mk l1 k1 f1)
              have z := (k1 K).trans (NC.get K (by omega))
              have zt : wayG 32 m K = (tabN K : Int) := if_pos (.inl (by have := hK.out; omega))
              rw [zt] at z
              have z2 := (k1 (K + 32)).trans (NC.get (K + 32) (by omega))
              have tl := tab_lt (n := K) (by omega)
              have e1 : bits .xor .u32 (tabN K : Int) 997073096 = (tabN (K + 32) : Int) := by
                rw [hK.out, tab_step2 m hlt]
                exact u32_xor_nat _ 997073096 (by have := tl; rw [hK.out] at this; omega) (by decide)
              have hs : 32 ≤ 128 := by decide
              have ws := hid (way_step2 m)
              rw [← hK.out] at ws
              replace NC := hid NC
              generalize wayG 32 m (K + 32) = old at *
              generalize tabN (K + 32) = new at *
              generalize tabN K = old0 at *
              clear k1 zt tl hs
              go_wp2_with fail
              go_roundw
              case rel => exact ⟨m + 1, K + 64, hid (by rw [hK.out]; omega), by omega, by go_num, ⟨_, TC.out.set (K + 32) _ (by rw [NC.out.size]; exact hk0), NC.out.set hk0 fun j _ => ws.out j⟩, A3.out.other _ (by simp; omega) _, Below.setCell (p := ⟨bt, _, none⟩) H3.out (by simp; omega) _⟩
              case measure => simp [intOf]; omega
            · obtain rfl : m = 4 := by omega
              have hk0 : 256 ≤ K := by have := hK.out; omega
              have C3 : Hid (∃ c, Blk wr bt c ∧ Nums c .u32 256 (wayG 16 0)) := hid ⟨c, TC, NC.congr fun j hj => by
                unfold wayG
                by_cases h : j % 32 = 0
                · rw [if_pos (.inl (by omega)), if_pos (.inr (by omega))]
                · rw [if_neg (by omega), if_neg (by omega)]⟩
              clear TC NC hm
              go_wp2_with fail
              rw [rounds_succ]
              go_wp2_with fail
              refine (K3.out _).mono ?_
              rintro e v3 ⟨rfl, rfl⟩
              go_wp2_with fail
              go_loopw [5] (fun s wx => ∃ m K : Nat, Hid (K = m * 32) ∧ m ≤ 8 ∧ s = .int .i64 (K : Int) ∧ (∃ c, Blk wx bt c ∧ Nums c .u32 256 (wayG 16 m)) ∧ Blk wx w.heap.size (Array.replicate 256 (.int .u32 0)) ∧ Below w.heap.size w wx) (fun s _ => 256 - (intOf s).toNat)
              case atStart => exact ⟨0, 0, hid rfl, by omega, rfl, C3.out, A3.out, H3.out⟩
              case round =>
                clear C3 A3 H3
                obtain ⟨m, K, hK, hm, rfl, ⟨c, TC, NC⟩, A4, H4⟩ := hrel
                replace A4 := hid A4
                replace H4 := hid H4
                by_cases hlt : m < 8
                · have hk0 : K + 16 < 256 := by have := hK.out; omega
                  obtain ⟨l1, k1, f1⟩ := TC
                  have TC := hid (Blk.mk l1 k1 f1)
                  have z := (k1 K).trans (NC.get K (by omega))
                  have zt : wayG 16 m K = (tabN K : Int) := if_pos (.inl (by have := hK.out; omega))
                  rw [zt] at z
                  have z2 := (k1 (K + 16)).trans (NC.get (K + 16) (by omega))
                  have tl := tab_lt (n := K) (by omega)
                  have e1 : bits .xor .u32 (tabN K : Int) 498536548 = (tabN (K + 16) : Int) := by
                    rw [hK.out, tab_step3 m hlt]
                    exact u32_xor_nat _ 498536548 (by have := tl; rw [hK.out] at this; omega) (by decide)
                  have hs : 16 ≤ 128 := by decide
                  have ws := hid (way_step3 m)
                  rw [← hK.out] at ws
                  replace NC := hid NC
                  generalize wayG 16 m (K + 16) = old at *
                  generalize tabN (K + 16) = new at *
                  generalize tabN K = old0 at *
                  clear k1 zt tl hs
                  go_wp2_with fail
                  go_roundw
                  case rel => exact ⟨m + 1, K + 32, hid (by rw [hK.out]; omega), by omega, by go_num, ⟨_, TC.out.set (K + 16) _ (by rw [NC.out.size]; exact hk0), NC.out.set hk0 fun j _ => ws.out j⟩, A4.out.other _ (by simp; omega) _, Below.setCell (p := ⟨bt, _, none⟩) H4.out (by simp; omega) _⟩
                  case measure => simp [intOf]; omega
                · obtain rfl : m = 8 := by omega
                  have hk0 : 256 ≤ K := by have := hK.out; omega
                  have C4 : Hid (∃ c, Blk wr bt c ∧ Nums c .u32 256 (wayG 8 0)) := hid ⟨c, TC, NC.congr fun j hj => by
                    unfold wayG
                    by_cases h : j % 16 = 0
                    · rw [if_pos (.inl (by omega)), if_pos (.inr (by omega))]
                    · rw [if_neg (by omega), if_neg (by omega)]⟩
                  clear TC NC hm
                  go_wp2_with fail
                  rw [rounds_succ]
                  go_wp2_with fail
                  refine (K4.out _).mono ?_
                  rintro e v4 ⟨rfl, rfl⟩
                  go_wp2_with fail
                  go_loopw [5] (fun s wx => ∃ m K : Nat, Hid (K = m * 16) ∧ m ≤ 16 ∧ s = .int .i64 (K : Int) ∧ (∃ c, Blk wx bt c ∧ Nums c .u32 256 (wayG 8 m)) ∧ Blk wx w.heap.size (Array.replicate 256 (.int .u32 0)) ∧ Below w.heap.size w wx) (fun s _ => 256 - (intOf s).toNat)
                  case atStart => exact ⟨0, 0, hid rfl, by omega, rfl, C4.out, A4.out, H4.out⟩
                  case round =>
                    clear C4 A4 H4
                    obtain ⟨m, K, hK, hm, rfl, ⟨c, TC, NC⟩, A5, H5⟩ := hrel
                    replace A5 := hid A5
                    replace H5 := hid H5
                    by_cases hlt : m < 16
                    · have hk0 : K + 8 < 256 := by have := hK.out; omega
                      obtain ⟨l1, k1, f1⟩ := TC
                      have TC := hid (Blk.mk l1 k1 f1)
                      have z := (k1 K).trans (NC.get K (by omega))
                      have zt : wayG 8 m K = (tabN K : Int) := if_pos (.inl (by have := hK.out; omega))
                      rw [zt] at z
                      have z2 := (k1 (K + 8)).trans (NC.get (K + 8) (by omega))
                      have tl := tab_lt (n := K) (by omega)
                      have e1 : bits .xor .u32 (tabN K : Int) 249268274 = (tabN (K + 8) : Int) := by
                        rw [hK.out, tab_step4 m hlt]
                        exact u32_xor_nat _ 249268274 (by have := tl; rw [hK.out] at this; omega) (by decide)
                      have hs : 8 ≤ 128 := by decide
                      have ws := hid (way_step4 m)
                      rw [← hK.out] at ws
                      replace NC := hid NC
                      generalize wayG 8 m (K + 8) = old at *
                      generalize tabN (K + 8) = new at *
                      generalize tabN K = old0 at *
                      clear k1 zt tl hs
                      go_wp2_with fail
                      go_roundw
                      case rel => exact ⟨m + 1, K + 16, hid (by rw [hK.out]; omega), by omega, by go_num, ⟨_, TC.out.set (K + 8) _ (by rw [NC.out.size]; exact hk0), NC.out.set hk0 fun j _ => ws.out j⟩, A5.out.other _ (by simp; omega) _, Below.setCell (p := ⟨bt, _, none⟩) H5.out (by simp; omega) _⟩
                      case measure => simp [intOf]; omega
                    · obtain rfl : m = 16 := by omega
                      have hk0 : 256 ≤ K := by have := hK.out; omega
                      have C5 : Hid (∃ c, Blk wr bt c ∧ Nums c .u32 256 (wayG 4 0)) := hid ⟨c, TC, NC.congr fun j hj => by
                        unfold wayG
                        by_cases h : j % 8 = 0
                        · rw [if_pos (.inl (by omega)), if_pos (.inr (by omega))]
                        · rw [if_neg (by omega), if_neg (by omega)]⟩
                      clear TC NC hm
                      go_wp2_with fail
                      rw [rounds_succ]
                      go_wp2_with fail
                      refine (K5.out _).mono ?_
                      rintro e v5 ⟨rfl, rfl⟩
                      go_wp2_with fail
                      go_loopw [5] (fun s wx => ∃ m K : Nat, Hid (K = m * 8) ∧ m ≤ 32 ∧ s = .int .i64 (K : Int) ∧ (∃ c, Blk wx bt c ∧ Nums c .u32 256 (wayG 4 m)) ∧ Blk wx w.heap.size (Array.replicate 256 (.int .u32 0)) ∧ Below w.heap.size w wx) (fun s _ => 256 - (intOf s).toNat)
                      case atStart => exact ⟨0, 0, hid rfl, by omega, rfl, C5.out, A5.out, H5.out⟩
                      case round =>
                        clear C5 A5 H5
                        obtain ⟨m, K, hK, hm, rfl, ⟨c, TC, NC⟩, A6, H6⟩ := hrel
                        replace A6 := hid A6
                        replace H6 := hid H6
                        by_cases hlt : m < 32
                        · have hk0 : K + 4 < 256 := by have := hK.out; omega
                          obtain ⟨l1, k1, f1⟩ := TC
                          have TC := hid (Blk.mk l1 k1 f1)
                          have z := (k1 K).trans (NC.get K (by omega))
                          have zt : wayG 4 m K = (tabN K : Int) := if_pos (.inl (by have := hK.out; omega))
                          rw [zt] at z
                          have z2 := (k1 (K + 4)).trans (NC.get (K + 4) (by omega))
                          have tl := tab_lt (n := K) (by omega)
                          have e1 : bits .xor .u32 (tabN K : Int) 124634137 = (tabN (K + 4) : Int) := by
                            rw [hK.out, tab_step5 m hlt]
                            exact u32_xor_nat _ 124634137 (by have := tl; rw [hK.out] at this; omega) (by decide)
                          have hs : 4 ≤ 128 := by decide
                          have ws := hid (way_step5 m)
                          rw [← hK.out] at ws
                          replace NC := hid NC
                          generalize wayG 4 m (K + 4) = old at *
                          generalize tabN (K + 4) = new at *
                          generalize tabN K = old0 at *
                          clear k1 zt tl hs
                          go_wp2_with fail
                          go_roundw
                          case rel => exact ⟨m + 1, K + 8, hid (by rw [hK.out]; omega), by omega, by go_num, ⟨_, TC.out.set (K + 4) _ (by rw [NC.out.size]; exact hk0), NC.out.set hk0 fun j _ => ws.out j⟩, A6.out.other _ (by simp; omega) _, Below.setCell (p := ⟨bt, _, none⟩) H6.out (by simp; omega) _⟩
                          case measure => simp [intOf]; omega
                        · obtain rfl : m = 32 := by omega
                          have hk0 : 256 ≤ K := by have := hK.out; omega
                          have C6 : Hid (∃ c, Blk wr bt c ∧ Nums c .u32 256 (wayG 2 0)) := hid ⟨c, TC, NC.congr fun j hj => by
                            unfold wayG
                            by_cases h : j % 4 = 0
                            · rw [if_pos (.inl (by omega)), if_pos (.inr (by omega))]
                            · rw [if_neg (by omega), if_neg (by omega)]⟩
                          clear TC NC hm
                          go_wp2_with fail
                          rw [rounds_succ]
                          go_wp2_with fail
                          refine (K6.out _).mono ?_
                          rintro e v6 ⟨rfl, rfl⟩
                          go_wp2_with fail
                          go_loopw [5] (fun s wx => ∃ m K : Nat, Hid (K = m * 4) ∧ m ≤ 64 ∧ s = .int .i64 (K : Int) ∧ (∃ c, Blk wx bt c ∧ Nums c .u32 256 (wayG 2 m)) ∧ Blk wx w.heap.size (Array.replicate 256 (.int .u32 0)) ∧ Below w.heap.size w wx) (fun s _ => 256 - (intOf s).toNat)
                          case atStart => exact ⟨0, 0, hid rfl, by omega, rfl, C6.out, A6.out, H6.out⟩
                          case round =>
                            clear C6 A6 H6
                            obtain ⟨m, K, hK, hm, rfl, ⟨c, TC, NC⟩, A7, H7⟩ := hrel
                            replace A7 := hid A7
                            replace H7 := hid H7
                            by_cases hlt : m < 64
                            · have hk0 : K + 2 < 256 := by have := hK.out; omega
                              obtain ⟨l1, k1, f1⟩ := TC
                              have TC := hid (Blk.mk l1 k1 f1)
                              have z := (k1 K).trans (NC.get K (by omega))
                              have zt : wayG 2 m K = (tabN K : Int) := if_pos (.inl (by have := hK.out; omega))
                              rw [zt] at z
                              have z2 := (k1 (K + 2)).trans (NC.get (K + 2) (by omega))
                              have tl := tab_lt (n := K) (by omega)
                              have e1 : bits .xor .u32 (tabN K : Int) 3993919788 = (tabN (K + 2) : Int) := by
                                rw [hK.out, tab_step6 m hlt]
                                exact u32_xor_nat _ 3993919788 (by have := tl; rw [hK.out] at this; omega) (by decide)
                              have hs : 2 ≤ 128 := by decide
                              have ws := hid (way_step6 m)
                              rw [← hK.out] at ws
                              replace NC := hid NC
                              generalize wayG 2 m (K + 2) = old at *
                              generalize tabN (K + 2) = new at *
                              generalize tabN K = old0 at *
                              clear k1 zt tl hs
                              go_wp2_with fail
                              go_roundw
                              case rel => exact ⟨m + 1, K + 4, hid (by rw [hK.out]; omega), by omega, by go_num, ⟨_, TC.out.set (K + 2) _ (by rw [NC.out.size]; exact hk0), NC.out.set hk0 fun j _ => ws.out j⟩, A7.out.other _ (by simp; omega) _, Below.setCell (p := ⟨bt, _, none⟩) H7.out (by simp; omega) _⟩
                              case measure => simp [intOf]; omega
                            · obtain rfl : m = 64 := by omega
                              have hk0 : 256 ≤ K := by have := hK.out; omega
                              have C7 : Hid (∃ c, Blk wr bt c ∧ Nums c .u32 256 (wayG 1 0)) := hid ⟨c, TC, NC.congr fun j hj => by
                                unfold wayG
                                by_cases h : j % 2 = 0
                                · rw [if_pos (.inl (by omega)), if_pos (.inr (by omega))]
                                · rw [if_neg (by omega), if_neg (by omega)]⟩
                              clear TC NC hm
                              go_wp2_with fail
                              rw [rounds_succ]
                              go_wp2_with fail
                              refine (K7.out _).mono ?_
                              rintro e v7 ⟨rfl, rfl⟩
                              go_wp2_with fail
                              go_loopw [5] (fun s wx => ∃ m K : Nat, Hid (K = m * 2) ∧ m ≤ 128 ∧ s = .int .i64 (K : Int) ∧ (∃ c, Blk wx bt c ∧ Nums c .u32 256 (wayG 1 m)) ∧ Blk wx w.heap.size (Array.replicate 256 (.int .u32 0)) ∧ Below w.heap.size w wx) (fun s _ => 256 - (intOf s).toNat)
                              case atStart => exact ⟨0, 0, hid rfl, by omega, rfl, C7.out, A7.out, H7.out⟩
                              case round =>
                                clear C7 A7 H7
                                obtain ⟨m, K, hK, hm, rfl, ⟨c, TC, NC⟩, A8, H8⟩ := hrel
                                replace A8 := hid A8
                                replace H8 := hid H8
                                by_cases hlt : m < 128
                                · have hk0 : K + 1 < 256 := by have := hK.out; omega
                                  obtain ⟨l1, k1, f1⟩ := TC
                                  have TC := hid (Blk.mk l1 k1 f1)
                                  have z := (k1 K).trans (NC.get K (by omega))
                                  have zt : wayG 1 m K = (tabN K : Int) := if_pos (.inl (by have := hK.out; omega))
                                  rw [zt] at z
                                  have z2 := (k1 (K + 1)).trans (NC.get (K + 1) (by omega))
                                  have tl := tab_lt (n := K) (by omega)
                                  have e1 : bits .xor .u32 (tabN K : Int) 1996959894 = (tabN (K + 1) : Int) := by
                                    rw [hK.out, tab_step7 m hlt]
                                    exact u32_xor_nat _ 1996959894 (by have := tl; rw [hK.out] at this; omega) (by decide)
                                  have hs : 1 ≤ 128 := by decide
                                  have ws := hid (way_step7 m)
                                  rw [← hK.out] at ws
                                  replace NC := hid NC
                                  generalize wayG 1 m (K + 1) = old at *
                                  generalize tabN (K + 1) = new at *
                                  generalize tabN K = old0 at *
                                  clear k1 zt tl hs
                                  go_wp2_with fail
                                  go_roundw
                                  case rel => exact ⟨m + 1, K + 2, hid (by rw [hK.out]; omega), by omega, by go_num, ⟨_, TC.out.set (K + 1) _ (by rw [NC.out.size]; exact hk0), NC.out.set hk0 fun j _ => ws.out j⟩, A8.out.other _ (by simp; omega) _, Below.setCell (p := ⟨bt, _, none⟩) H8.out (by simp; omega) _⟩
                                  case measure => simp [intOf]; omega
                                · obtain rfl : m = 128 := by omega
                                  have hk0 : 256 ≤ K := by have := hK.out; omega
                                  have NT : Nums c .u32 256 (fun j => (tabN j : Int)) := NC.congr fun j hj => (if_pos (.inr (by omega))).symm
                                  have ec := nums_eq NT (tabC_nums tabN)
                                  subst ec
                                  have sz : (tabC tabN).size = 256 := NT.size
                                  have one := NT.one
                                  generalize hc : tabC tabN = c at *
                                  replace hc := hid hc
                                  replace TC := hid TC
                                  clear NC NT hm
                                  go_wp2_with fail
                                  rw [rounds_succ]
                                  go_wp2_with (first
                                    | (refine wpList_load_mid rfl 152 _ rfl bt 0 rfl c.toList _ TC.out.range Try.underlying152 rfl (by rw [tab_size]; simp [sz]) ?_)
                                    | (refine wpList_store_mid rfl 152 _ _ rfl w.heap.size 0 c rfl rfl (A8.out.there (by simp [sz])) (by rw [tab_size, sz]) one ?_))
                                  refine bodyPost_ret (v := .agg c) (results_blk rfl _ _ w.heap.size c _ rfl (A8.out.whole (by simp [sz])) Try.underlying152 rfl (by rw [tab_size, sz])) rfl ⟨by rw [hc.out], ?_⟩
                                  exact below_cells H8.out (Nat.le_refl _) 0 _
end Go.Proofs.Ytcklmemnjchdcaa

/-
  Package crc: the sum of all, one behind the other; the page's example.
-/


namespace Go.Proofs.Ytcklmemnjchdcaa
open Go.RowKit
set_option linter.unusedVariables false
set_option linter.unusedSimpArgs false
set_option maxRecDepth 100000

/-- The sum of all of m rows. -/
def allN (ns : Nat → Nat) (G : Nat → Nat → Nat) : Nat → Nat
  | 0 => 4294967295
  | i + 1 => alongN tabN (G i) (allN ns G i) (ns i)
theorem all_lt {ns : Nat → Nat} {G : Nat → Nat → Nat} : ∀ m, (∀ i, i < m → ∀ j, j < ns i → G i j < 256) → allN ns G m < 2 ^ 32
  | 0, _ => show 4294967295 < 2 ^ 32 by decide
  | m + 1, h => along_lt (fun j hj => tab_lt (by omega)) (all_lt m fun i hi => h i (by omega)) (ns m) (h m (by omega))

set_option maxHeartbeats 4000000 in
theorem of_any (pl : Option Addr) (m cap : Nat) (ps : Nat → Option Addr) (ns cs : Nat → Nat) (G : Nat → Nat → Nat) (h1 : m ≤ cap) (h2 : cap ≤ maxLen) (hg : ∀ i, i < m → ∀ j, j < ns i → G i j < 256) (hn : ∀ i, i < m → ns i ≤ cs i ∧ cs i ≤ maxLen)
    (w : World) (HL : RowP w pl 1 m (fun i => [.slice (ps i) (ns i) (cs i)])) (HR : ∀ i, i < m → RowP w (ps i) 1 (ns i) (fun j => [.int .u8 (G i j : Int)])) :
    Calls Try.prog 63 #[.slice pl m cap] w fun e w' => e = .returned (.int .u32 (4294967295 - (allN ns G m : Int))) ∧ Below w.heap.size w w' := by
  have AL := hid (fun i (hi : i ≤ m) => all_lt (ns := ns) (G := G) i fun k hk => hg k (by omega))
  have KA := hid (fun i (hi : i < m) bt w HT HR => along_any bt tabN (G i) (allN ns G i) (ns i) (cs i) (ps i) (fun j hj => tab_lt (by omega)) (AL.out i (by omega)) (hg i hi) (hn i hi).1 (hn i hi).2 w HT HR)
  unfold maxLen at h2
  replace HL := hid HL
  replace HR := hid HR
  have sg : IntKind.u32.signed = false := rfl
  clear hg hn
  go_enter Try.func63, Try.ntmps63
  go_wp2_with fail
  refine (table_any _).mono ?_
  rintro e w1 ⟨rfl, hb1⟩
  have NT := hid (tabC_nums tabN)
  generalize tabC tabN = c at *
  have sz : c.size = 256 := NT.out.size
  have hbA := Below.alloc hb1 hb1.size (.cells (Array.replicate 256 (.int .u32 0)) 152)
  have TA := Blk.new w1 (Array.replicate 256 (.int .u32 0)) 152
  have hb2 := below_cells hbA hb1.size 0 c.toList
  have TB := TA.whole (d := c) (by simp [sz])
  have HB := hid hb2
  have TC := hid (fun j hj => (TB.cell j).trans (NT.out.get j hj))
  replace HL := hid (HL.out.more hb2)
  replace HR := hid (fun i hi => (HR.out i hi).more hb2)
  replace TA := hid TA
  have one := NT.out.one
  clear hb2 hbA TB
  go_wp2_with (first
    | (refine Go.Great.wpList_runTo rfl (some 3) rfl _ _ (alloc_tab _ _ _ _ _ _) ?_)
    | (refine wpList_store_mid rfl 152 _ _ rfl w1.heap.size 0 c rfl rfl (TA.out.there (by simp [sz])) (by rw [tab_size, sz]) one ?_))
  generalize (w1.alloc _).setCells _ _ _ = w2 at *
  generalize w1.heap.size = bt at *
  clear hb1 TA sz one NT
  go_loop [4, 10] (fun sm i => ∃ k : Nat, k ≤ m ∧ i = .int .i64 (k : Int) ∧ sm = .int .u32 (allN ns G k : Int)) (fun _ i => m - (intOf i).toNat)
  case atStart => exact ⟨0, by omega, rfl, rfl⟩
  case round =>
    obtain ⟨k, hk, rfl, rfl⟩ := hrel
    by_cases hlt : k < m
    · obtain ⟨b, o, rfl, R⟩ := HL.out.row (by omega)
      have z := R.at0 hlt (v := .slice (ps k) (ns k) (cs k)) rfl
      rw [Nat.mul_one] at z
      have e : allN ns G (k + 1) = alongN tabN (G k) (allN ns G k) (ns k) := rfl
      have K := hid (KA.out k hlt)
      rw [← e] at K
      replace e := hid e
      clear R
      go_wp2_with fail
      refine (K.out _ _ TC.out (HR.out k hlt)).mono ?_
      rintro e w1 ⟨rfl, rfl⟩
      go_wp2_with fail
      go_round
      case rel => exact ⟨k + 1, by omega, by go_num, rfl⟩
      case measure => simp [intOf]; omega
    · obtain rfl : k = m := by omega
      have ha := AL.out k (Nat.le_refl _)
      have nm := not_max ha
      generalize hr : allN ns G k = r at *
      replace hr := hid hr
      have c1 : 0 ≤ (r : Int) ∧ (r : Int) ≤ 4294967295 := by omega
      clear ha
      go_wp2
      go_ret
      exact ⟨by rw [hr.out]; rfl, HB.out⟩

end Go.Proofs.Ytcklmemnjchdcaa

/-
  Bit by bit, and octet by octet by the table: one sum.
-/

namespace Go.Proofs.Ytcklmemnjchdcaa
open Go.RowKit
set_option linter.unusedVariables false
set_option linter.unusedSimpArgs false

theorem xor_swap (a b p : Nat) : (a ^^^ p) ^^^ (b ^^^ p) = a ^^^ b := by
  rw [Nat.xor_assoc, Nat.xor_comm b p, ← Nat.xor_assoc p p b, Nat.xor_self, Nat.zero_xor]
theorem xor_half (x y : Nat) : (x ^^^ y) / 2 = x / 2 ^^^ y / 2 := by
  have := Nat.shiftRight_xor_distrib (a := x) (b := y) (i := 1)
  simpa [Nat.shiftRight_eq_div_pow] using this
theorem xor_par (x y : Nat) : (x ^^^ y) % 2 = (x % 2) ^^^ (y % 2) := by
  have := Nat.xor_mod_two_pow (a := x) (b := y) (n := 1)
  simpa using this
theorem half_xor (x y : Nat) : halfN (x ^^^ y) = halfN x ^^^ halfN y := by
  unfold halfN
  rw [xor_half, xor_par]
  generalize 3988292384 = p
  rcases Nat.mod_two_eq_zero_or_one x with hx | hx <;> rcases Nat.mod_two_eq_zero_or_one y with hy | hy <;> rw [hx, hy]
  · rfl
  · rw [if_pos (by decide), if_neg (by decide), if_pos rfl, Nat.xor_assoc]
  · rw [if_pos (by decide), if_pos rfl, if_neg (by decide), Nat.xor_assoc, Nat.xor_comm (y / 2) p, ← Nat.xor_assoc]
  · rw [if_neg (by decide), if_pos rfl, if_pos rfl, xor_swap]
theorem tab_xor (x y : Nat) : tabN (x ^^^ y) = tabN x ^^^ tabN y := by unfold tabN; simp only [half_xor]
theorem half_even (n : Nat) : halfN (2 * n) = n := by unfold halfN; rw [if_neg (by omega)]; omega
theorem tab_high (h : Nat) : tabN (256 * h) = h := by
  unfold tabN
  rw [show 256 * h = 2 * (2 * (2 * (2 * (2 * (2 * (2 * (2 * h))))))) by omega]
  simp only [half_even]
theorem low_high (s : Nat) : s = s % 256 ^^^ 256 * (s / 256) := by
  have e1 : 256 * (s / 256) = (s >>> 8) <<< 8 := by rw [Nat.shiftLeft_eq, Nat.shiftRight_eq_div_pow]; omega
  rw [e1, show s % 256 = s % 2 ^ 8 from rfl]
  apply Nat.eq_of_testBit_eq
  intro i
  rw [Nat.testBit_xor, Nat.testBit_mod_two_pow, Nat.testBit_shiftLeft, Nat.testBit_shiftRight]
  by_cases h : i < 8
  · have : ¬ 8 ≤ i := by omega
    simp [h, this]
  · have h2 : 8 ≤ i := by omega
    simp [h, h2]
theorem tab_octet (s b : Nat) : tabN (s ^^^ b) = tabN (s % 256 ^^^ b) ^^^ s / 256 := by
  have e : s ^^^ b = (s % 256 ^^^ b) ^^^ 256 * (s / 256) := by
    conv => lhs; rw [low_high s]
    rw [Nat.xor_assoc, Nat.xor_comm _ b, ← Nat.xor_assoc]
  rw [e, tab_xor, tab_high]

/-- A sum goes on, bit by bit. -/
def bitsN (g : Nat → Nat) (s : Nat) : Nat → Nat
  | 0 => s
  | k + 1 => tabN (bitsN g s k ^^^ g k)
theorem bits_along (g : Nat → Nat) (s : Nat) : ∀ k, alongN tabN g s k = bitsN g s k
  | 0 => rfl
  | k + 1 => by
    show tabN ((alongN tabN g s k) % 256 ^^^ g k) ^^^ (alongN tabN g s k) / 256 = tabN (bitsN g s k ^^^ g k)
    rw [bits_along g s k, ← tab_octet]
theorem bits_lt {g : Nat → Nat} {s : Nat} (hs : s < 2 ^ 32) : ∀ k, (∀ i, i < k → g i < 256) → bitsN g s k < 2 ^ 32
  | 0, _ => hs
  | k + 1, hg => tab_lt (Nat.xor_lt_two_pow (bits_lt hs k fun i hi => hg i (by omega)) (by have := hg k (by omega); omega))
/-- Some bits of an octet. -/
def halves (n : Nat) : Nat → Nat
  | 0 => n
  | k + 1 => halfN (halves n k)
end Go.Proofs.Ytcklmemnjchdcaa

/-
  The document's own: two rows of octets as one.
-/

namespace Go.Proofs.Ytcklmemnjchdcaa
open Go.RowKit
set_option linter.unusedVariables false
set_option linter.unusedSimpArgs false

end Go.Proofs.Ytcklmemnjchdcaa

/-
  The document's own sum, bit by bit.
-/



namespace Go.Proofs.Ytcklmemnjchdcaa
open Go.RowKit
set_option linter.unusedVariables false
set_option linter.unusedSimpArgs false

/-- The sum of octets. -/
def sumN (l : List UInt8) : Nat := bitsN (byteAt l) 4294967295 l.length
theorem sumN_lt (l : List UInt8) : sumN l < 2 ^ 32 := bits_lt (by decide) _ fun i _ => byteAt_lt l i
theorem row_of_octs {w : World} {a : Option Addr} {l : List UInt8} (h : Octs w a l) : RowP w a 1 l.length (fun i => [.int .u8 (byteAt l i : Int)]) := by
  by_cases h0 : l = []
  · exact .inl (by rw [h0]; rfl)
  · obtain ⟨b, o, rfl, lt, hc⟩ := h.row h0
    refine .inr ⟨b, o, rfl, lt, fun i hi j v hv => ?_⟩
    have hj : j = 0 := by
      rcases j with _ | j
      · rfl
      · simp at hv
    subst hj
    simp at hv
    subst hv
    rw [Nat.mul_one, Nat.add_zero, hc i hi, byteAt_get l i hi]

end Go.Proofs.Ytcklmemnjchdcaa

/-
  Package frame: a sector's octets, and what octets have.
-/



namespace Go.Proofs.Ytcklmemnjchdcaa
open Go.RowKit
set_option linter.unusedVariables false
set_option linter.unusedSimpArgs false

/-- A stamp. -/
structure Stp where
  e : Int
  s : Int
  a : Int
def Stp.ok (t : Stp) : Prop := -9223372036854775808 ≤ t.e ∧ t.e ≤ 9223372036854775807 ∧ -9223372036854775808 ≤ t.s ∧ t.s ≤ 9223372036854775807 ∧ -9223372036854775808 ≤ t.a ∧ t.a ≤ 9223372036854775807
abbrev sval (t : Stp) : Value := .agg #[.int .i64 t.e, .int .i64 t.s, .int .i64 t.a]
abbrev scells (t : Stp) : Array Value := #[.int .i64 t.e, .int .i64 t.s, .int .i64 t.a]
/-- May a sector of that kind and stamp be? -/
def stFits (kind : Int) (t : Stp) : Prop := 0 ≤ kind ∧ kind ≤ 255 ∧ 0 ≤ t.e ∧ t.e ≤ 4294967295 ∧ 0 ≤ t.s ∧ t.s ≤ 4294967295 ∧ 0 ≤ t.a ∧ t.a ≤ 65535
instance (kind : Int) (t : Stp) : Decidable (stFits kind t) := by unfold stFits; infer_instance
/-- The sum of octets, as a sector has it. -/
def crcN (l : List UInt8) : Nat := 4294967295 - sumN l
theorem crcN_int (l : List UInt8) : (crcN l : Int) = 4294967295 - (sumN l : Int) := by have := sumN_lt l; unfold crcN; omega
theorem crcN_lt (l : List UInt8) : crcN l < 4294967296 := by unfold crcN; omega
/-- The fourteen octets ahead of the text. -/
def headB (kind : Int) (t : Stp) (n : Nat) : List UInt8 := [67, 82] ++ leB kind.toNat 1 ++ leB t.e.toNat 4 ++ leB t.s.toNat 4 ++ leB t.a.toNat 2 ++ leB n 1
theorem headB_length (kind : Int) (t : Stp) (n : Nat) : (headB kind t n).length = 14 := by simp [headB, leB_length]
def bodyB (kind : Int) (t : Stp) (l : List UInt8) : List UInt8 := headB kind t l.length ++ l ++ List.replicate (238 - l.length) 0
theorem bodyB_length (kind : Int) (t : Stp) (l : List UInt8) (h : l.length ≤ 238) : (bodyB kind t l).length = 252 := by
  simp only [bodyB, List.length_append, headB_length, List.length_replicate]; omega
def sealB (kind : Int) (t : Stp) (l : List UInt8) : List UInt8 := bodyB kind t l ++ leB (crcN (bodyB kind t l)) 4
theorem sealB_length (kind : Int) (t : Stp) (l : List UInt8) (h : l.length ≤ 238) : (sealB kind t l).length = 256 := by
  simp only [sealB, List.length_append, bodyB_length kind t l h, leB_length]
/-- Seal's error. -/
def sealC (kind : Int) (t : Stp) (n : Nat) : Int := if stFits kind t then (if n ≤ 238 then 0 else 5) else 4
/-- Seal's octets. -/
def sealL (kind : Int) (t : Stp) (l : List UInt8) : List UInt8 := if stFits kind t ∧ l.length ≤ 238 then sealB kind t l else []

/-- The sum of one row. -/
theorem crc_one (l : List UInt8) (a : Option Addr) (cap b : Nat) (h1 : l.length ≤ cap) (h2 : cap ≤ maxLen) (w : World) (O : Octs w a l) (hb : b < w.heap.size) (hc : w.cell? ⟨b, 0, none⟩ = some (.slice a l.length cap)) :
    Calls Try.prog 63 #[.slice (some ⟨b, 0, none⟩) 1 1] w fun e w' => e = .returned (.int .u32 (crcN l : Int)) ∧ Below w.heap.size w w' := by
  have K := of_any (some ⟨b, 0, none⟩) 1 1 (fun _ => a) (fun _ => l.length) (fun _ => cap) (fun _ => byteAt l) (Nat.le_refl _) (by decide) (fun j _ k _ => byteAt_lt _ _) (fun j _ => ⟨h1, h2⟩) w
    (.inr ⟨b, 0, rfl, hb, fun i hi j v hv => by
      have : i = 0 := by omega
      subst this
      rcases j with _ | j
      · simp at hv; subst hv; simpa using hc
      · simp at hv⟩) (fun i hi => row_of_octs O)
  refine K.mono ?_
  rintro e w' ⟨rfl, hb'⟩
  refine ⟨?_, hb'⟩
  rw [crcN_int]
  congr 2
  show 4294967295 - ((alongN tabN (byteAt l) 4294967295 l.length : Nat) : Int) = _
  rw [show alongN tabN (byteAt l) 4294967295 l.length = sumN l from bits_along _ _ _]

/-- Are the sum and the length right? -/
def soundB (l : List UInt8) : Bool := decide (l.length = 256) && decide (numOf (l.drop 252) = crcN (l.take 252))
/-- How long the text is. -/
def txtN (l : List UInt8) : Nat := numOf ((l.drop 13).take 1)
/-- Is it a sector? -/
def goodB (l : List UInt8) : Bool := soundB l && (decide (l.take 2 = [67, 82]) && (decide (txtN l ≤ 238) && ((l.take 252).drop (14 + txtN l)).all (· == 0)))
def openK (l : List UInt8) : Int := if goodB l then numOf ((l.drop 2).take 1) else 0
def openS (l : List UInt8) : Stp := if goodB l then ⟨numOf ((l.drop 3).take 4), numOf ((l.drop 7).take 4), numOf ((l.drop 11).take 2)⟩ else ⟨0, 0, 0⟩
def openT (l : List UInt8) : List UInt8 := if goodB l then (l.drop 14).take (txtN l) else []
def openE (l : List UInt8) : Int := if goodB l then 0 else 16
theorem txtN_lt (l : List UInt8) : txtN l < 256 := by
  have h := numOf_lt ((l.drop 13).take 1)
  have hp : (256 : Nat) ^ ((l.drop 13).take 1).length ≤ 256 ^ 1 := Nat.pow_le_pow_right (by omega) (by rw [List.length_take]; omega)
  unfold txtN
  omega

/-- Octets of a row, at a place: parts of an appended list. -/
theorem drop_pre {l m : List UInt8} {n : Nat} (h : l.length = n) : (l ++ m).drop n = m := by subst h; simp
theorem take_pre {l m : List UInt8} {n : Nat} (h : l.length = n) : (l ++ m).take n = l := by subst h; simp
/-- What was sealed is a sector, with what it has. -/
theorem seal_good (kind : Int) (t : Stp) (l : List UInt8) (hf : stFits kind t) (hl : l.length ≤ 238) :
    soundB (sealB kind t l) = true ∧ goodB (sealB kind t l) = true ∧ openK (sealB kind t l) = kind ∧ openS (sealB kind t l) = t ∧ openT (sealB kind t l) = l ∧ openE (sealB kind t l) = 0 := by
  have L := bodyB_length kind t l hl
  obtain ⟨k0, k1, e0, e1, s0, s1, a0, a1⟩ := hf
  have h252 : (sealB kind t l).drop 252 = leB (crcN (bodyB kind t l)) 4 := drop_pre L
  have t252 : (sealB kind t l).take 252 = bodyB kind t l := take_pre L
  have cl := crcN_lt (bodyB kind t l)
  have snd : soundB (sealB kind t l) = true := by
    unfold soundB
    rw [sealB_length kind t l hl, h252, t252, numOf_leB, Nat.mod_eq_of_lt (by omega)]
    simp
  have q0 : sealB kind t l = [67, 82] ++ (leB kind.toNat 1 ++ (leB t.e.toNat 4 ++ (leB t.s.toNat 4 ++ (leB t.a.toNat 2 ++ (leB l.length 1 ++ (l ++ (List.replicate (238 - l.length) 0 ++ leB (crcN (bodyB kind t l)) 4))))))) := by
    simp only [sealB, bodyB, headB, List.append_assoc]
  have d2 : (sealB kind t l).drop 2 = leB kind.toNat 1 ++ (leB t.e.toNat 4 ++ (leB t.s.toNat 4 ++ (leB t.a.toNat 2 ++ (leB l.length 1 ++ (l ++ (List.replicate (238 - l.length) 0 ++ leB (crcN (bodyB kind t l)) 4)))))) := by rw [q0]; exact drop_pre rfl
  have d3 : (sealB kind t l).drop 3 = leB t.e.toNat 4 ++ (leB t.s.toNat 4 ++ (leB t.a.toNat 2 ++ (leB l.length 1 ++ (l ++ (List.replicate (238 - l.length) 0 ++ leB (crcN (bodyB kind t l)) 4))))) := by
    rw [show 3 = 2 + 1 from rfl, ← List.drop_drop, d2]; exact drop_pre (leB_length _ _)
  have d7 : (sealB kind t l).drop 7 = leB t.s.toNat 4 ++ (leB t.a.toNat 2 ++ (leB l.length 1 ++ (l ++ (List.replicate (238 - l.length) 0 ++ leB (crcN (bodyB kind t l)) 4)))) := by
    rw [show 7 = 3 + 4 from rfl, ← List.drop_drop, d3]; exact drop_pre (leB_length _ _)
  have d11 : (sealB kind t l).drop 11 = leB t.a.toNat 2 ++ (leB l.length 1 ++ (l ++ (List.replicate (238 - l.length) 0 ++ leB (crcN (bodyB kind t l)) 4))) := by
    rw [show 11 = 7 + 4 from rfl, ← List.drop_drop, d7]; exact drop_pre (leB_length _ _)
  have d13 : (sealB kind t l).drop 13 = leB l.length 1 ++ (l ++ (List.replicate (238 - l.length) 0 ++ leB (crcN (bodyB kind t l)) 4)) := by
    rw [show 13 = 11 + 2 from rfl, ← List.drop_drop, d11]; exact drop_pre (leB_length _ _)
  have d14 : (sealB kind t l).drop 14 = l ++ (List.replicate (238 - l.length) 0 ++ leB (crcN (bodyB kind t l)) 4) := by
    rw [show 14 = 13 + 1 from rfl, ← List.drop_drop, d13]; exact drop_pre (leB_length _ _)
  have tn : txtN (sealB kind t l) = l.length := by
    unfold txtN
    rw [d13, take_pre (leB_length _ _), numOf_leB]
    exact Nat.mod_eq_of_lt (by omega)
  have z : ((sealB kind t l).take 252).drop (14 + txtN (sealB kind t l)) = List.replicate (238 - l.length) 0 := by
    rw [t252, tn]
    unfold bodyB
    refine drop_pre ?_
    rw [List.length_append, headB_length]
  have gd : goodB (sealB kind t l) = true := by
    unfold goodB
    rw [snd, z, tn, show (sealB kind t l).take 2 = [67, 82] by rw [q0]; exact take_pre rfl]
    simp [hl]
  refine ⟨snd, gd, ?_, ?_, ?_, ?_⟩
  · unfold openK
    rw [gd, if_pos rfl, d2, take_pre (leB_length _ _), numOf_leB, Nat.mod_eq_of_lt (by omega)]
    omega
  · unfold openS
    rw [gd, if_pos rfl, d3, take_pre (leB_length _ _), d7, take_pre (leB_length _ _), d11, take_pre (leB_length _ _), numOf_leB, numOf_leB, numOf_leB, Nat.mod_eq_of_lt (by omega), Nat.mod_eq_of_lt (by omega), Nat.mod_eq_of_lt (by omega)]
    cases t
    simp only at e0 s0 a0 ⊢
    congr 1 <;> omega
  · unfold openT
    rw [gd, if_pos rfl, tn, d14, take_pre rfl]
  · unfold openE
    rw [gd, if_pos rfl]
end Go.Proofs.Ytcklmemnjchdcaa

/-
  The document's own points as octets: a point's octets.
-/




namespace Go.Proofs.Ytcklmemnjchdcaa
open Go.RowKit
set_option linter.unusedVariables false
set_option linter.unusedSimpArgs false

theorem own_base {w : World} {base base' : Nat} {e : TypeId} {size : Nat} {v : Value} {n : Nat} {xs : List Value} (h : w.ownsRow base e size v n xs) (hb : base' ≤ base) : w.ownsRow base' e size v n xs := by
  refine ⟨h.1, h.2.imp id ?_⟩
  rintro ⟨g, cap, cur, hv, hg, rest⟩
  exact ⟨g, cap, cur, hv, Nat.le_trans hb hg, rest⟩
end Go.Proofs.Ytcklmemnjchdcaa

/-
  Package frame: Sound.
-/




namespace Go.Proofs.Ytcklmemnjchdcaa
open Go.RowKit
set_option linter.unusedVariables false
set_option linter.unusedSimpArgs false

/-- A block made ahead of a step of an In, or between two. -/
theorem blk_between {w1 w2 : World} {q : Nat} {c : Array Value} {t : TypeId} (S : Sole (fun k => k = q) (w1.alloc (.cells c t)) w2) (hq : q < w1.heap.size) : Blk w2 w1.heap.size c :=
  (Blk.new w1 c t).sole S fun h => by have h' : w1.heap.size = q := h; omega
theorem blk_ahead {w w1 w2 : World} {q n : Nat} {c : Array Value} {t : TypeId} (hb : Below n (w.alloc (.cells c t)).drew w1) (hn : w.heap.size < n) (hq : w.heap.size < q) (S : Sole (fun k => k = q) w1 w2) : Blk w2 w.heap.size c :=
  ((Blk.new w c t).drew.below hb hn).sole S fun h => by have h' : w.heap.size = q := h; omega
theorem blk_one {w : World} {b : Nat} {v : Value} (B : Blk w b #[v]) : w.cell? ⟨b, 0, none⟩ = some v := B.cell 0

set_option maxRecDepth 100000 in
set_option maxHeartbeats 8000000 in
theorem sound_any (l : List UInt8) (a : Option Addr) (cap : Nat) (h1 : l.length ≤ cap) (h2 : cap ≤ maxLen) (w : World) (O : Octs w a l) :
    Calls Try.prog 88 #[.slice a l.length cap] w fun e w' => e = .returned (.bool (soundB l)) ∧ Below w.heap.size w w' := by
  by_cases hlen : l.length = 256
  · obtain ⟨b, o, rfl, hb, hc⟩ := O.row (by intro h; rw [h] at hlen; cases hlen)
    rw [hlen] at h1 ⊢
    have O1 := O.drop 252
    have O2 := O.take 252
    have l1 : (l.drop 252).length = 4 := by simp [hlen]
    have l2 : (l.take 252).length = 252 := by simp [hlen]
    have KO := hid (fun (wx : World) (hb : Below w.heap.size w wx) => rs_open (l.drop 252) (some ⟨b, o + 252, none⟩) (cap - 252) wx (O1.more hb) (by omega))
    have KC := hid (fun (wx : World) (hb : Below w.heap.size w wx) (g : Nat) => crc_one (l.take 252) (some ⟨b, o, none⟩) cap g (by omega) h2 wx (O2.more hb))
    rw [l1] at KO
    rw [l2] at KC
    have hs : Hid (soundB l = ((numOf ((l.drop 252).take 4) : Int) == (crcN (l.take 252) : Int))) := hid (by
      rw [List.take_of_length_le (l := l.drop 252) (i := 4) (by omega)]
      unfold soundB
      rw [hlen]
      by_cases h : numOf (l.drop 252) = crcN (l.take 252)
      · rw [h]; simp
      · have h' : ¬ (numOf (l.drop 252) : Int) = (crcN (l.take 252) : Int) := by omega
        simp [h, h'])
    unfold maxLen at h2
    have e1 : (252 : Int) ≤ cap := by omega
    clear O hc
    go_enter Try.func88, Try.ntmps88
    go_wp2_with fail
    have cl := crcN_lt (l.take 252)
    have cl0 : 0 ≤ (crcN (l.take 252) : Int) ∧ (crcN (l.take 252) : Int) ≤ 4294967295 := by omega
    have cw : IntKind.i64.wrap (crcN (l.take 252) : Int) = (crcN (l.take 252) : Int) := IntWalk.i64_in _ (by omega)
    clear cl
    go_region_with (first
      | ((with_reducible refine (KO.out _ (by first | exact (Below.refl _ _).drew | exact ((Below.refl _ _).alloc (Nat.le_refl _) _).drew)).mono ?_); rintro e w1 ⟨q, rfl, hq, R1, hb1⟩; have hqw : w.heap.size ≤ q := (by have h := hq; simp at h; omega); have hq1 := R1.1.lt; have B1 : Below w.heap.size w w1 := (by first | exact ((Below.refl w.heap.size w).drew).trans (hb1.mono (Nat.le_refl _)) | exact (((Below.refl w.heap.size w).alloc (Nat.le_refl _) _).drew).trans (hb1.mono (by simp))))
      | ((with_reducible refine (rs_nums 4 4 rfl q (l.drop 252) _ (by first | exact R1 | exact R1.more ((Below.refl _ _).alloc (Nat.le_refl _) _)) (by omega)).mono ?_); rintro e w2 ⟨rfl, R2, S2⟩; have B2 : Below w.heap.size w w2 := (by first | exact in_below B1 hqw S2 | exact in_below (B1.alloc B1.size _) hqw S2))
      | ((first | (have C2 := blk_between S2 hq1; have c1 := C2.lt; have c2 := blk_one C2) | (have C2 := blk_ahead hb1 (by simp) (by have h := hq; simp at h; omega) S2; have c1 := C2.lt; have c2 := blk_one C2) | skip); (with_reducible refine (KC.out _ (by first | exact B2 | exact B2.alloc B2.size _) _ (by first | assumption | simp) (by first | assumption | simp)).mono ?_); rintro e w3 ⟨rfl, hb3⟩; have B3 : Below w.heap.size w w3 := (by first | exact below2 B2 hb3 B2.size | exact below2 (B2.alloc B2.size _) hb3 (by have h := B2.size; simp; omega))))
    all_goals
      have E := hid B3
      clear B3 B2 hb3
      go_wp2_with fail
      go_ret
      exact ⟨by rw [hs.out]; first | rfl | (show Ending.returned (.bool ((numOf ((l.drop 252).take 4) : Int) == IntKind.i64.wrap (crcN (l.take 252) : Int))) = _; rw [cw]), E.out⟩
  · have hne : ((l.length : Int) != 256) = true := by simp; omega
    have hs : Hid (soundB l = false) := hid (by unfold soundB; simp [hlen])
    have hl' : (l.length : Int) ≤ 9223372036854775807 := by unfold maxLen at h2; omega
    clear hlen h1 h2 O
    go_enter Try.func88, Try.ntmps88
    go_wp2
    go_ret
    exact ⟨by rw [hs.out]; rfl, Below.refl _ _⟩
end Go.Proofs.Ytcklmemnjchdcaa

/-
  Package frame: Open.
-/


namespace Go.Proofs.Ytcklmemnjchdcaa
open Go.RowKit
set_option linter.unusedVariables false
set_option linter.unusedSimpArgs false

/-- A slice of octets, as it is handed out. -/
def OctV (w : World) (v : Value) (l : List UInt8) : Prop := ∃ a cap, v = .slice a l.length cap ∧ Octs w a l ∧ l.length ≤ cap ∧ (∀ x, a = some x → x.spot = none)
theorem OctV.more {w w' : World} {v : Value} {l : List UInt8} (h : OctV w v l) (hb : Below w.heap.size w w') : OctV w' v l := by
  obtain ⟨a, cap, h1, h2, h3, h4⟩ := h
  exact ⟨a, cap, h1, h2.more hb, h3, h4⟩
theorem OctV.conv {w : World} {v : Value} {l : List UInt8} (h : OctV w v l) : (convert 51 9 v).run Try.prog w = .ok (.string (textOf l)) w := by
  obtain ⟨a, cap, rfl, O, _, _⟩ := h
  exact conv_octs O cap

def OpenPost (l : List UInt8) (w : World) (e : Ending) (w' : World) : Prop :=
  ∃ v, e = .returned (.tuple #[.int .i64 (openK l), sval (openS l), v, .int .i64 (openE l)]) ∧ OctV w' v (openT l) ∧ Below w.heap.size w w'

theorem open_bad {l : List UInt8} (h : goodB l = false) : openK l = 0 ∧ openS l = ⟨0, 0, 0⟩ ∧ openT l = [] ∧ openE l = 16 := by
  simp [openK, openS, openT, openE, h]
theorem open_good {l : List UInt8} (h : goodB l = true) : openK l = numOf ((l.drop 2).take 1) ∧ openS l = ⟨numOf ((l.drop 3).take 4), numOf ((l.drop 7).take 4), numOf ((l.drop 11).take 2)⟩ ∧ openT l = (l.drop 14).take (txtN l) ∧ openE l = 0 := by
  simp [openK, openS, openT, openE, h]
theorem OctV.none (w : World) : OctV w (.slice Option.none 0 0) [] := ⟨Option.none, 0, rfl, Octs.nil _ _, Nat.le_refl _, fun x h => by cases h⟩

theorem bytes_of_str_at (w : World) (s : ByteArray) : ∃ bc w', (convert 9 51 (.string s)).run Try.prog w = .ok (.slice (some ⟨w.heap.size, 0, none⟩) s.size bc) w' ∧ s.size ≤ bc ∧ Octs w' (some ⟨w.heap.size, 0, none⟩) s.data.toList ∧ Below w.heap.size w w' := by
  have h := run_bytes_of_string (P := Try.prog) w 9 51 5 s Try.underlying9 Try.underlying51 Try.underlying5
  refine ⟨_, _, h, grownCap_ge _ _ _ _, ?_, (Below.refl w.heap.size w).drew.alloc (Nat.le_refl _) _⟩
  refine .inr ⟨w.heap.size, 0, rfl, by simp, fun i hi => ?_⟩
  have hi' : i < s.data.size := by simpa using hi
  rw [Nat.zero_add, cell_of_row _ w.heap.size i _ _ _ (heap_alloc_new w.drew _), bytesRow_at s _ i hi']
  simp
theorem part_take (l : List UInt8) (k m : Nat) (h : k + m ≤ 252) : ((l.take 252).drop k).take m = (l.drop k).take m := by
  rw [List.drop_take, List.take_take, Nat.min_eq_left (by omega)]
theorem txt_take (l : List UInt8) : txtN l = numOf (((l.take 252).drop 13).take 1) := by
  unfold txtN
  rw [List.drop_take, List.take_take]
  rfl
/-- What is asked behind the sum. -/
theorem frame_ways (l : List UInt8) (hlen : l.length = 256) (hs : soundB l = true) :
    goodB l = (((l.take 252).take 2 == [67, 82]) && (decide (txtN l ≤ 238) && ((l.take 252).drop (14 + txtN l)).all (· == 0))) := by
  unfold goodB
  rw [hs, List.take_take, Bool.true_and]
  congr 1
  by_cases h : l.take 2 = [67, 82] <;> simp [h]

set_option maxRecDepth 100000 in
set_option maxHeartbeats 8000000 in
theorem fopen_any (l : List UInt8) (a : Option Addr) (cap : Nat) (h1 : l.length ≤ cap) (h2 : cap ≤ maxLen) (w : World) (O : Octs w a l) :
    Calls Try.prog 79 #[.slice a l.length cap] w (OpenPost l w) := by
  obtain ⟨W0, hW0⟩ : ∃ W0, w.alloc (.cells #[.int .i64 0, .int .i64 0, .int .i64 0] 116) = W0 := ⟨_, rfl⟩
  have hb0 : Below w.heap.size w W0 := by rw [← hW0]; exact (Below.refl _ _).alloc (Nat.le_refl _) _
  have BX : Blk W0 w.heap.size #[.int .i64 0, .int .i64 0, .int .i64 0] := by rw [← hW0]; exact Blk.new w _ _
  have KS := sound_any l a cap h1 h2 W0 (O.more hb0)
  have hl' : (l.length : Int) ≤ 9223372036854775807 := by unfold maxLen at h2; omega
  cases hs : soundB l with
  | false =>
    have hg : goodB l = false := by unfold goodB; rw [hs]; rfl
    obtain ⟨q1, q2, q3, q4⟩ := open_bad hg
    rw [hs] at KS
    have E : Hid (∀ w', Below w.heap.size w w' → OpenPost l w (.returned (.tuple #[.int .i64 0, .agg #[.int .i64 0, .int .i64 0, .int .i64 0], .slice none 0 0, .int .i64 16])) w') := hid (fun w' hb =>
      ⟨_, by rw [q1, q2, q4], by rw [q3]; exact OctV.none _, hb⟩)
    replace KS := hid KS
    have HBX := hid BX
    replace hb0 := hid hb0
    clear O h1 h2 hs hg q1 q2 q3 q4 BX
    go_enter Try.func79, Try.ntmps79
    go_wp2_with fail
    refine KS.out.mono ?_
    rintro e w1 ⟨rfl, hb1⟩
    have hb := hid (below2 hb0.out hb1 hb0.out.size)
    have B1 := HBX.out.more hb1
    clear hb1 hW0
    generalize w.heap.size = g at *
    have HB1 := hid B1
    obtain ⟨lx, kx, fx⟩ := B1
    go_wp2_with fail
    have B2 := Blk.fill [.int .i64 0, .int .i64 0, .int .i64 0] 0 HB1.out (by simp)
    have hb2 := hid (below_fill (b := g) (Nat.le_refl g) [.int .i64 0, .int .i64 0, .int .i64 0] 0 hb.out)
    show bodyPost _ _ _ _ _ (setAll w1 g 0 [.int .i64 0, .int .i64 0, .int .i64 0])
    generalize setAll w1 g 0 _ = w7 at *
    obtain ⟨l7, k7, f7⟩ := B2
    refine bodyPost_ret (v := .tuple #[.int .i64 0, .agg #[.int .i64 0, .int .i64 0, .int .i64 0], .slice none 0 0, .int .i64 16]) (by simp [results, Try.results79, go_sem, k7, fillC]) rfl ?_
    exact E.out w7 hb2.out
  | true =>
    have hlen : l.length = 256 := by
      unfold soundB at hs
      simp at hs
      exact hs.1
    obtain ⟨b, o, rfl, hb, hc⟩ := O.row (by intro h; rw [h] at hlen; cases hlen)
    have O2 := (O.take 252).more hb0
    have l2 : (l.take 252).length = 252 := by simp [hlen]
    have F := frame_ways l hlen hs
    obtain ⟨n, hn, hn256⟩ : ∃ n, n = txtN l ∧ n < 256 := ⟨_, rfl, txtN_lt l⟩
    rw [← hn] at F
    rw [hs] at KS
    have KO := hid (fun (wx : World) (hb : Below W0.heap.size W0 wx) => rs_open (l.take 252) (some ⟨b, o, none⟩) cap wx (O2.more hb) (by omega))
    rw [l2] at KO
    replace KS := hid KS
    have HBX := hid BX
    have hsz0 : W0.heap.size = w.heap.size + 1 := by rw [← hW0]; simp
    rw [hlen] at h1 KS ⊢
    have e1 : (252 : Int) ≤ cap := by omega
    unfold maxLen at h2
    have EB : Hid (∀ w', goodB l = false → Below w.heap.size w w' → OpenPost l w (.returned (.tuple #[.int .i64 0, .agg #[.int .i64 0, .int .i64 0, .int .i64 0], .slice none 0 0, .int .i64 16])) w') := hid (fun w' hg hb => by
      obtain ⟨q1, q2, q3, q4⟩ := open_bad hg
      exact ⟨.slice Option.none 0 0, by rw [q1, q2, q4], by rw [q3]; exact OctV.none _, hb⟩)
    have EG : Hid (∀ (v : Value) (w' : World), goodB l = true → OctV w' v ((l.drop 14).take (txtN l)) → Below w.heap.size w w' → OpenPost l w (.returned (.tuple #[.int .i64 (numOf ((l.drop 2).take 1)), .agg #[.int .i64 (numOf ((l.drop 3).take 4)), .int .i64 (numOf ((l.drop 7).take 4)), .int .i64 (numOf ((l.drop 11).take 2))], v, .int .i64 0])) w') := hid (fun v w' hg hv hb => by
      obtain ⟨q1, q2, q3, q4⟩ := open_good hg
      exact ⟨v, by rw [q1, q2, q4], by rw [q3]; exact hv, hb⟩)
    generalize hL : l.take 252 = L at *
    have t0 : txtN l = numOf ((L.drop 13).take 1) := by rw [← hL]; exact txt_take l
    rw [← hn] at t0
    replace t0 := hid t0
    replace F := hid F
    have hN := hid hn
    replace hb0 := hid hb0
    clear O BX O2 hn hc hs
    go_enter Try.func79, Try.ntmps79
    go_wp2_with fail
    refine KS.out.mono ?_
    rintro e w1 ⟨rfl, hb1⟩
    have B1 := HBX.out.more hb1
    have hs1 := hb1.size
    clear hW0
    generalize hg : w.heap.size = g at *
    go_wp2_with fail
    refine (KO.out _ hb1).mono ?_
    rintro e w2 ⟨q, rfl, hq, R, hb2⟩
    have hgq : g < q := by omega
    have BT := hid (hb0.out.trans (below2 hb1 hb2 hs1 |>.mono (by omega)))
    have BG := hid (B1.more hb2)
    clear KO KS hb1 hb2 B1 HBX hb0
    have K := hid (rs_texts 2 2 rfl q L w2 R (by omega))
    replace R := hid R
    go_wp2_with fail
    refine K.out.mono ?_
    rintro e w3 ⟨rfl, R3, S3⟩
    replace BG := hid (BG.out.sole S3 (fun h => by have h' : g = q := h; omega))
    replace BT := hid (BT.out.trans (S3.below (B := g) (by have := BT.out.size; omega) fun k hk => by omega))
    clear K R S3
    have K := hid (rs_nums 1 1 rfl q (L.drop 2) w3 R3 (by rw [List.length_drop]; omega))
    rw [List.drop_drop] at K
    replace R3 := hid R3
    go_wp2_with fail
    refine K.out.mono ?_
    rintro e w4 ⟨rfl, R4, S4⟩
    replace BG := hid (BG.out.sole S4 (fun h => by have h' : g = q := h; omega))
    replace BT := hid (BT.out.trans (S4.below (B := g) (by have := BT.out.size; omega) fun k hk => by omega))
    clear K R3 S4
    have K := hid (rs_nums 4 4 rfl q (L.drop 3) w4 R4 (by rw [List.length_drop]; omega))
    rw [List.drop_drop] at K
    replace R4 := hid R4
    go_wp2_with fail
    refine K.out.mono ?_
    rintro e w5 ⟨rfl, R5, S5⟩
    replace BG := hid (BG.out.sole S5 (fun h => by have h' : g = q := h; omega))
    replace BT := hid (BT.out.trans (S5.below (B := g) (by have := BT.out.size; omega) fun k hk => by omega))
    clear K R4 S5
    have K := hid (rs_nums 4 4 rfl q (L.drop 7) w5 R5 (by rw [List.length_drop]; omega))
    rw [List.drop_drop] at K
    replace R5 := hid R5
    go_wp2_with fail
    refine K.out.mono ?_
    rintro e w6 ⟨rfl, R6, S6⟩
    replace BG := hid (BG.out.sole S6 (fun h => by have h' : g = q := h; omega))
    replace BT := hid (BT.out.trans (S6.below (B := g) (by have := BT.out.size; omega) fun k hk => by omega))
    clear K R5 S6
    have K := hid (rs_nums 2 2 rfl q (L.drop 11) w6 R6 (by rw [List.length_drop]; omega))
    rw [List.drop_drop] at K
    replace R6 := hid R6
    go_wp2_with fail
    refine K.out.mono ?_
    rintro e w7 ⟨rfl, R7, S7⟩
    replace BG := hid (BG.out.sole S7 (fun h => by have h' : g = q := h; omega))
    replace BT := hid (BT.out.trans (S7.below (B := g) (by have := BT.out.size; omega) fun k hk => by omega))
    clear K R6 S7
    have hbA : Below w7.heap.size w7 (w7.alloc (.cells #[.int .i64 (numOf ((L.drop 3).take 4)), .int .i64 (numOf ((L.drop 7).take 4)), .int .i64 (numOf ((L.drop 11).take 2))] 116)) := (Below.refl _ _).alloc (Nat.le_refl _) _
    have HS := hid (Blk.new w7 #[.int .i64 (numOf ((L.drop 3).take 4)), .int .i64 (numOf ((L.drop 7).take 4)), .int .i64 (numOf ((L.drop 11).take 2))] 116)
    have R8 := R7.more hbA
    have hq7 := R7.1.lt
    replace BG := hid (BG.out.more hbA)
    replace BT := hid (BT.out.trans (hbA.mono (by have := BT.out.size; omega)))
    clear R7 hbA
    generalize hw8 : w7.alloc (.cells #[.int .i64 (numOf ((L.drop 3).take 4)), .int .i64 (numOf ((L.drop 7).take 4)), .int .i64 (numOf ((L.drop 11).take 2))] 116) = w8 at *
    generalize hg7 : w7.heap.size = g7 at *
    have K := hid (rs_nums 1 1 rfl q (L.drop 13) w8 R8 (by rw [List.length_drop]; omega))
    rw [List.drop_drop, ← t0.out] at K
    replace R8 := hid R8
    go_wp2_with fail
    refine K.out.mono ?_
    rintro e w9 ⟨rfl, R9, S9⟩
    replace BG := hid (BG.out.sole S9 (fun h => by have h' : g = q := h; omega))
    replace BT := hid (BT.out.trans (S9.below (B := g) (by have := BT.out.size; omega) fun k hk => by omega))
    replace HS := hid (HS.out.sole S9 (fun h => by have h' : g7 = q := h; omega))
    clear K R8 S9
    have hl14 : (L.drop (13 + 1)).length = 238 := by rw [List.length_drop]; omega
    obtain ⟨bad, M, T, hbad, hM, hT, fin⟩ : ∃ (bad : Bool) (M T : List UInt8), bad = (false || decide ((L.drop (13 + 1)).length < n)) ∧ M = (if bad then [] else (L.drop (13 + 1)).drop n) ∧ T = (if bad then [] else (L.drop (13 + 1)).take n) ∧ ((bad = false ∧ n ≤ 238 ∧ M = L.drop (14 + n) ∧ T = (L.drop 14).take n) ∨ (bad = true ∧ 238 < n ∧ M = [] ∧ T = [])) := by
      refine ⟨_, _, _, rfl, rfl, rfl, ?_⟩
      rw [hl14]
      by_cases h : 238 < n
      · exact .inr (by simp [h])
      · exact .inl (by simp [h]; omega)
    have K := rs_text n n (by omega) q (L.drop (13 + 1)) false bad hbad w9 R9
    rw [← hM, ← hT] at K
    replace K := hid K
    replace fin := hid fin
    have hTl : T.length ≤ 255 := by
      rcases fin.out with ⟨_, _, _, h⟩ | ⟨_, _, _, h⟩
      · rw [h, List.length_take]; omega
      · rw [h]; simp
    replace R9 := hid R9
    clear hbad hM hT hl14
    go_wp2_with fail
    refine K.out.mono ?_
    rintro e w10 ⟨rfl, R10, S10⟩
    replace BG := hid (BG.out.sole S10 (fun h => by have h' : g = q := h; omega))
    replace BT := hid (BT.out.trans (S10.below (B := g) (by have := BT.out.size; omega) fun k hk => by omega))
    replace HS := hid (HS.out.sole S10 (fun h => by have h' : g7 = q := h; omega))
    clear K R9 S10
    obtain ⟨tc, w11, kc, tc1, OT, hbT⟩ := bytes_of_str_at w10 (textOf T)
    have hq10 := R10.1.lt
    have R11 := hid (R10.more hbT)
    replace BG := hid (BG.out.more hbT)
    replace BT := hid (BT.out.trans (hbT.mono (by have := BT.out.size; omega)))
    replace HS := hid (HS.out.more hbT)
    generalize w10.heap.size = gt at *
    replace OT := hid OT
    clear R10 hbT
    go_wp2_with fail
    generalize hs0 : (L.take 2 == [67, 82]) = s0 at *
    replace hs0 := hid hs0
    clear hw8 kc
    go_loopg [7] M.length (fun gk sv wx => ∃ k : Nat, k + gk = M.length ∧ sv = .bool (s0 && (M.take k).all (· == 0)) ∧ RS wx q (M.drop k) bad ∧ Sole (fun j => j = q) w11 wx)
    case atStart => exact ⟨0, by omega, by simp, R11.out, Sole.refl _ _⟩
    case round =>
      obtain ⟨k, hk, rfl, R, SQ⟩ := hrel
      cases gk with
      | zero =>
        obtain rfl : k = M.length := by omega
        rw [List.drop_length] at R
        rw [List.take_length]
        have BGx := BG.out.sole SQ (fun h => by have h' : g = q := h; omega)
        have BTx := hid (BT.out.trans (SQ.below (B := g) (by have := BT.out.size; omega) fun k hk => by omega))
        have HSx := hid (HS.out.sole SQ (fun h => by have h' : g7 = q := h; omega))
        have OTx := hid (OT.out.sole SQ (fun b' o' h1 _ h2 => by cases h1; have h' : gt = q := h2; omega))
        have KL := hid (left_any q [] _ wr R.1)
        have KE := hid (err_any q [] _ wr R.1)
        have HBG := hid BGx
        clear BG BT HS OT R SQ R11
        obtain ⟨lx, kx, fx⟩ := BGx
        go_wp2_with fail
        refine KL.out.mono ?_
        rintro e w12 ⟨rfl, hw12⟩
        rw [hw12]
        clear hw12 w12
        rcases fin.out with ⟨hb', hn, hM, hT⟩ | ⟨hb', hn, hM, hT⟩
        · subst hb'
          have hgd : goodB l = (s0 && M.all (· == 0)) := by
            rw [F.out, hM]; simp [hn]
          replace hM := hid hM
          replace hT := hid hT
          cases hsd : (s0 && M.all (· == 0)) with
          | false =>
            rw [hsd] at hgd
            have hgood := hid hgd
            clear hgd hsd
            go_wp2_with fail
            have B2 := Blk.fill [.int .i64 0, .int .i64 0, .int .i64 0] 0 HBG.out (by simp)
            have hb2 := hid (below_fill (b := g) (Nat.le_refl g) [.int .i64 0, .int .i64 0, .int .i64 0] 0 BTx.out)
            show bodyPost _ _ _ _ _ (setAll wr g 0 [.int .i64 0, .int .i64 0, .int .i64 0])
            generalize setAll wr g 0 _ = w7x at *
            obtain ⟨l7, k7, f7⟩ := B2
            refine bodyPost_ret (v := .tuple #[.int .i64 0, .agg #[.int .i64 0, .int .i64 0, .int .i64 0], .slice none 0 0, .int .i64 16]) (by simp [results, Try.results79, go_sem, k7, fillC]) rfl ?_
            exact EB.out w7x hgood.out hb2.out
          | true =>
            rw [hsd] at hgd
            have hgood := hid hgd
            clear hgd hsd
            go_wp2_with fail
            refine KE.out.mono ?_
            rintro e w12 ⟨rfl, hw12⟩
            rw [hw12]
            clear hw12 w12
            obtain ⟨l8, k8, f8⟩ := HSx.out
            go_wp2_with fail
            go_region
            go_wp2_with fail
            have B2 := (Blk.fill [.int .i64 (numOf ((L.drop 3).take 4)), .int .i64 (numOf ((L.drop 7).take 4)), .int .i64 (numOf ((L.drop 11).take 2))] 0 HBG.out (by simp)).drew
            have hb2 := hid (below_fill (b := g) (Nat.le_refl g) [.int .i64 (numOf ((L.drop 3).take 4)), .int .i64 (numOf ((L.drop 7).take 4)), .int .i64 (numOf ((L.drop 11).take 2))] 0 BTx.out).drew
            have SF := sole_fill (b := g) [.int .i64 (numOf ((L.drop 3).take 4)), .int .i64 (numOf ((L.drop 7).take 4)), .int .i64 (numOf ((L.drop 11).take 2))] 0 wr
            have OTy := hid (OTx.out.sole SF (fun b' o' h1 _ h2 => by cases h1; have h' : gt = g := h2; omega))
            show bodyPost _ _ _ _ _ (setAll wr g 0 [.int .i64 (numOf ((L.drop 3).take 4)), .int .i64 (numOf ((L.drop 7).take 4)), .int .i64 (numOf ((L.drop 11).take 2))]).drew
            generalize setAll wr g 0 _ = w7x at *
            obtain ⟨l7, k7, f7⟩ := B2
            refine bodyPost_ret (v := .tuple #[.int .i64 (numOf ((L.drop 2).take 1)), .agg #[.int .i64 (numOf ((L.drop 3).take 4)), .int .i64 (numOf ((L.drop 7).take 4)), .int .i64 (numOf ((L.drop 11).take 2))], .slice (some ⟨gt, 0, none⟩) T.length tc, .int .i64 0]) (by simp [results, Try.results79, go_sem, k7, fillC]) rfl ?_
            have e2 := part_take l 2 1 (by omega)
            have e3 := part_take l 3 4 (by omega)
            have e7 := part_take l 7 4 (by omega)
            have e11 := part_take l 11 2 (by omega)
            rw [hL] at e2 e3 e7 e11
            rw [e2, e3, e7, e11]
            refine EG.out _ _ hgood.out ?_ hb2.out
            have hTT : T = (l.drop 14).take (txtN l) := by rw [hT.out, ← hL, hN.out]; exact part_take l 14 _ (by have := hN.out; omega)
            rw [← hTT]
            have hts : (textOf T).size = T.length := by simp [ByteArray.size]
            exact ⟨_, _, rfl, OTy.out, by omega, fun x h => by cases h; rfl⟩
        · subst hb'
          subst hM
          have hgd : goodB l = false := by
            rw [F.out, show decide (n ≤ 238) = false from decide_eq_false (by omega)]; simp
          have hgood := hid hgd
          clear hgd
          rw [List.all_nil, Bool.and_true]
          cases s0 with
          | false =>
            go_wp2_with fail
            have B2 := Blk.fill [.int .i64 0, .int .i64 0, .int .i64 0] 0 HBG.out (by simp)
            have hb2 := hid (below_fill (b := g) (Nat.le_refl g) [.int .i64 0, .int .i64 0, .int .i64 0] 0 BTx.out)
            show bodyPost _ _ _ _ _ (setAll wr g 0 [.int .i64 0, .int .i64 0, .int .i64 0])
            generalize setAll wr g 0 _ = w7x at *
            obtain ⟨l7, k7, f7⟩ := B2
            refine bodyPost_ret (v := .tuple #[.int .i64 0, .agg #[.int .i64 0, .int .i64 0, .int .i64 0], .slice none 0 0, .int .i64 16]) (by simp [results, Try.results79, go_sem, k7, fillC]) rfl ?_
            exact EB.out w7x hgood.out hb2.out
          | true =>
            go_wp2_with fail
            refine KE.out.mono ?_
            rintro e w12 ⟨rfl, hw12⟩
            rw [hw12]
            clear hw12 w12
            go_wp2_with fail
            have B2 := Blk.fill [.int .i64 0, .int .i64 0, .int .i64 0] 0 HBG.out (by simp)
            have hb2 := hid (below_fill (b := g) (Nat.le_refl g) [.int .i64 0, .int .i64 0, .int .i64 0] 0 BTx.out)
            show bodyPost _ _ _ _ _ (setAll wr g 0 [.int .i64 0, .int .i64 0, .int .i64 0])
            generalize setAll wr g 0 _ = w7x at *
            obtain ⟨l7, k7, f7⟩ := B2
            refine bodyPost_ret (v := .tuple #[.int .i64 0, .agg #[.int .i64 0, .int .i64 0, .int .i64 0], .slice none 0 0, .int .i64 16]) (by simp [results, Try.results79, go_sem, k7, fillC]) rfl ?_
            exact EB.out w7x hgood.out hb2.out
      | succ gk =>
        have hkM : k < M.length := by omega
        obtain ⟨rfl, _, _, _⟩ : bad = false ∧ True ∧ True ∧ True := by
          rcases fin.out with ⟨hb', _⟩ | ⟨_, _, hM, _⟩
          · exact ⟨hb', trivial, trivial, trivial⟩
          · rw [hM] at hkM; exact absurd hkM (Nat.not_lt_zero _)
        have hdr : (M.drop k).take 1 = [M[k]] := by rw [List.drop_eq_getElem_cons hkM]; rfl
        have hx : numOf ((M.drop k).take 1) = (M[k]).toNat := by rw [hdr]; simp [numOf]
        have hst : (s0 && (M.take (k + 1)).all (· == 0)) = ((s0 && (M.take k).all (· == 0)) && (M[k] == 0)) := by
          rw [List.take_succ_eq_append_getElem hkM, List.all_append, ← Bool.and_assoc]; simp
        have hl1 : ((M.drop k).length : Int) = M.length - k := by rw [List.length_drop]; omega
        have KL := left_any q (M.drop k) _ wr R.1
        rw [hl1] at KL
        have KN := rs_nums 1 1 rfl q (M.drop k) wr R (by rw [List.length_drop]; omega)
        rw [hx, List.drop_drop] at KN
        have hml : (M.length : Int) ≤ 1000 := by
          rcases fin.out with ⟨_, _, hM, _⟩ | ⟨_, _, hM, _⟩
          · rw [hM, List.length_drop]; omega
          · rw [hM]; decide
        have hpos : 0 < (M.length : Int) - k := by omega
        have uu : IntKind.i64.wrap ((M.length : Int) - k) = (M.length : Int) - k := IntWalk.i64_in _ (by omega)
        clear hdr hx hl1
        generalize hsk : (s0 && (M.take k).all (· == 0)) = sk at *
        by_cases hz : M[k] = 0
        · rw [show (((M[k]).toNat : Nat) : Int) = 0 by rw [hz]; rfl] at KN
          rw [hz] at hst
          have hst' : (s0 && (M.take (k + 1)).all (· == 0)) = sk := by rw [hst]; simp
          replace hst' := hid hst'
          replace KL := hid KL
          replace KN := hid KN
          replace SQ := hid SQ
          clear hst hz R hsk
          go_wp2_with fail
          refine KL.out.mono ?_
          rintro e w12 ⟨rfl, hw12⟩
          rw [hw12]
          clear hw12 w12
          go_wp2_with fail
          refine KN.out.mono ?_
          rintro e w13 ⟨rfl, R13, S13⟩
          have SX := hid (SQ.out.trans S13)
          replace R13 := hid R13
          clear S13
          go_wp2_with fail
          go_roundg gk
          case rel => exact ⟨k + 1, by omega, by rw [hst'.out], R13.out, SX.out⟩
          case measure => omega
        · have hne : (((M[k]).toNat : Int) == 0) = false := by
            have : (M[k]).toNat ≠ 0 := fun h => hz (UInt8.toNat_inj.1 (by rw [h]; rfl))
            simpa using this
          have hst' : (s0 && (M.take (k + 1)).all (· == 0)) = false := by rw [hst]; simp [hz]
          generalize (M[k]).toNat = c at *
          replace hst' := hid hst'
          replace KL := hid KL
          replace KN := hid KN
          replace SQ := hid SQ
          clear hst hz R hsk
          go_wp2_with fail
          refine KL.out.mono ?_
          rintro e w12 ⟨rfl, hw12⟩
          rw [hw12]
          clear hw12 w12
          go_wp2_with fail
          refine KN.out.mono ?_
          rintro e w13 ⟨rfl, R13, S13⟩
          have SX := hid (SQ.out.trans S13)
          replace R13 := hid R13
          clear S13
          go_wp2_with fail
          go_roundg gk
          case rel => exact ⟨k + 1, by omega, by rw [hst'.out], R13.out, SX.out⟩
          case measure => omega
end Go.Proofs.Ytcklmemnjchdcaa

/-
  Package frame: Seal.
-/


namespace Go.Proofs.Ytcklmemnjchdcaa
open Go.RowKit
set_option linter.unusedVariables false
set_option linter.unusedSimpArgs false

def fitB (n most : Int) : Bool := decide (0 ≤ n) && decide (n ≤ most)
theorem fits_any (n most : Int) (w : World) : Calls Try.prog 60 #[.int .i64 n, .int .i64 most] w fun e w' => e = .returned (.bool (fitB n most)) ∧ w' = w := by
  unfold fitB
  by_cases h1 : 0 ≤ n
  · by_cases h2 : n ≤ most
    · go_enter Try.func60, Try.ntmps60
      go_wp2
      go_ret
      exact ⟨by simp [h1, h2], rfl⟩
    · have g2 := decide_eq_false h2
      go_enter Try.func60, Try.ntmps60
      go_wp2
      go_ret
      exact ⟨by simp [h1, h2], rfl⟩
  · have g1 := decide_eq_false h1
    go_enter Try.func60, Try.ntmps60
    go_wp2
    go_ret
    exact ⟨by simp [h1], rfl⟩
theorem fitB_true {n most : Int} : fitB n most = true ↔ 0 ≤ n ∧ n ≤ most := by simp [fitB]

/-- Why a sector can't be, by what is asked first. -/
theorem seal_ways (kind : Int) (t : Stp) (n : Nat) : (fitB kind 255 = false ∧ sealC kind t n = 4 ∧ ¬ stFits kind t) ∨ (fitB kind 255 = true ∧ fitB t.e 4294967295 = false ∧ sealC kind t n = 4 ∧ ¬ stFits kind t) ∨
    (fitB kind 255 = true ∧ fitB t.e 4294967295 = true ∧ fitB t.s 4294967295 = false ∧ sealC kind t n = 4 ∧ ¬ stFits kind t) ∨
    (fitB kind 255 = true ∧ fitB t.e 4294967295 = true ∧ fitB t.s 4294967295 = true ∧ fitB t.a 65535 = false ∧ sealC kind t n = 4 ∧ ¬ stFits kind t) ∨
    (fitB kind 255 = true ∧ fitB t.e 4294967295 = true ∧ fitB t.s 4294967295 = true ∧ fitB t.a 65535 = true ∧ stFits kind t) := by
  have bad : ∀ h : ¬ stFits kind t, sealC kind t n = 4 := fun h => by unfold sealC; rw [if_neg h]
  cases h1 : fitB kind 255 with
  | false =>
    have hn : ¬ stFits kind t := fun h => by have := fitB_true.2 ⟨h.1, h.2.1⟩; rw [h1] at this; cases this
    exact .inl ⟨rfl, bad hn, hn⟩
  | true =>
    cases h2 : fitB t.e 4294967295 with
    | false =>
      have hn : ¬ stFits kind t := fun h => by have := fitB_true.2 ⟨h.2.2.1, h.2.2.2.1⟩; rw [h2] at this; cases this
      exact .inr (.inl ⟨rfl, rfl, bad hn, hn⟩)
    | true =>
      cases h3 : fitB t.s 4294967295 with
      | false =>
        have hn : ¬ stFits kind t := fun h => by have := fitB_true.2 ⟨h.2.2.2.2.1, h.2.2.2.2.2.1⟩; rw [h3] at this; cases this
        exact .inr (.inr (.inl ⟨rfl, rfl, rfl, bad hn, hn⟩))
      | true =>
        cases h4 : fitB t.a 65535 with
        | false =>
          have hn : ¬ stFits kind t := fun h => by have := fitB_true.2 ⟨h.2.2.2.2.2.2.1, h.2.2.2.2.2.2.2⟩; rw [h4] at this; cases this
          exact .inr (.inr (.inr (.inl ⟨rfl, rfl, rfl, rfl, bad hn, hn⟩)))
        | true =>
          have a1 := fitB_true.1 h1
          have a2 := fitB_true.1 h2
          have a3 := fitB_true.1 h3
          have a4 := fitB_true.1 h4
          exact .inr (.inr (.inr (.inr ⟨rfl, rfl, rfl, rfl, a1.1, a1.2, a2.1, a2.2, a3.1, a3.2, a4.1, a4.2⟩)))

/-- No octets: of nothing. -/
theorem Fresh.none {w w' : World} (hb : Below w.heap.size w w') : Fresh w w' (.slice Option.none 0 0) [] := ⟨Option.none, 0, rfl, World.ownsRow_nil _ _ _ _, hb⟩
def SealPost (kind : Int) (t : Stp) (l : List UInt8) (w : World) (e : Ending) (w' : World) : Prop := ∃ v, e = .returned (.tuple #[v, .int .i64 (sealC kind t l.length)]) ∧ Fresh w w' v (sealL kind t l)

set_option maxRecDepth 100000 in
set_option maxHeartbeats 8000000 in
theorem seal_bad (kind : Int) (t : Stp) (l : List UInt8) (a : Option Addr) (cap : Nat) (hl : l.length ≤ 9223372036854775807) (h : ¬ (stFits kind t ∧ l.length ≤ 238)) (w : World) :
    Calls Try.prog 46 #[.int .i64 kind, sval t, .slice a l.length cap] w (SealPost kind t l w) := by
  have E : Hid (∀ c, c = sealC kind t l.length → SealPost kind t l w (.returned (.tuple #[.slice none 0 0, .int .i64 c])) (w.alloc (.cells (scells t) 116))) := hid (fun c hc =>
    ⟨.slice none 0 0, by rw [hc], by unfold sealL; rw [if_neg h]; exact Fresh.none ((Below.refl _ _).alloc (Nat.le_refl _) _)⟩)
  have K1 := fun w => fits_any kind 255 w
  have K2 := fun w => fits_any t.e 4294967295 w
  have K3 := fun w => fits_any t.s 4294967295 w
  have K4 := fun w => fits_any t.a 65535 w
  rcases seal_ways kind t l.length with ⟨g1, hc, _⟩ | ⟨g1, g2, hc, _⟩ | ⟨g1, g2, g3, hc, _⟩ | ⟨g1, g2, g3, g4, hc, _⟩ | ⟨g1, g2, g3, g4, hf⟩
  · rw [g1] at K1
    rw [hc] at E
    replace K1 := hid K1
    clear K2 K3 K4 g1 hc h
    go_enter Try.func46, Try.ntmps46
    go_wp2_with fail
    refine (K1.out _).mono ?_
    rintro e w1 ⟨rfl, rfl⟩
    go_wp2_with fail
    go_ret2
    exact E.out 4 rfl
  · rw [g1] at K1
    rw [g2] at K2
    rw [hc] at E
    replace K1 := hid K1
    replace K2 := hid K2
    clear K3 K4 g1 g2 hc h
    go_enter Try.func46, Try.ntmps46
    go_wp2_with fail
    refine (K1.out _).mono ?_
    rintro e w1 ⟨rfl, rfl⟩
    go_wp2_with fail
    refine (K2.out _).mono ?_
    rintro e w1 ⟨rfl, rfl⟩
    go_wp2_with fail
    go_ret2
    exact E.out 4 rfl
  · rw [g1] at K1
    rw [g2] at K2
    rw [g3] at K3
    rw [hc] at E
    replace K1 := hid K1
    replace K2 := hid K2
    replace K3 := hid K3
    clear K4 g1 g2 g3 hc h
    go_enter Try.func46, Try.ntmps46
    go_wp2_with fail
    refine (K1.out _).mono ?_
    rintro e w1 ⟨rfl, rfl⟩
    go_wp2_with fail
    refine (K2.out _).mono ?_
    rintro e w1 ⟨rfl, rfl⟩
    go_wp2_with fail
    refine (K3.out _).mono ?_
    rintro e w1 ⟨rfl, rfl⟩
    go_wp2_with fail
    go_ret2
    exact E.out 4 rfl
  · rw [g1] at K1
    rw [g2] at K2
    rw [g3] at K3
    rw [g4] at K4
    rw [hc] at E
    replace K1 := hid K1
    replace K2 := hid K2
    replace K3 := hid K3
    replace K4 := hid K4
    clear g1 g2 g3 g4 hc h
    go_enter Try.func46, Try.ntmps46
    go_wp2_with fail
    refine (K1.out _).mono ?_
    rintro e w1 ⟨rfl, rfl⟩
    go_wp2_with fail
    refine (K2.out _).mono ?_
    rintro e w1 ⟨rfl, rfl⟩
    go_wp2_with fail
    refine (K3.out _).mono ?_
    rintro e w1 ⟨rfl, rfl⟩
    go_wp2_with fail
    refine (K4.out _).mono ?_
    rintro e w1 ⟨rfl, rfl⟩
    go_wp2_with fail
    go_ret2
    exact E.out 4 rfl
  · have hlong : 238 < (l.length : Int) := by
      have : ¬ l.length ≤ 238 := fun hh => h ⟨hf, hh⟩
      omega
    have hc : sealC kind t l.length = 5 := by unfold sealC; rw [if_pos hf, if_neg (by omega)]
    rw [g1] at K1
    rw [g2] at K2
    rw [g3] at K3
    rw [g4] at K4
    rw [hc] at E
    replace K1 := hid K1
    replace K2 := hid K2
    replace K3 := hid K3
    replace K4 := hid K4
    have hl' : (l.length : Int) ≤ 9223372036854775807 := by omega
    clear g1 g2 g3 g4 hc h hf hl
    go_enter Try.func46, Try.ntmps46
    go_wp2_with fail
    refine (K1.out _).mono ?_
    rintro e w1 ⟨rfl, rfl⟩
    go_wp2_with fail
    refine (K2.out _).mono ?_
    rintro e w1 ⟨rfl, rfl⟩
    go_wp2_with fail
    refine (K3.out _).mono ?_
    rintro e w1 ⟨rfl, rfl⟩
    go_wp2_with fail
    refine (K4.out _).mono ?_
    rintro e w1 ⟨rfl, rfl⟩
    go_wp2_with fail
    go_ret2
    exact E.out 5 rfl

set_option maxRecDepth 100000 in
set_option maxHeartbeats 8000000 in
theorem seal_ok (kind : Int) (t : Stp) (l : List UInt8) (a : Option Addr) (cap : Nat) (hf : stFits kind t) (hl : l.length ≤ 238) (w : World) (O : Octs w a l) :
    Calls Try.prog 46 #[.int .i64 kind, sval t, .slice a l.length cap] w (SealPost kind t l w) := by
  obtain ⟨W0, hW0⟩ : ∃ W0, w.alloc (.cells (scells t) 116) = W0 := ⟨_, rfl⟩
  have hb0 : Below w.heap.size w W0 := by rw [← hW0]; exact (Below.refl _ _).alloc (Nat.le_refl _) _
  have hsz0 : W0.heap.size = w.heap.size + 1 := by rw [← hW0]; simp
  have BX : Blk W0 w.heap.size (scells t) := by rw [← hW0]; exact Blk.new w _ _
  have O0 := hid (O.more hb0)
  have E : Hid (∀ v w1 w', Below w.heap.size w w1 → Fresh w1 w' v (sealB kind t l) → SealPost kind t l w (.returned (.tuple #[v, .int .i64 0])) w') := hid (fun v w1 w' hb F => by
    refine ⟨v, by unfold sealC; rw [if_pos hf, if_pos hl], ?_⟩
    unfold sealL
    rw [if_pos ⟨hf, hl⟩]
    obtain ⟨xa, xc, hv, OX, hb'⟩ := F
    exact ⟨xa, xc, hv, own_base OX hb.size, below2 hb hb' hb.size⟩)
  obtain ⟨k0, k1, e0, e1, s0, s1, a0, a1⟩ := hf
  have K1 := hid (fun w => fits_any kind 255 w)
  have K2 := hid (fun w => fits_any t.e 4294967295 w)
  have K3 := hid (fun w => fits_any t.s 4294967295 w)
  have K4 := hid (fun w => fits_any t.a 65535 w)
  rw [fitB_true.2 ⟨k0, k1⟩] at K1
  rw [fitB_true.2 ⟨e0, e1⟩] at K2
  rw [fitB_true.2 ⟨s0, s1⟩] at K3
  rw [fitB_true.2 ⟨a0, a1⟩] at K4
  have KN := hid (fun w => ws_new 256 256 rfl w)
  have hlI : (l.length : Int) ≤ 238 := by omega
  have cl := hid (crcN_lt (bodyB kind t l))
  have bl := hid (bodyB_length kind t l hl)
  have hsB := hid (show bodyB kind t l = [] ++ [67, 82] ++ leB kind.toNat 1 ++ leB t.e.toNat 4 ++ leB t.s.toNat 4 ++ leB t.a.toNat 2 ++ leB (l.length : Int).toNat 1 ++ l ++ List.replicate (238 - l.length) 0 by simp [bodyB, headB, List.append_assoc])
  have HBX := hid BX
  replace hb0 := hid hb0
  clear BX O
  go_enter Try.func46, Try.ntmps46
  go_wp2_with fail
  refine (K1.out _).mono ?_
  rintro e w1 ⟨rfl, hw1⟩
  rw [hw1]
  clear hw1 w1 hW0
  obtain ⟨lx, kx, fx⟩ := HBX.out
  go_wp2_with fail
  refine (K2.out _).mono ?_
  rintro e w1 ⟨rfl, hw1⟩
  rw [hw1]
  clear hw1 w1
  go_wp2_with fail
  refine (K3.out _).mono ?_
  rintro e w1 ⟨rfl, hw1⟩
  rw [hw1]
  clear hw1 w1
  go_wp2_with fail
  refine (K4.out _).mono ?_
  rintro e w1 ⟨rfl, hw1⟩
  rw [hw1]
  clear hw1 w1
  clear K1 K2 K3 K4
  go_wp2_with fail
  refine (KN.out _).mono ?_
  rintro e w1 ⟨rfl, S⟩
  obtain ⟨p, hp⟩ : ∃ p, W0.heap.size = p := ⟨_, rfl⟩
  rw [hp] at S
  simp only [hp]
  have hgp : w.heap.size < p := by omega
  have HB0 := hid (fun (wx : World) (m : List UInt8) (S : WS W0 p 256 wx m) => HBX.out.below S.below hgp)
  have HO := hid (fun (wx : World) (m : List UInt8) (S : WS W0 p 256 wx m) => O0.out.more (w' := wx) (by rw [hp]; exact S.below))
  have HW := hid (fun (wx : World) (m : List UInt8) (S : WS W0 p 256 wx m) => hb0.out.trans (S.below.mono (Nat.le_of_lt hgp)))
  clear KN hb0 O0 HBX lx kx fx hsz0
  generalize w.heap.size = g at *
  have B1 := HB0.out _ _ S
  obtain ⟨lx, kx, fx⟩ := B1
  have K := hid (ws_text S (by omega) (by omega) ⟨#[67, 82]⟩ (by decide))
  replace S := hid S
  go_wp2_with fail
  refine K.out.mono ?_
  rintro e w2 ⟨rfl, S2⟩
  clear lx kx fx K S
  have S := S2
  clear S2
  have B2 := HB0.out _ _ S
  obtain ⟨lx, kx, fx⟩ := B2
  have K := hid (ws_num S (by omega) (by omega) kind 1 1 rfl k0 (by omega) (by simp))
  replace S := hid S
  go_wp2_with fail
  refine K.out.mono ?_
  rintro e w3 ⟨rfl, S3⟩
  clear lx kx fx K S
  have S := S3
  clear S3
  have B3 := HB0.out _ _ S
  obtain ⟨lx, kx, fx⟩ := B3
  have K := hid (ws_num S (by omega) (by omega) t.e 4 4 rfl e0 (by omega) (by simp [leB_length]))
  replace S := hid S
  go_wp2_with fail
  refine K.out.mono ?_
  rintro e w4 ⟨rfl, S4⟩
  clear lx kx fx K S
  have S := S4
  clear S4
  have B4 := HB0.out _ _ S
  obtain ⟨lx, kx, fx⟩ := B4
  have K := hid (ws_num S (by omega) (by omega) t.s 4 4 rfl s0 (by omega) (by simp [leB_length]))
  replace S := hid S
  go_wp2_with fail
  refine K.out.mono ?_
  rintro e w5 ⟨rfl, S5⟩
  clear lx kx fx K S
  have S := S5
  clear S5
  have B5 := HB0.out _ _ S
  obtain ⟨lx, kx, fx⟩ := B5
  have K := hid (ws_num S (by omega) (by omega) t.a 2 2 rfl a0 (by omega) (by simp [leB_length]))
  replace S := hid S
  go_wp2_with fail
  refine K.out.mono ?_
  rintro e w6 ⟨rfl, S6⟩
  clear lx kx fx K S
  have S := S6
  clear S6
  have B6 := HB0.out _ _ S
  obtain ⟨lx, kx, fx⟩ := B6
  have K := hid (ws_num S (by omega) (by omega) l.length 1 1 rfl (by omega) (by omega) (by simp [leB_length]))
  replace S := hid S
  go_wp2_with fail
  refine K.out.mono ?_
  rintro e w7 ⟨rfl, S7⟩
  clear lx kx fx K S
  have S := S7
  clear S7
  have B7 := HB0.out _ _ S
  have kc := conv_octs (HO.out _ _ S) cap
  obtain ⟨lx, kx, fx⟩ := B7
  have K := hid (ws_text S (by omega) (by omega) (textOf l) (by rw [show (textOf l).size = l.length by simp [ByteArray.size]]; simp [leB_length]; omega))
  replace S := hid S
  go_wp2_with fail
  refine K.out.mono ?_
  rintro e w8 ⟨rfl, S8⟩
  clear lx kx fx K S
  have S := S8
  clear S8
  clear kc
  have B8 := HB0.out _ _ S
  obtain ⟨lx, kx, fx⟩ := B8
  have K := hid (ws_pad S (by omega) (by omega) 252 (by omega))
  replace S := hid S
  go_wp2_with fail
  refine K.out.mono ?_
  rintro e w9 ⟨rfl, S9⟩
  clear lx kx fx K S
  have S := S9
  clear S9
  replace S : WS W0 p 256 w9 (bodyB kind t l) := by
    refine cast (congrArg (WS W0 p 256 w9) ?_) S
    rw [hsB.out]
    congr 2
    simp [leB_length]
    omega
  clear hsB
  have KD := hid (ws_done S (by rw [bl.out]; omega))
  replace S := hid S
  clear HB0 HO
  go_wp2_with fail
  refine KD.out.mono ?_
  rintro e w10 ⟨v, rfl, ⟨xa, xc, rfl, OX, hb10⟩, S10⟩
  have hown := OX
  have O10 := Octs.of_own OX
  have hcap : (bodyB kind t l).length ≤ xc ∧ xc ≤ maxLen := by
    rcases OX.2 with ⟨_, h0⟩ | ⟨g', cap', cur, hv, _, _, q1, q2, _⟩
    · rw [bl.out] at h0; cases h0
    · cases hv; exact ⟨q1, q2⟩
  have hbA : Below w10.heap.size w10 (w10.alloc (.cells #[.slice xa (bodyB kind t l).length xc] 51)) := (Below.refl _ _).alloc (Nat.le_refl _) _
  have KC := hid (crc_one (bodyB kind t l) xa xc w10.heap.size hcap.1 hcap.2 _ (O10.more hbA) (by simp) (by simp))
  rw [bl.out] at KC
  have S11 := S10.more hbA
  rw [bl.out] at S11
  replace S11 := hid S11
  have hw0 := hid (S10.below)
  clear OX hb10 hown O10 S10 S KD hbA
  have cl0 : 0 ≤ (crcN (bodyB kind t l) : Int) ∧ (crcN (bodyB kind t l) : Int) ≤ 4294967295 := by have := cl.out; omega
  generalize hbd : bodyB kind t l = body at *
  have bl' := bl.out
  go_wp2_with fail
  refine KC.out.mono ?_
  rintro e w12 ⟨rfl, hb12⟩
  have S12 := S11.out.more hb12
  have KN := hid (ws_num S12 (by omega) (by omega) (crcN body) 4 4 rfl cl0.1 (by omega) (by rw [bl']; decide))
  replace S12 := hid S12
  clear hb12 KC
  go_wp2_with fail
  refine KN.out.mono ?_
  rintro e w13 ⟨rfl, S13⟩
  have KD := hid (ws_done S13 (by simp [leB_length, bl']))
  have hb13 := hid (HW.out _ _ S13)
  clear S12 S11 KN S13
  go_wp2_with fail
  refine KD.out.mono ?_
  rintro e w14 ⟨v, rfl, F, _⟩
  have E2 := hid (E.out v w13 w14 hb13.out (by show Fresh w13 w14 v (sealB kind t l); unfold sealB; rw [hbd]; exact F))
  clear F
  go_wp2_with fail
  go_ret2
  exact E2.out
theorem seal_any (kind : Int) (t : Stp) (l : List UInt8) (a : Option Addr) (cap : Nat) (hl : l.length ≤ 9223372036854775807) (w : World) (O : Octs w a l) :
    Calls Try.prog 46 #[.int .i64 kind, sval t, .slice a l.length cap] w (SealPost kind t l w) := by
  by_cases h : stFits kind t ∧ l.length ≤ 238
  · exact seal_ok kind t l a cap h.1 h.2 w O
  · exact seal_bad kind t l a cap hl h w
end Go.Proofs.Ytcklmemnjchdcaa

/-
  Package frame: Is; the example of layer 9.
-/



namespace Go.Proofs.Ytcklmemnjchdcaa
open Go.RowKit
set_option linter.unusedVariables false
set_option linter.unusedSimpArgs false

def stEq (a b c a' b' c' : Int) : Bool := decide (a = a') && decide (b = b') && decide (c = c')
@[go_sem high] theorem eql_st (a b c a' b' c' : Int) (w : World) : (binOp .eql 116 (.agg #[.int .i64 a, .int .i64 b, .int .i64 c]) (.agg #[.int .i64 a', .int .i64 b', .int .i64 c'])).run Try.prog w = .ok (.bool (stEq a b c a' b' c')) w := by
  rw [run_eql_struct]
  by_cases h1 : a = a' <;> by_cases h2 : b = b' <;> by_cases h3 : c = c' <;> simp [go_sem, stEq, h1, h2, h3]
def isB (l : List UInt8) (kind : Int) (t : Stp) : Bool := goodB l && (openK l == kind && stEq (openS l).e (openS l).s (openS l).a t.e t.s t.a)
theorem stEq_iff (s t : Stp) : stEq s.e s.s s.a t.e t.s t.a = true ↔ s = t := by
  cases s; cases t
  simp [stEq, and_assoc]

set_option maxRecDepth 100000 in
set_option maxHeartbeats 4000000 in
theorem is_any (l : List UInt8) (a : Option Addr) (cap : Nat) (h1 : l.length ≤ cap) (h2 : cap ≤ maxLen) (kind : Int) (t : Stp) (w : World) (O : Octs w a l) :
    Calls Try.prog 67 #[.slice a l.length cap, .int .i64 kind, sval t] w fun e w' => e = .returned (.bool (isB l kind t)) ∧ Below w.heap.size w w' := by
  obtain ⟨W0, hW0⟩ : ∃ W0, w.alloc (.cells (scells t) 116) = W0 := ⟨_, rfl⟩
  have hb0 : Below w.heap.size w W0 := by rw [← hW0]; exact (Below.refl _ _).alloc (Nat.le_refl _) _
  have BX : Blk W0 w.heap.size (scells t) := by rw [← hW0]; exact Blk.new w _ _
  have KO := fopen_any l a cap h1 h2 W0 (O.more hb0)
  unfold OpenPost at KO
  replace KO := hid KO
  have hE : Hid (isB l kind t = (goodB l && (openK l == kind && stEq (openS l).e (openS l).s (openS l).a t.e t.s t.a))) := hid rfl
  have hC : Hid (openE l = if goodB l then 0 else 16) := hid rfl
  have HBX := hid BX
  replace hb0 := hid hb0
  clear BX O h1 h2
  generalize isB l kind t = R at *
  generalize openK l = K at *
  generalize openS l = S at *
  obtain ⟨lx, kx, fx⟩ := HBX.out
  go_enter Try.func67, Try.ntmps67
  go_wp2_with fail
  refine KO.out.mono ?_
  rintro e w1 ⟨v, rfl, _, hb1⟩
  have HB1 := hid (HBX.out.more hb1)
  have D1 := hid (below2 hb0.out hb1 hb0.out.size)
  clear hb1 lx kx fx KO hW0 hb0 HBX
  have D2 := hid (D1.out.alloc D1.out.size (.cells (scells S) 116))
  have hlt : w.heap.size < w1.heap.size := HB1.out.lt
  obtain ⟨lx, kx, fx⟩ := HB1.out
  cases hg : goodB l with
  | false =>
    rw [hg] at hE hC
    rw [hC.out, if_neg (by simp)]
    clear hg
    go_wp2_with fail
    go_ret
    exact ⟨by rw [hE.out]; rfl, D2.out⟩
  | true =>
    rw [hg] at hE hC
    rw [hC.out, if_pos rfl]
    clear hg
    cases hk : (K == kind) with
    | false =>
      rw [hk] at hE
      go_wp2_with fail
      go_ret
      exact ⟨by rw [hE.out]; rfl, D2.out⟩
    | true =>
      rw [hk] at hE
      go_wp2_with fail
      go_ret
      exact ⟨by rw [hE.out]; rfl, D2.out⟩
end Go.Proofs.Ytcklmemnjchdcaa

namespace Go.Proofs.Ytcklmemnjchdcaa
open Go.RowKit
set_option linter.unusedVariables false
set_option linter.unusedSimpArgs false

instance (P : Pt) : Decidable P.may := by unfold Pt.may; infer_instance
/-- What the document's own reading tells. -/
def GPost (l : List UInt8) (w : World) (e : Ending) (w' : World) : Prop :=
  ∃ P n, e = .returned (.tuple #[pval P, .int .i64 n]) ∧ Below w.heap.size w w' ∧
    ((13 + lenAt l ≤ l.length ∧ (pointOf l).may ∧ P = pointOf l ∧ n = 13 + (lenAt l : Int)) ∨ (¬ (13 + lenAt l ≤ l.length ∧ (pointOf l).may) ∧ P = pt0 ∧ n = 0))
end Go.Proofs.Ytcklmemnjchdcaa
