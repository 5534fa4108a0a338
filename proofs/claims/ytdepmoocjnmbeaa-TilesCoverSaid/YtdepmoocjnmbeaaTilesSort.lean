/-
  The library's sort of cells, at one.
-/
import Derived.Test.YtdepmoocjnmbeaaTilesMet
import Derived.Lib.BufferMore
namespace Go.Proofs.Ytdepmoocjnmbeaa
open Go.RowKit
set_option linter.unusedVariables false
set_option linter.unusedSimpArgs false

set_option maxRecDepth 100000 in
theorem tkins (p : Option Addr) (c : Nat) (n : Nat) (hn : n ≤ 1) (f : Value) (w : World) : Calls Try.prog 46 #[.slice p n c, .int .i64 0, .int .i64 n, f] w fun e w' => e = .returned (.tuple #[]) ∧ w' = w := by
  have h1 : decide ((1 : Int) < (n : Int)) = false := decide_eq_false (by omega)
  go_enter Try.func46, Try.ntmps46
  go_wp2_with fail
  refine wp_loop_rounds 1 ?_
  rw [rounds_succ]
  go_wp2
  go_end0
  exact ⟨rfl, rfl⟩
set_option maxRecDepth 100000 in
theorem tkpdq (p : Option Addr) (c : Nat) (l : Int) (f : Value) (w : World) : Calls Try.prog 41 #[.slice p 1 c, .int .i64 0, .int .i64 1, .int .i64 l, f] w fun e w' => e = .returned (.tuple #[]) ∧ w' = w := by
  have K := hid (tkins p c 1 (Nat.le_refl _) f w)
  go_enter Try.func41, Try.ntmps41
  go_wp2_with fail
  refine wp_loop_rounds 1 ?_
  rw [rounds_succ]
  go_wp2_with fail
  refine K.out.mono ?_
  rintro e w1 ⟨rfl, hw⟩
  rw [hw]
  clear hw w1 K
  go_wp2_with fail
  (try simp only [Exit.inBlock, Exit.then]); refine bodyPost_ret (results_none rfl _ _ _) rfl ?_
  exact ⟨rfl, rfl⟩
set_option maxRecDepth 100000 in
theorem tkbits64 (w : World) : Calls Try.prog 55 #[.int .u64 1] w fun e w' => (∃ n : Int, e = .returned (.int .i64 n)) ∧ w' = w := by
  go_enter Try.func55, Try.ntmps55
  go_wp2
  go_ret
  exact ⟨⟨_, rfl⟩, rfl⟩
set_option maxRecDepth 100000 in
theorem tkbits (w : World) : Calls Try.prog 42 #[.int .u64 1] w fun e w' => (∃ n : Int, e = .returned (.int .i64 n)) ∧ w' = w := by
  have K := hid (tkbits64 w)
  go_enter Try.func42, Try.ntmps42
  go_wp2_with fail
  refine K.out.mono ?_
  rintro e w1 ⟨⟨n, rfl⟩, hw⟩
  rw [hw]
  clear hw w1 K
  go_wp2
  go_ret
  exact ⟨⟨n, rfl⟩, rfl⟩
set_option maxRecDepth 100000 in
theorem tksort1 (p : Option Addr) (c : Nat) (f : Value) (w : World) : Calls Try.prog 31 #[.slice p 1 c, f] w fun e w' => e = .returned (.tuple #[]) ∧ w' = w := by
  have K := hid (tkbits w)
  have K2 := hid (fun l => tkpdq p c l f w)
  go_enter Try.func31, Try.ntmps31
  go_wp2_with fail
  refine K.out.mono ?_
  rintro e w1 ⟨⟨n, rfl⟩, hw⟩
  rw [hw]
  clear hw w1 K
  go_wp2_with fail
  refine (K2.out _).mono ?_
  rintro e w1 ⟨rfl, hw⟩
  rw [hw]
  clear hw w1 K2
  go_wp2
  go_end0
  exact ⟨rfl, rfl⟩
end Go.Proofs.Ytdepmoocjnmbeaa
