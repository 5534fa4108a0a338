/-
  The library's sorts of points, at none and at one: nothing is moved.
-/
import Derived.Test.YtghcfidmhabfhaaChecked
import Derived.Test.YtghcfidmhabfhaaBig
import Derived.Test.YtghcfidmhabfhaaAidMore
import Derived.Test.YtghcfidmhabfhaaRegion
import Derived.Lib.BufferMore
namespace Go.Proofs.Ytghcfidmhabfhaa
open Go.RowKit
set_option linter.unusedVariables false
set_option linter.unusedSimpArgs false

set_option maxRecDepth 100000 in
theorem kins (p : Option Addr) (c : Nat) (n : Nat) (hn : n ≤ 1) (f : Value) (w : World) : Calls Try.prog 113 #[.slice p n c, .int .i64 0, .int .i64 n, f] w fun e w' => e = .returned (.tuple #[]) ∧ w' = w := by
  have h1 : decide ((1 : Int) < (n : Int)) = false := decide_eq_false (by omega)
  go_enter Try.func113, Try.ntmps113
  go_wp2_with fail
  refine wp_loop_rounds 1 ?_
  rw [rounds_succ]
  go_wp2
  go_end0
  exact ⟨rfl, rfl⟩
set_option maxRecDepth 100000 in
theorem kstable (p : Option Addr) (c : Nat) (n : Nat) (hn : n ≤ 1) (f : Value) (w : World) : Calls Try.prog 93 #[.slice p n c, .int .i64 n, f] w fun e w' => e = .returned (.tuple #[]) ∧ w' = w := by
  have h1 : decide ((20 : Int) ≤ (n : Int)) = false := decide_eq_false (by omega)
  have h2 : decide ((20 : Int) < (n : Int)) = false := decide_eq_false (by omega)
  have K := hid (kins p c n hn f w)
  go_enter Try.func93, Try.ntmps93
  go_wp2_with fail
  refine wp_loop_rounds 1 ?_
  rw [rounds_succ]
  go_wp2_with fail
  refine K.out.mono ?_
  rintro e w1 ⟨rfl, hw⟩
  rw [hw]
  clear hw w1 K
  go_wp2_with fail
  refine wp_loop_rounds 1 ?_
  rw [rounds_succ]
  go_wp2
  go_end0
  exact ⟨rfl, rfl⟩
set_option maxRecDepth 100000 in
theorem ksortStable (p : Option Addr) (c : Nat) (n : Nat) (hn : n ≤ 1) (f : Value) (w : World) : Calls Try.prog 75 #[.slice p n c, f] w fun e w' => e = .returned (.tuple #[]) ∧ w' = w := by
  have K := hid (kstable p c n hn f w)
  go_enter Try.func75, Try.ntmps75
  go_wp2_with fail
  refine K.out.mono ?_
  rintro e w1 ⟨rfl, hw⟩
  rw [hw]
  clear hw w1 K
  go_wp2
  go_end0
  exact ⟨rfl, rfl⟩
set_option maxRecDepth 100000 in
theorem kcompact (p : Option Addr) (c : Nat) (n : Nat) (hn : n ≤ 1) (f : Value) (w : World) : Calls Try.prog 51 #[.slice p n c, f] w fun e w' => e = .returned (.slice p n c) ∧ w' = w := by
  have h1 : decide ((n : Int) < 2) = true := decide_eq_true (by omega)
  go_enter Try.func51, Try.ntmps51
  go_wp2
  go_ret
  exact ⟨rfl, rfl⟩
set_option maxRecDepth 100000 in
theorem kpdq (p : Option Addr) (c : Nat) (l : Int) (f : Value) (w : World) : Calls Try.prog 95 #[.slice p 1 c, .int .i64 0, .int .i64 1, .int .i64 l, f] w fun e w' => e = .returned (.tuple #[]) ∧ w' = w := by
  have K := hid (kins p c 1 (Nat.le_refl _) f w)
  go_enter Try.func95, Try.ntmps95
  go_wp2_with fail
  refine wp_loop_rounds 1 ?_
  rw [rounds_succ]
  go_wp2_with fail
  refine K.out.mono ?_
  rintro e w1 ⟨rfl, hw⟩
  rw [hw]
  clear hw w1 K
  go_wp2_with fail
  (try simp only [Exit.inBlock, Exit.then]); refine bodyPost_ret (results_none rfl _ _ _) rfl ?_
  exact ⟨rfl, rfl⟩
set_option maxRecDepth 100000 in
theorem kbits64 (w : World) : Calls Try.prog 112 #[.int .u64 1] w fun e w' => (∃ n : Int, e = .returned (.int .i64 n)) ∧ w' = w := by
  go_enter Try.func112, Try.ntmps112
  go_wp2
  go_ret
  exact ⟨⟨_, rfl⟩, rfl⟩
set_option maxRecDepth 100000 in
theorem kbits (w : World) : Calls Try.prog 90 #[.int .u64 1] w fun e w' => (∃ n : Int, e = .returned (.int .i64 n)) ∧ w' = w := by
  have K := hid (kbits64 w)
  go_enter Try.func90, Try.ntmps90
  go_wp2_with fail
  refine K.out.mono ?_
  rintro e w1 ⟨⟨n, rfl⟩, hw⟩
  rw [hw]
  clear hw w1 K
  go_wp2
  go_ret
  exact ⟨⟨n, rfl⟩, rfl⟩
set_option maxRecDepth 100000 in
theorem ksort1 (p : Option Addr) (c : Nat) (f : Value) (w : World) : Calls Try.prog 78 #[.slice p 1 c, f] w fun e w' => e = .returned (.tuple #[]) ∧ w' = w := by
  have K := hid (kbits w)
  have K2 := hid (fun l => kpdq p c l f w)
  go_enter Try.func78, Try.ntmps78
  go_wp2_with fail
  refine K.out.mono ?_
  rintro e w1 ⟨⟨n, rfl⟩, hw⟩
  rw [hw]
  clear hw w1 K
  go_wp2_with fail
  refine (K2.out _).mono ?_
  rintro e w1 ⟨rfl, hw⟩
  rw [hw]
  clear hw w1 K2
  go_wp2
  go_end0
  exact ⟨rfl, rfl⟩
set_option maxRecDepth 100000 in
theorem kclone_nil (w : World) : Calls Try.prog 69 #[.slice none 0 0] w fun e w' => e = .returned (.slice none 0 0) ∧ w' = w := by
  have kE := Lib.run_eql_slice_nil_nil (P := Try.prog) w (t := 49) (e := 102) 0 0 Try.underlying49
  go_enter Try.func69, Try.ntmps69
  go_wp2
  go_ret
  exact ⟨rfl, rfl⟩
set_option maxRecDepth 100000 in
theorem kpsort_nil (w : World) : Calls Try.prog 52 #[.slice none 0 0] w fun e w' => e = .returned (.slice none 0 0) ∧ w' = w := by
  have K := hid (kclone_nil w)
  have K2 := hid (fun f => ksortStable none 0 0 (Nat.zero_le _) f w)
  go_enter Try.func52, Try.ntmps52
  go_wp2_with fail
  refine K.out.mono ?_
  rintro e w1 ⟨rfl, hw⟩
  rw [hw]
  clear hw w1 K
  go_wp2_with fail
  refine (K2.out _).mono ?_
  rintro e w1 ⟨rfl, hw⟩
  rw [hw]
  clear hw w1 K2
  go_wp2
  go_ret
  exact ⟨rfl, rfl⟩
end Go.Proofs.Ytghcfidmhabfhaa
