/-
  Package little: Num of an Out, where it writes nothing.
-/
import Derived.Test.YtpgibngohbohdaaLittleNum
namespace Go.Proofs.Ytpgibngohbohdaa
open Go.RowKit
set_option linter.unusedVariables false
set_option linter.unusedSimpArgs false

theorem num_err (n size : Int) (p : Nat) (a : Option Addr) (room : Int) (l : List UInt8) (er : Int) (w : World) (O : OutS w p a room l er) (h : (er == 0) = false) :
    Calls Try.prog 75 #[at' p, .int .i64 n, .int .i64 size] w fun e w' => e = .returned (.tuple #[]) ∧ w' = w := by
  obtain ⟨cap, B, O⟩ := O
  have KN := hid (fun w => nearest_any size 1 6 w)
  have KF := hid (fail_later 4 room er a l.length cap p w B h)
  have KL := hid (fun size => lend_err size room er a l.length cap p w B h)
  obtain ⟨s, hs, hs1, hs6⟩ : ∃ s : Nat, min (max size 1) 6 = s ∧ 1 ≤ s ∧ s ≤ 6 := ⟨(min (max size 1) 6).toNat, by omega, by omega, by omega⟩
  rw [hs] at KN
  clear B O hs
  have u8 : IntKind.i64.wrap (8 * (s : Int)) = 8 * (s : Int) := IntWalk.i64_in _ (by omega)
  go_enter Try.func75, Try.ntmps75
  go_wp2_with fail
  refine (KN.out _).mono ?_
  rintro e w1 ⟨rfl, rfl⟩
  go_wp2_with fail
  all_goals
    ((first | refine KF.out.mono ?_ | refine (KL.out _).mono ?_); rintro e w2 ⟨rfl, rfl⟩)
    go_wp2
    (try simp only [Exit.inBlock, Exit.then])
    refine bodyPost_ret (results_none rfl _ _ _) rfl ?_
    exact ⟨rfl, rfl⟩
theorem shr_some (n : Int) (s : Nat) (h0 : 0 ≤ n) (h : (256 : Int) ^ s ≤ n) : (n / 2 ^ (8 * s) != 0) = true := by
  have e : (2 : Int) ^ (8 * s) = 256 ^ s := by rw [Int.pow_mul]; rfl
  rw [e]
  have hp : (0 : Int) < 256 ^ s := Int.pow_pos (by omega)
  have : 1 ≤ n / 256 ^ s := by
    apply Int.le_ediv_of_mul_le hp
    omega
  simp
  omega
theorem num_range (n size : Int) (s : Nat) (hs : min (max size 1) 6 = s) (hn : n < 0 ∨ (256 : Int) ^ s ≤ n) (p : Nat) (a : Option Addr) (room : Int) (l : List UInt8) (w : World) (O : OutS w p a room l 0) :
    Calls Try.prog 75 #[at' p, .int .i64 n, .int .i64 size] w fun e w' => e = .returned (.tuple #[]) ∧ w' = w.setCell ⟨p, 3, none⟩ (.int .i64 4) := by
  obtain ⟨cap, B, O⟩ := O
  have KN := hid (fun w => nearest_any size 1 6 w)
  have KF := hid (fail_first 4 room a l.length cap p w B)
  have hsb : 1 ≤ s ∧ s ≤ 6 := by omega
  rw [hs] at KN
  clear B O hs
  have u8 : IntKind.i64.wrap (8 * (s : Int)) = 8 * (s : Int) := IntWalk.i64_in _ (by omega)
  have ways : (n < 0) ∨ (decide (n < 0) = false ∧ (n / 2 ^ (8 * s) != 0) = true) := by
    by_cases h : n < 0
    · exact .inl h
    · exact .inr ⟨decide_eq_false h, shr_some n s (by omega) (hn.resolve_left h)⟩
  clear hn
  rcases ways with g | ⟨g1, g2⟩
  · go_enter Try.func75, Try.ntmps75
    go_wp2_with fail
    refine (KN.out _).mono ?_
    rintro e w1 ⟨rfl, rfl⟩
    go_wp2_with fail
    refine KF.out.mono ?_
    rintro e w2 ⟨rfl, rfl⟩
    go_wp2
    (try simp only [Exit.inBlock, Exit.then])
    refine bodyPost_ret (results_none rfl _ _ _) rfl ?_
    exact ⟨rfl, rfl⟩
  · go_enter Try.func75, Try.ntmps75
    go_wp2_with fail
    refine (KN.out _).mono ?_
    rintro e w1 ⟨rfl, rfl⟩
    go_wp2_with fail
    refine KF.out.mono ?_
    rintro e w2 ⟨rfl, rfl⟩
    go_wp2
    (try simp only [Exit.inBlock, Exit.then])
    refine bodyPost_ret (results_none rfl _ _ _) rfl ?_
    exact ⟨rfl, rfl⟩
theorem num_full (n : Nat) (size : Int) (s : Nat) (hs : min (max size 1) 6 = s) (hn : n < 256 ^ s) (p : Nat) (a : Option Addr) (room : Int) (l : List UInt8) (w : World) (O : OutS w p a room l 0) (h0 : 0 ≤ room) (h1 : room ≤ 65536) (hl : (l.length : Int) ≤ room) (h : room < (l.length : Int) + s) :
    Calls Try.prog 75 #[at' p, .int .i64 n, .int .i64 size] w fun e w' => e = .returned (.tuple #[]) ∧ w' = w.setCell ⟨p, 3, none⟩ (.int .i64 10) := by
  obtain ⟨cap, B, O⟩ := O
  have KN := hid (fun w => nearest_any size 1 6 w)
  have K := hid (lend_full s room a l.length cap p w B h0 h1 hl (by omega))
  rw [hs] at KN
  have hsb : 1 ≤ s ∧ s ≤ 6 := by omega
  clear B O hs
  have u8 : IntKind.i64.wrap (8 * (s : Int)) = 8 * (s : Int) := IntWalk.i64_in _ (by omega)
  have g0 := shr_zero n s hn
  have hn0 : decide ((n : Int) < 0) = false := decide_eq_false (by omega)
  go_enter Try.func75, Try.ntmps75
  go_wp2_with fail
  refine (KN.out _).mono ?_
  rintro e w1 ⟨rfl, rfl⟩
  go_wp2_with fail
  refine K.out.mono ?_
  rintro e w2 ⟨rfl, rfl⟩
  go_wp2
  (try simp only [Exit.inBlock, Exit.then])
  refine bodyPost_ret (results_none rfl _ _ _) rfl ?_
  exact ⟨rfl, rfl⟩
end Go.Proofs.Ytpgibngohbohdaa
