/-
  Package little: Num of an Out.
-/
import Derived.Test.YtpgibngohbohdaaLittlePut
namespace Go.Proofs.Ytpgibngohbohdaa
open Go.RowKit
set_option linter.unusedVariables false
set_option linter.unusedSimpArgs false

/-- What the walk asks of a number that fits in s octets. -/
theorem shr_zero (n s : Nat) (h : n < 256 ^ s) : ((n : Int) / 2 ^ (8 * s) != 0) = false := by
  have : (n : Int) / 2 ^ (8 * s) = ((n / 2 ^ (8 * s) : Nat) : Int) := by simp
  rw [this, show 2 ^ (8 * s) = (2 ^ 8) ^ s from Nat.pow_mul 2 8 s, Nat.div_eq_of_lt h]
  rfl
theorem shr_octet (n k : Nat) : ((UInt8.ofNat (n / 256 ^ k)).toNat : Int) = (n : Int) / 2 ^ (8 * k) % 256 := by
  have : (n : Int) / 2 ^ (8 * k) = ((n / 2 ^ (8 * k) : Nat) : Int) := by simp
  rw [this, byte_ofNat, show 2 ^ (8 * k) = (2 ^ 8) ^ k from Nat.pow_mul 2 8 k]
/-- The row, k octets in. -/
def numRow (l : List UInt8) (n s k : Nat) : List Value := Lib.byteCells (l ++ leB n k) ++ List.replicate (s - k) (.int .u8 0)
theorem numRow_zero (l : List UInt8) (n s : Nat) : numRow l n s 0 = Lib.byteCells l ++ List.replicate s (.int .u8 0) := by simp [numRow, leB]
theorem numRow_all (l : List UInt8) (n s : Nat) : numRow l n s s = Lib.byteCells (l ++ leB n s) := by simp [numRow]
theorem numRow_get (l : List UInt8) (n s k : Nat) (h : k < s) : (numRow l n s k)[l.length + k]? = some (.int .u8 0) := by
  have e : (Lib.byteCells (l ++ leB n k)).length = l.length + k := by rw [Lib.byteCells_length, List.length_append, leB_length]
  unfold numRow
  rw [List.getElem?_append_right (by rw [e]; exact Nat.le_refl _), e, Nat.sub_self, List.getElem?_replicate, if_pos (by omega)]
theorem numRow_set (l : List UInt8) (n s k : Nat) (h : k < s) : (numRow l n s k).set (l.length + k) (.int .u8 ((n : Int) / 2 ^ (8 * k) % 256)) = numRow l n s (k + 1) := by
  have e : (Lib.byteCells (l ++ leB n k)).length = l.length + k := by rw [Lib.byteCells_length, List.length_append, leB_length]
  unfold numRow
  rw [List.set_append_right _ _ (by rw [e]; exact Nat.le_refl _), e, Nat.sub_self, show s - k = (s - (k + 1)) + 1 by omega, List.replicate_succ, List.set_cons_zero, leB_snoc, ← List.append_assoc, Lib.byteCells_append _ [_], ← shr_octet]
  simp [Lib.byteCells]

set_option maxRecDepth 100000 in
set_option maxHeartbeats 4000000 in
theorem num_ok (n : Nat) (size : Int) (s : Nat) (hs : min (max size 1) 6 = s) (hn : n < 256 ^ s) (p : Nat) (a : Option Addr) (room : Int) (l : List UInt8) (w : World) (O : OutS w p a room l 0) (h0 : 0 ≤ room) (h1 : room ≤ 65536) (h : (l.length : Int) + s ≤ room) :
    Calls Try.prog 75 #[at' p, .int .i64 n, .int .i64 size] w fun e w' => e = .returned (.tuple #[]) ∧ ∃ a', OutS w' p a' room (l ++ leB n s) 0 ∧ Grew p a a' w w' := by
  obtain ⟨cap, B, O⟩ := O
  have KN := hid (fun w => nearest_any size 1 6 w)
  have K := hid (lend_ok s room a l.length cap (Lib.byteCells l) p w B O h0 h1 h (by omega))
  rw [hs] at KN
  have hsb : 1 ≤ s ∧ s ≤ 6 := by omega
  clear B O hs
  have u8 : IntKind.i64.wrap (8 * (s : Int)) = 8 * (s : Int) := IntWalk.i64_in _ (by omega)
  have g0 := shr_zero n s hn
  have hn0 : decide ((n : Int) < 0) = false := decide_eq_false (by omega)
  go_enter Try.func75, Try.ntmps75
  go_wp2_with fail
  refine (KN.out _).mono ?_
  rintro e w1 ⟨rfl, rfl⟩
  go_wp2_with fail
  refine K.out.mono ?_
  rintro e w2 ⟨g, cap', rfl, B1, O1, G1⟩
  have hcap := hid (show l.length + s ≤ cap' ∧ p + 1 ≤ g by
    obtain ⟨g', c', cur, hv, hbg, hg, hn', hc', hcs, htk⟩ := O1.2.resolve_left (fun x => by cases x.1)
    cases hv
    exact ⟨hn', hbg⟩)
  rw [← numRow_zero l n s] at O1
  have E := hid (And.intro B1 (And.intro O1 G1))
  clear B1 O1 G1 u8 g0 hn0 K
  go_wp2_with fail
  go_loopw [31] (fun i wx => ∃ k : Nat, k ≤ s ∧ i = .int .i64 (k : Int) ∧ Blk wx p (outC room (some ⟨g, 0, none⟩) (l.length + s) cap' 0) ∧ wx.ownsRow (p + 1) 5 1 (.slice (some ⟨g, 0, none⟩) (l.length + s) cap') (l.length + s) (numRow l n s k) ∧ Grew p a (some ⟨g, 0, none⟩) w1 wx) (fun i _ => s - (intOf i).toNat)
  case atStart => exact ⟨0, by omega, rfl, E.out⟩
  case round =>
    clear E
    obtain ⟨k, hk, rfl, B2, O2, G2⟩ := hrel
    by_cases hlt : k < s
    · have u : IntKind.i64.wrap (8 * (k : Int)) = 8 * (k : Int) := IntWalk.i64_in _ (by omega)
      obtain ⟨g', c', cur, hv, _, _, _, B3, _, hc3⟩ := own_blk O2 (by omega)
      cases hv
      have z : World.cell? (by assumption) ⟨g, l.length + k, none⟩ = some (.int .u8 0) := by
        rw [B3.cell, hc3 _ (by omega), numRow_get l n s k hlt]
      have f := B3.frz
      have lt := B3.lt
      have hne : p ≠ g := by have := hcap.out; omega
      have B4 := hid (B2.other ⟨g, l.length + k, none⟩ (Ne.symm hne) (.int .u8 ((n : Int) / 2 ^ (8 * k) % 256)))
      have O4 := own_set O2 (l.length + k) (.int .u8 ((n : Int) / 2 ^ (8 * k) % 256))
      rw [numRow_set l n s k hlt] at O4
      replace O4 := hid O4
      have G4 := hid (G2.trans (w2 := World.setCell _ ⟨g, l.length + k, none⟩ (.int .u8 ((n : Int) / 2 ^ (8 * k) % 256))) ⟨Sole.setCell _ _ (.inr ⟨_, rfl, rfl⟩), .inl rfl⟩)
      clear B2 O2 G2 B3 hc3
      go_wp2_with fail
      go_roundw
      case rel => exact ⟨k + 1, by omega, by go_num, B4.out, O4.out, G4.out⟩
      case measure => simp [intOf]; omega
    · obtain rfl : k = s := by omega
      have E := hid (show ∃ a', OutS _ p a' room (l ++ leB n k) 0 ∧ Grew p a a' w1 _ from ⟨some ⟨g, 0, none⟩, ⟨cap', by rw [List.length_append, leB_length]; exact B2, by rw [List.length_append, leB_length, ← numRow_all]; exact O2⟩, G2⟩)
      clear B2 O2 G2
      go_wp2
      go_end0
      exact ⟨rfl, E.out⟩
end Go.Proofs.Ytpgibngohbohdaa
