/-
  package pool: New, Clone; of a pool that nobody made.
-/
import Derived.Test.YtahdhgaoofpefaaPoolAll
namespace Go.Proofs.Ytahdhgaoofpefaa
open Go.RowKit Go.Conc
set_option linter.unusedVariables false
set_option linter.unusedSimpArgs false

theorem chan_new (w : World) : ChanS (w.alloc (.chan 32 #[] false 0 0 false)) w.heap.size [] := ⟨0, 0, heap_alloc_new w _⟩

@[go_sem high] theorem make_chan (w : World) : (Instr.makeChan 37 (.int .i64 32)).run Try.prog w = .ok (.chan (some w.heap.size)) (w.alloc (.chan 32 #[] false 0 0 false)) := by
  obtain ⟨i0, hi, hz0, hz1, hz2⟩ := info_parts intTab
  simpa using run_makeChan (P := Try.prog) (w := w) Try.underlying37 hi .i64 32 (by omega) (by rw [hz2]; omega)

@[go_sem high] theorem eql_chan (c : Nat) (w : World) : (binOp .eql 37 (.chan (some c)) (.chan none)).run Try.prog w = .ok (.bool false) w := by
  have h : ∀ d : Nat, (Op.equalIn (d + 1) 37 (.chan (some c)) (.chan none)).run Try.prog w = .ok false w := fun d => by
    simp [Op.equalIn, run_underlying Try.underlying37]
  simp only [binOp]
  simp [Op.equal, Op.maxDepth, h 9999]
@[go_sem high] theorem eql_chan_nil (w : World) : (binOp .eql 37 (.chan none) (.chan none)).run Try.prog w = .ok (.bool true) w := by
  have h : ∀ d : Nat, (Op.equalIn (d + 1) 37 (.chan none) (.chan none)).run Try.prog w = .ok true w := fun d => by
    simp [Op.equalIn, run_underlying Try.underlying37]
  simp only [binOp]
  simp [Op.equal, Op.maxDepth, h 9999]

theorem put_step (l : List Int) (k : Nat) (hk : k < l.length) : (if (l.take (min k 32)).length < 32 then l.take (min k 32) ++ [l.getD k 0] else l.take (min k 32)) = l.take (min (k + 1) 32) := by
  have hlen : (l.take (min k 32)).length = min k 32 := by rw [List.length_take]; omega
  rw [hlen]
  by_cases h : min k 32 < 32
  · rw [if_pos h, show min k 32 = k by omega, take_snoc l k hk, show min (k + 1) 32 = k + 1 by omega]
  · rw [if_neg h, show min (k + 1) 32 = min k 32 by omega]

set_option maxRecDepth 100000 in
set_option maxHeartbeats 4000000 in
theorem new_any (a : Option Addr) (cap : Nat) (l : List Int) (h1 : l.length ≤ cap) (h2 : cap ≤ maxLen) (w : World) (R : RowP w a 1 l.length (fun i => [.int .i64 (l.getD i 0)])) :
    Calls Try.prog 11 #[.slice a l.length cap] w fun e w' => ∃ p c, e = .returned (.pointer (some ⟨p, 0, none⟩)) ∧ w.heap.size ≤ p ∧ w.heap.size ≤ c ∧ PoolS w' p c (l.take 32) ∧ Below w.heap.size w w' := by
  have Rh := hid R
  have h12 := hid (And.intro h1 h2)
  clear R h1 h2
  go_enter Try.func11, Try.ntmps11
  go_wp2_with fail
  have P2 : PoolS ((w.alloc (.chan 32 #[] false 0 0 false)).alloc (.cells #[.chan (some w.heap.size)] 39)) (w.heap.size + 1) w.heap.size [] := by
    have hb := Blk.new (w.alloc (.chan 32 #[] false 0 0 false)) #[.chan (some w.heap.size)] 39
    simp only [World.size_alloc] at hb
    exact ⟨hb, ⟨0, 0, (Below.heap_alloc _ _ _ (by simp)).trans (heap_alloc_new w _)⟩, by simp, by omega⟩
  have hb2 : Below w.heap.size w ((w.alloc (.chan 32 #[] false 0 0 false)).alloc (.cells #[.chan (some w.heap.size)] 39)) := ((Below.refl _ w).alloc (Nat.le_refl _) _).alloc (by simp) _
  generalize (w.alloc (.chan 32 #[] false 0 0 false)).alloc (.cells #[.chan (some w.heap.size)] 39) = W at *
  have P2h := hid P2
  have hb2h := hid hb2
  have hl63 : (l.length : Int) ≤ 9223372036854775807 := by have := h12.out.1; have := h12.out.2; unfold maxLen at this; omega
  clear P2 hb2
  go_loopw [11] (fun i wr => ∃ k : Nat, k ≤ l.length ∧ i = .int .i64 (k : Int) ∧ PoolS wr (w.heap.size + 1) w.heap.size (l.take (min k 32)) ∧ Sole (fun k => k = w.heap.size) W wr) (fun i _ => l.length - (intOf i).toNat)
  case atStart => exact ⟨0, by omega, rfl, by simpa using P2h.out, Sole.refl _ _⟩
  case round =>
    obtain ⟨k, hk, rfl, HP, HS⟩ := hrel
    have HPh := hid HP
    have HSh := hid HS
    by_cases hlt : k < l.length
    · have KP := hid (put_any (w.heap.size + 1) w.heap.size (l.take (min k 32)) (l.getD k 0) wr HP)
      rw [put_step l k hlt] at KP
      obtain ⟨b, o, rfl, R4⟩ := Rh.out.row (by omega)
      have z0 : wr.cell? ⟨b, o + k, none⟩ = some (.int .i64 (l.getD k 0)) := by
        have h := R4.at0 hlt (v := .int .i64 (l.getD k 0)) rfl
        rw [Nat.mul_one] at h
        have hbw := R4.lt
        exact (HS.cell (Nat.lt_of_lt_of_le hbw hb2h.out.size) (by omega)).trans ((hb2h.out.cell (p := ⟨b, o + k, none⟩) hbw).trans h)
      have hlt' : (k : Int) < (l.length : Int) := by omega
      generalize l.getD k 0 = x at *
      clear HP HS R4
      go_wp2_with fail
      refine KP.out.mono ?_
      rintro e w4 ⟨rfl, P4, S4⟩
      have P4h := hid P4
      have S4h := hid (HSh.out.trans S4)
      clear P4 S4 KP z0 HPh
      go_wp2_with fail
      go_roundw
      case rel => exact ⟨k + 1, hlt, by go_num, P4h.out, S4h.out⟩
      case measure => simp [intOf]; omega
    · obtain rfl : k = l.length := by omega
      clear HP HS
      go_wp2_with fail
      go_ret
      refine ⟨_, _, rfl, Nat.le_succ _, Nat.le_refl _, ?_, hb2h.out.trans (HSh.out.below hb2h.out.size (fun k hk => by omega))⟩
      have e : l.take (min l.length 32) = l.take 32 := by
        rcases Nat.lt_or_ge l.length 32 with h | h
        · rw [show min l.length 32 = l.length by omega, List.take_length, List.take_of_length_le (by omega)]
        · rw [show min l.length 32 = 32 by omega]
      rw [← e]
      exact HPh.out

set_option maxRecDepth 100000 in
theorem clone_any (p c : Nat) (l : List Int) (w : World) (H : PoolS w p c l) :
    Calls Try.prog 14 #[.pointer (some ⟨p, 0, none⟩)] w fun e w' => ∃ p' c', e = .returned (.pointer (some ⟨p', 0, none⟩)) ∧ w.heap.size ≤ p' ∧ w.heap.size ≤ c' ∧ PoolS w' p' c' l ∧ PoolS w' p c l ∧ Sole (fun k => k = c) w w' := by
  have KA := hid (all_any p c l w H)
  obtain ⟨lb, kb, fb⟩ := H.box
  have hroom := hid H.room
  clear H
  go_enter Try.func14, Try.ntmps14
  go_wp2_with fail
  refine KA.out.mono ?_
  rintro e w1 ⟨v, rfl, O1, P1, S1⟩
  have P1h := hid P1
  have S1h := hid S1
  obtain ⟨q, cc, rfl, c1, c2, R⟩ := O1.open
  have KN := hid (new_any q cc l c1 c2 w1 R)
  rw [List.take_of_length_le hroom.out] at KN
  clear O1 P1 S1 R KA kb fb
  go_wp2_with fail
  refine KN.out.mono ?_
  rintro e w2 ⟨p', c', rfl, hp, hc, P2, hb⟩
  have P2h := hid P2
  have hbh := hid hb
  clear P2 hb KN
  go_wp2_with fail
  go_ret
  have hs := S1h.out.size
  exact ⟨p', c', rfl, by omega, by omega, P2h.out, P1h.out.more hbh.out, S1h.out.trans (Sole.made hbh.out)⟩
end Go.Proofs.Ytahdhgaoofpefaa
