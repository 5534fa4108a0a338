/-
  package pool: a pool's memory; Put, Take, Len.
-/
import Derived.Test.YtahdhgaoofpefaaSelect
import Derived.Conc.LoneSelectN
import Derived.Test.YtahdhgaoofpefaaIntRow
import Derived.WalkKit
import Derived.Deep.DeepCutAuto
namespace Go.Proofs.Ytahdhgaoofpefaa
open Go.RowKit Go.Conc
set_option linter.unusedVariables false
set_option linter.unusedSimpArgs false

/-- A channel of room for 32 that holds these numbers. -/
def ChanS (w : World) (c : Nat) (l : List Int) : Prop := ∃ s r, w.heap[c]? = some (.chan 32 (l.map (Value.int .i64)).toArray false s r false)
/-- A pool at p, its channel at c. -/
structure PoolS (w : World) (p c : Nat) (l : List Int) : Prop where
  box : Blk w p #[.chan (some c)]
  chan : ChanS w c l
  room : l.length ≤ 32
  apart : p ≠ c

theorem ChanS.lt {w : World} {c : Nat} {l : List Int} (h : ChanS w c l) : c < w.heap.size := by
  obtain ⟨s, r, h⟩ := h; exact (Array.getElem?_eq_some_iff.1 h).1
theorem PoolS.sole {S : Nat → Prop} {w w' : World} {p c : Nat} {l : List Int} (h : PoolS w p c l) (hs : Sole S w w') (h1 : ¬ S p) (h2 : ¬ S c) : PoolS w' p c l :=
  ⟨h.box.sole hs h1, (by obtain ⟨s, r, e⟩ := h.chan; exact ⟨s, r, (hs.block c h.chan.lt h2).trans e⟩), h.room, h.apart⟩
theorem PoolS.more {w w' : World} {p c : Nat} {l : List Int} (h : PoolS w p c l) (hb : Below w.heap.size w w') : PoolS w' p c l :=
  h.sole (Sole.made (S := fun _ => False) hb) (fun x => x) (fun x => x)
theorem sole_chan {w : World} {c cap : Nat} {buf : Array Value} {cl : Bool} {s r : Nat} {tm : Bool} : Sole (fun k => k = c) w (w.setChan c cap buf cl s r tm) :=
  ⟨rfl, rfl, rfl, by simp [World.setChan], fun k hk hn => by simp only [World.setChan]; rw [Array.getElem?_setIfInBounds_ne (fun e => hn e.symm)]⟩
theorem PoolS.turn {w : World} {p c : Nat} {l : List Int} (h : PoolS w p c l) (m : List Int) (hm : m.length ≤ 32) (s r : Nat) : PoolS (w.setChan c 32 (m.map (Value.int .i64)).toArray false s r false) p c m :=
  ⟨h.box.sole sole_chan (fun e => h.apart e), ⟨s, r, heap_setChan w c _ _ _ _ _ _ h.chan.lt⟩, hm, h.apart⟩

section
variable {P : Program} {w : World} {c s r : Nat} {l : List Int} {x : Int}
theorem select_recv (hc : w.heap[c]? = some (.chan 32 ((x :: l).map (Value.int .i64)).toArray false s r false)) (fr : Frame) (cs : List Frame) (es : Array Event) (h : stepG P true (G fr cs) w = .comm (G fr cs) #[rcase c (.int .i64 0)] false .select w es) :
    step P (solo (G fr cs) w) = .next (solo (G (fr.finish (.tuple #[.int .i64 0, .bool true, .int .i64 x])) cs) (w.setChan c 32 (l.map (Value.int .i64)).toArray false s (r + 1) false)) := by
  have := step_lone_select_recv_buf h hc (by simp)
  have e : List.take l.length (l.map (Value.int .i64)) = l.map (Value.int .i64) := List.take_of_length_le (by simp)
  simpa [goInt, e] using this
theorem select_none (hc : w.heap[c]? = some (.chan 32 (([] : List Int).map (Value.int .i64)).toArray false s r false)) (fr : Frame) (cs : List Frame) (es : Array Event) (h : stepG P true (G fr cs) w = .comm (G fr cs) #[rcase c (.int .i64 0)] false .select w es) :
    step P (solo (G fr cs) w) = .next (solo (G (fr.finish (.tuple #[.int .i64 (-1), .bool false, .int .i64 0])) cs) w) := by
  have := step_lone_select_default h hc
  simpa [goInt] using this
theorem select_send (hc : w.heap[c]? = some (.chan 32 (l.map (Value.int .i64)).toArray false s r false)) (hl : l.length < 32) (fr : Frame) (cs : List Frame) (es : Array Event) (h : stepG P true (G fr cs) w = .comm (G fr cs) #[scase c (.int .i64 x) (.int .i64 0)] false .select w es) :
    step P (solo (G fr cs) w) = .next (solo (G (fr.finish (.tuple #[.int .i64 0, .bool false])) cs) (w.setChan c 32 ((l ++ [x]).map (Value.int .i64)).toArray false (s + 1) r false)) := by
  have := step_lone_select_send_room h hc (by simpa using hl)
  simpa [goInt] using this
theorem select_full (hc : w.heap[c]? = some (.chan 32 (l.map (Value.int .i64)).toArray false s r false)) (hl : ¬ l.length < 32) (fr : Frame) (cs : List Frame) (es : Array Event) (h : stepG P true (G fr cs) w = .comm (G fr cs) #[scase c (.int .i64 x) (.int .i64 0)] false .select w es) :
    step P (solo (G fr cs) w) = .next (solo (G (fr.finish (.tuple #[.int .i64 (-1), .bool false])) cs) w) := by
  have := step_lone_select_send_full h hc (by simp; omega)
  simpa [goInt] using this
end

set_option maxRecDepth 100000 in
theorem put_any (p c : Nat) (l : List Int) (n : Int) (w : World) (H : PoolS w p c l) :
    Calls Try.prog 12 #[.pointer (some ⟨p, 0, none⟩), .int .i64 n] w fun e w' => e = .returned (.bool (decide (l.length < 32))) ∧ PoolS w' p c (if l.length < 32 then l ++ [n] else l) ∧ Sole (fun k => k = c) w w' := by
  obtain ⟨lb, kb, fb⟩ := H.box
  obtain ⟨s, r, hc⟩ := H.chan
  by_cases hl : l.length < 32
  · rw [if_pos hl, decide_eq_true hl]
    go_enter Try.func12, Try.ntmps12
    go_upto_region 5 with (fail)
    refine wp_region_comm rfl rfl (cases := #[scase c (.int .i64 n) (.int .i64 0)]) (blocking := false) (shape := .select) (by simp [go_sem, execOp, scase, Act.eval]) (select_send hc hl) ?_
    have HT := hid (H.turn (l ++ [n]) (by simp; omega) (s + 1) r)
    have HS := hid (sole_chan (w := w) (c := c) (cap := 32) (buf := ((l ++ [n]).map (Value.int .i64)).toArray) (cl := false) (s := s + 1) (r := r) (tm := false))
    generalize w.setChan c 32 ((l ++ [n]).map (Value.int .i64)).toArray false (s + 1) r false = W at *
    clear hc kb fb
    go_wp2_with fail
    go_ret
    exact ⟨rfl, HT.out, HS.out⟩
  · rw [if_neg hl, decide_eq_false hl]
    go_enter Try.func12, Try.ntmps12
    go_upto_region 5 with (fail)
    refine wp_region_comm rfl rfl (cases := #[scase c (.int .i64 n) (.int .i64 0)]) (blocking := false) (shape := .select) (by simp [go_sem, execOp, scase, Act.eval]) (select_full hc hl) ?_
    have HT := hid H
    clear hc kb fb H
    go_wp2_with fail
    go_ret
    exact ⟨rfl, HT.out, Sole.refl _ _⟩

set_option maxRecDepth 100000 in
theorem take_any (p c : Nat) (l : List Int) (w : World) (H : PoolS w p c l) :
    Calls Try.prog 13 #[.pointer (some ⟨p, 0, none⟩)] w fun e w' => e = .returned (.tuple #[.int .i64 (l.headD 0), .bool (decide (0 < l.length))]) ∧ PoolS w' p c l.tail ∧ Sole (fun k => k = c) w w' := by
  obtain ⟨lb, kb, fb⟩ := H.box
  obtain ⟨s, r, hc⟩ := H.chan
  have hroom := H.room
  cases l with
  | nil =>
    go_enter Try.func13, Try.ntmps13
    go_upto_region 4 with (fail)
    refine wp_region_comm rfl rfl (cases := #[rcase c (.int .i64 0)]) (blocking := false) (shape := .select) (by simp [go_sem, execOp, rcase, Act.eval]) (select_none hc) ?_
    have HT := hid H
    clear hc kb fb H
    go_wp2_with fail
    go_ret2
    exact ⟨rfl, HT.out, Sole.refl _ _⟩
  | cons x l =>
    go_enter Try.func13, Try.ntmps13
    go_upto_region 4 with (fail)
    refine wp_region_comm rfl rfl (cases := #[rcase c (.int .i64 0)]) (blocking := false) (shape := .select) (by simp [go_sem, execOp, rcase, Act.eval]) (select_recv hc) ?_
    have HT := hid (H.turn l (by simp at hroom; omega) s (r + 1))
    have HS := hid (sole_chan (w := w) (c := c) (cap := 32) (buf := (l.map (Value.int .i64)).toArray) (cl := false) (s := s) (r := r + 1) (tm := false))
    generalize w.setChan c 32 (l.map (Value.int .i64)).toArray false s (r + 1) false = W at *
    clear hc kb fb hroom H
    go_wp2_with fail
    go_ret2
    exact ⟨by simp, HT.out, HS.out⟩

set_option maxRecDepth 100000 in
theorem len_any (p c : Nat) (l : List Int) (w : World) (H : PoolS w p c l) :
    Calls Try.prog 17 #[.pointer (some ⟨p, 0, none⟩)] w fun e w' => e = .returned (.int .i64 l.length) ∧ w' = w := by
  obtain ⟨lb, kb, fb⟩ := H.box
  obtain ⟨s, r, hc⟩ := H.chan
  have hL := run_len_chan (P := Try.prog) 37 3 Try.underlying37 hc
  simp only [List.size_toArray, List.length_map] at hL
  go_enter Try.func17, Try.ntmps17
  go_wp2_with fail
  go_ret
  exact ⟨rfl, rfl⟩
end Go.Proofs.Ytahdhgaoofpefaa
