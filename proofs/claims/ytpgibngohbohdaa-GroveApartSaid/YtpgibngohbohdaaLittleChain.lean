/-
  Package little: an Out where all goes well, call by call; an In whose octets suffice.
-/
import Derived.Test.YtpgibngohbohdaaLittleStep
import Derived.Test.YtpgibngohbohdaaPointGetWalk
namespace Go.Proofs.Ytpgibngohbohdaa
open Go.RowKit
set_option linter.unusedVariables false
set_option linter.unusedSimpArgs false

/-- An Out that holds l, where all went well; below p the world is as w0 was. -/
def WS (w0 : World) (p : Nat) (room : Int) (w : World) (l : List UInt8) : Prop := ∃ a, OutS w p a room l 0 ∧ Below p w0 w

theorem WS.grew {w0 w w' : World} {p : Nat} {room : Int} {l l' : List UInt8} {a a' : Option Addr} (O : OutS w p a room l 0) (hb : Below p w0 w) (O' : OutS w' p a' room l' 0) (G : Grew p a a' w w') : WS w0 p room w' l' :=
  ⟨a', O', hb.trans (O.below G)⟩
theorem WS.more {w0 w w' : World} {p : Nat} {room : Int} {l : List UInt8} (h : WS w0 p room w l) (hb : Below w.heap.size w w') : WS w0 p room w' l := by
  obtain ⟨a, O, h0⟩ := h
  exact ⟨a, O.more hb, h0.trans (hb.mono (Nat.le_of_lt O.lt))⟩
theorem WS.below {w0 w : World} {p : Nat} {room : Int} {l : List UInt8} (h : WS w0 p room w l) : Below p w0 w := by
  obtain ⟨a, _, hb⟩ := h; exact hb
theorem WS.lt {w0 w : World} {p : Nat} {room : Int} {l : List UInt8} (h : WS w0 p room w l) : p < w.heap.size := by
  obtain ⟨a, O, _⟩ := h; exact O.lt
theorem ws_new (n : Int) (room : Int) (hr : min (max n 0) 65536 = room) (w : World) : Calls Try.prog 74 #[.int .i64 n] w fun e w' => e = .returned (at' w.heap.size) ∧ WS w w.heap.size room w' [] := by
  refine (new_any n w).mono ?_
  rintro e w' ⟨he, rfl⟩
  subst hr
  exact ⟨he, none, OutS.new _ _ _, (Below.refl _ _).alloc (Nat.le_refl _) _⟩
theorem ws_num {w0 w : World} {p : Nat} {room : Int} {l : List UInt8} (h : WS w0 p room w l) (h0 : 0 ≤ room) (h1 : room ≤ 65536) (N size : Int) (m : Nat) (hm : min (max size 1) 6 = m) (n0 : 0 ≤ N) (n1 : N < (256 : Int) ^ m) (hr : (l.length : Int) + m ≤ room) :
    Calls Try.prog 75 #[at' p, .int .i64 N, .int .i64 size] w fun en w' => en = .returned (.tuple #[]) ∧ WS w0 p room w' (l ++ leB N.toNat m) := by
  obtain ⟨a, O, hb⟩ := h
  refine (ow_num N size m hm p a room l (l ++ leB N.toNat m) 0 0 w O h0 h1 (by omega) (.inr (.inr (.inl ⟨rfl, by omega, hr, rfl, rfl⟩)))).mono ?_
  rintro en w' ⟨he, a', O', G⟩
  exact ⟨he, WS.grew O hb O' G⟩
theorem ws_text {w0 w : World} {p : Nat} {room : Int} {l : List UInt8} (h : WS w0 p room w l) (h0 : 0 ≤ room) (h1 : room ≤ 65536) (s : ByteArray) (hr : (l.length : Int) + s.size ≤ room) :
    Calls Try.prog 81 #[at' p, .string s] w fun en w' => en = .returned (.tuple #[]) ∧ WS w0 p room w' (l ++ s.data.toList) := by
  obtain ⟨a, O, hb⟩ := h
  refine (ow_text s p a room l (l ++ s.data.toList) 0 0 w O h0 h1 (by omega) (.inr (.inr (.inl ⟨rfl, fun h => h, by rw [size_list]; exact hr, rfl, rfl⟩)))).mono ?_
  rintro en w' ⟨he, a', O', G⟩
  exact ⟨he, WS.grew O hb O' G⟩
theorem ws_pad {w0 w : World} {p : Nat} {room : Int} {l : List UInt8} (h : WS w0 p room w l) (h0 : 0 ≤ room) (h1 : room ≤ 65536) (size : Int) (hr : size ≤ room) :
    Calls Try.prog 82 #[at' p, .int .i64 size] w fun en w' => en = .returned (.tuple #[]) ∧ WS w0 p room w' (l ++ List.replicate (size.toNat - l.length) 0) := by
  obtain ⟨a, O, hb⟩ := h
  refine (pad_ok size p a room l w O h0 h1 hr).mono ?_
  rintro en w' ⟨he, a', O', G⟩
  exact ⟨he, WS.grew O hb O' G⟩
theorem ws_point {w0 w : World} {p : Nat} {room : Int} {l : List UInt8} (h : WS w0 p room w l) (h0 : 0 ≤ room) (h1 : room ≤ 65536) (P : Pt) (hP : P.ok) (hM : P.may) (hr : (l.length : Int) + (pointB P).length ≤ room) :
    Calls Try.prog 129 #[at' p, pval P] w fun en w' => en = .returned (.tuple #[]) ∧ WS w0 p room w' (l ++ pointB P) := by
  obtain ⟨a, O, hb⟩ := h
  refine (point_put P hP p a room l 0 w O h0 h1 (by omega)).mono ?_
  rintro en w' ⟨he, a', l', e', O', G, _, hf⟩
  obtain ⟨rfl, rfl⟩ := hf ⟨rfl, hM, hr⟩
  exact ⟨he, WS.grew O hb O' G⟩
/-- Done hands out a row of its own. -/
theorem ws_done {w0 w : World} {p : Nat} {room : Int} {l : List UInt8} (h : WS w0 p room w l) (hl : l.length ≤ 140737488355328) :
    Calls Try.prog 76 #[at' p] w fun e w' => ∃ v, e = .returned (.tuple #[v, .int .i64 0]) ∧ Fresh w w' v l ∧ WS w0 p room w' l := by
  have h' := h
  obtain ⟨a, O, hb⟩ := h
  refine (done_ok p a room l w O hl).mono ?_
  rintro e w' ⟨v, he, F⟩
  have hF := F
  obtain ⟨_, _, _, _, hbF⟩ := F
  exact ⟨v, he, hF, h'.more hbF⟩

/-- Octets enough are left. -/
theorem rs_nums (size : Int) (n : Nat) (hn : min (max size 1) 6 = n) (p : Nat) (l : List UInt8) (w : World) (R : RS w p l false) (hl : n ≤ l.length) :
    Calls Try.prog 109 #[at' p, .int .i64 size] w fun e w' => e = .returned (.int .i64 (numOf (l.take n))) ∧ RS w' p (l.drop n) false ∧ Sole (fun k => k = p) w w' := by
  refine (rs_num size n hn p l false false (by rw [decide_eq_false (by omega)]; rfl) w R).mono ?_
  rintro e w' ⟨he, h⟩
  simpa using ⟨he, h⟩
theorem rs_texts (size : Int) (n : Nat) (hn : max size 0 = n) (p : Nat) (l : List UInt8) (w : World) (R : RS w p l false) (hl : n ≤ l.length) :
    Calls Try.prog 108 #[at' p, .int .i64 size] w fun e w' => e = .returned (.string (textOf (l.take n))) ∧ RS w' p (l.drop n) false ∧ Sole (fun k => k = p) w w' := by
  refine (rs_text size n hn p l false false (by rw [decide_eq_false (by omega)]; rfl) w R).mono ?_
  rintro e w' ⟨he, h⟩
  simpa using ⟨he, h⟩
theorem rs_open (l : List UInt8) (a : Option Addr) (cap : Nat) (w : World) (O : Octs w a l) (hl : l.length ≤ 140737488355328) :
    Calls Try.prog 107 #[.slice a l.length cap] w fun e w' => ∃ p, e = .returned (at' p) ∧ w.heap.size ≤ p ∧ RS w' p l false ∧ Below w.heap.size w w' := by
  refine (open_any l a cap w O hl).mono ?_
  rintro e w' ⟨p, he, hp, I, hb⟩
  exact ⟨p, he, hp, ⟨I, fun h => by cases h⟩, hb⟩
/-- A step of an In, seen from a world ahead of it. -/
theorem in_below {w0 w w' : World} {p : Nat} (h : Below w0.heap.size w0 w) (hp : w0.heap.size ≤ p) (S : Sole (fun k => k = p) w w') : Below w0.heap.size w0 w' :=
  h.trans (S.below h.size fun k hk => by omega)
end Go.Proofs.Ytpgibngohbohdaa
