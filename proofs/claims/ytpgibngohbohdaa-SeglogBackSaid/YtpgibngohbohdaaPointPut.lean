/-
  Package point: which may be; a point's octets.
-/
import Derived.Test.YtpgibngohbohdaaLittleStep
import Derived.Test.YtpgibngohbohdaaSlices
namespace Go.Proofs.Ytpgibngohbohdaa
open Go.RowKit
set_option linter.unusedVariables false
set_option linter.unusedSimpArgs false

/-- Some step there is; where all is well it is the octets. -/
theorem step_some (room : Int) (l : List UInt8) (e : Int) (bad : Prop) (m : Int) (nl : List UInt8) (hl : (l.length : Int) ≤ room) (hm : (nl.length : Int) = m) :
    ∃ l' e', Step room l e bad m nl l' e' ∧ (l'.length : Int) ≤ room ∧ (e = 0 → ¬ bad → (l.length : Int) + m ≤ room → l' = l ++ nl ∧ e' = 0) := by
  by_cases h0 : e = 0
  · by_cases hb : bad
    · exact ⟨l, 4, .inr (.inl ⟨h0, hb, rfl, rfl⟩), hl, fun _ h _ => absurd hb h⟩
    · by_cases hr : (l.length : Int) + m ≤ room
      · exact ⟨l ++ nl, 0, .inr (.inr (.inl ⟨h0, hb, hr, rfl, rfl⟩)), by rw [List.length_append]; omega, fun _ _ _ => ⟨rfl, rfl⟩⟩
      · exact ⟨l, 10, .inr (.inr (.inr ⟨h0, hb, by omega, rfl, rfl⟩)), hl, fun _ _ h => absurd h hr⟩
  · exact ⟨l, e, .inl ⟨by simpa using h0, rfl, rfl⟩, hl, fun h => absurd h h0⟩

/-- A point's octets. -/
def pointB (P : Pt) : List UInt8 := leB P.id.toNat 4 ++ leB P.x.toNat 4 ++ leB P.y.toNat 4 ++ leB P.d.size 1 ++ P.d.data.toList
theorem pointB_length (P : Pt) : (pointB P).length = 13 + P.d.size := by
  simp only [pointB, List.length_append, leB_length, size_list]
/-- May a point be? -/
def Pt.may (P : Pt) : Prop := 1 ≤ P.id ∧ P.id < 2147483648 ∧ P.d.size ≤ 16

/-- One call more of an Out: its state, and what is known where all went well. -/
def OutK (w0 w : World) (p : Nat) (a : Option Addr) (room : Int) (fine : Prop) (l : List UInt8) : Prop :=
  ∃ a' l' e', OutS w p a' room l' e' ∧ Grew p a a' w0 w ∧ (l'.length : Int) ≤ room ∧ (fine → l' = l ∧ e' = 0)

theorem outk_num {w0 w : World} {p : Nat} {a : Option Addr} {room : Int} {fine : Prop} {l : List UInt8} (h : OutK w0 w p a room fine l) (h0 : 0 ≤ room) (h1 : room ≤ 65536) (N size : Int) (m : Nat) (hm : min (max size 1) 6 = m) :
    Calls Try.prog 75 #[at' p, .int .i64 N, .int .i64 size] w fun en w' => en = .returned (.tuple #[]) ∧ OutK w0 w' p a room (fine ∧ 0 ≤ N ∧ N < (256 : Int) ^ m ∧ (l.length : Int) + m ≤ room) (l ++ leB N.toNat m) := by
  obtain ⟨a1, l1, e1, O, G, hl, hf⟩ := h
  obtain ⟨l2, e2, S, hl2, hs⟩ := step_some room l1 e1 (N < 0 ∨ (256 : Int) ^ m ≤ N) m (leB N.toNat m) hl (by rw [leB_length])
  refine (ow_num N size m hm p a1 room l1 l2 e1 e2 w O h0 h1 hl S).mono ?_
  rintro en w' ⟨he, a2, O2, G2⟩
  refine ⟨he, a2, l2, e2, O2, G.trans G2, hl2, ?_⟩
  rintro ⟨hfine, hn0, hn1, hr⟩
  obtain ⟨rfl, rfl⟩ := hf hfine
  exact hs rfl (fun h => by rcases h with h | h <;> omega) hr
theorem outk_text {w0 w : World} {p : Nat} {a : Option Addr} {room : Int} {fine : Prop} {l : List UInt8} (h : OutK w0 w p a room fine l) (h0 : 0 ≤ room) (h1 : room ≤ 65536) (s : ByteArray) :
    Calls Try.prog 81 #[at' p, .string s] w fun en w' => en = .returned (.tuple #[]) ∧ OutK w0 w' p a room (fine ∧ (l.length : Int) + s.size ≤ room) (l ++ s.data.toList) := by
  obtain ⟨a1, l1, e1, O, G, hl, hf⟩ := h
  obtain ⟨l2, e2, S, hl2, hs⟩ := step_some room l1 e1 False s.data.toList.length s.data.toList hl rfl
  refine (ow_text s p a1 room l1 l2 e1 e2 w O h0 h1 hl S).mono ?_
  rintro en w' ⟨he, a2, O2, G2⟩
  refine ⟨he, a2, l2, e2, O2, G.trans G2, hl2, ?_⟩
  rintro ⟨hfine, hr⟩
  obtain ⟨rfl, rfl⟩ := hf hfine
  rw [← size_list] at hr
  exact hs rfl (fun h => h) hr
theorem OutK.more {w0 w w' : World} {p : Nat} {a : Option Addr} {room : Int} {fine : Prop} {l : List UInt8} (h : OutK w0 w p a room fine l) (hb : Below w.heap.size w w') : OutK w0 w' p a room fine l := by
  obtain ⟨a1, l1, e1, O, G, hl, hf⟩ := h
  exact ⟨a1, l1, e1, O.more hb, G.trans ⟨Sole.made hb, .inl rfl⟩, hl, hf⟩
theorem OutK.imp {w0 w : World} {p : Nat} {a : Option Addr} {room : Int} {fine fine' : Prop} {l l' : List UInt8} (h : OutK w0 w p a room fine l) (hf : fine' → fine) (hl : fine' → l = l') : OutK w0 w p a room fine' l' := by
  obtain ⟨a1, l1, e1, O, G, hle, hf'⟩ := h
  exact ⟨a1, l1, e1, O, G, hle, fun x => ⟨(hf' (hf x)).1.trans (hl x), (hf' (hf x)).2⟩⟩
theorem OutK.sole {w0 w : World} {p : Nat} {a : Option Addr} {room : Int} {fine : Prop} {l : List UInt8} (h : OutK w0 w p a room fine l) : Sole (Mine p a) w0 w := by
  obtain ⟨_, _, _, _, G, _, _⟩ := h; exact G.sole
theorem OutK.mine {w0 w : World} {p : Nat} {a : Option Addr} {room : Int} {fine : Prop} {l : List UInt8} (h : OutK w0 w p a room fine l) {l0 : List UInt8} {e0 : Int} (O : OutS w0 p a room l0 e0) {k : Nat} (hk : Mine p a k) : k < w0.heap.size := (O.mine hk).2

theorem OutK.begin {w0 w1 w : World} {p : Nat} {a : Option Addr} {room : Int} {fine : Prop} {l : List UInt8} (hb : Below w0.heap.size w0 w1) (h : OutK w1 w p a room fine l) : OutK w0 w p a room fine l := by
  obtain ⟨a1, l1, e1, O, G, hle, hf⟩ := h
  exact ⟨a1, l1, e1, O, Grew.trans ⟨Sole.made hb, .inl rfl⟩ G, hle, hf⟩
/-- A block beside the Out. -/
theorem OutK.blk {w0 w : World} {p g : Nat} {a : Option Addr} {room : Int} {fine : Prop} {l : List UInt8} {c : Array Value} (h : OutK w0 w p a room fine l) (hB : Blk w0 g c) (hg : ¬ Mine p a g) : Blk w g c := hB.sole h.sole hg

set_option maxRecDepth 100000 in
set_option maxHeartbeats 2000000 in
theorem point_put (P : Pt) (hP : P.ok) (p : Nat) (a : Option Addr) (room : Int) (l : List UInt8) (e : Int) (w : World) (O : OutS w p a room l e) (h0 : 0 ≤ room) (h1 : room ≤ 65536) (hl : (l.length : Int) ≤ room) :
    Calls Try.prog 129 #[at' p, pval P] w fun en w' => en = .returned (.tuple #[]) ∧ OutK w w' p a room (e = 0 ∧ P.may ∧ (l.length : Int) + (pointB P).length ≤ room) (l ++ pointB P) := by
  obtain ⟨W0, hW0⟩ : ∃ W0, w.alloc (.cells #[.int .i64 P.id, .int .u32 P.x, .int .u32 P.y, .string P.d] 75) = W0 := ⟨_, rfl⟩
  have hb0 : Below w.heap.size w W0 := by rw [← hW0]; exact (Below.refl _ _).alloc (Nat.le_refl _) _
  have O0 : OutK W0 W0 p a room (e = 0) l := ⟨a, l, e, O.more hb0, Grew.refl _ _ _, hl, fun h => ⟨rfl, h⟩⟩
  have BX : Blk W0 w.heap.size #[.int .i64 P.id, .int .u32 P.x, .int .u32 P.y, .string P.d] := by rw [← hW0]; exact Blk.new w _ _
  have hg : ¬ Mine p a w.heap.size := fun hk => by have := (O.mine hk).2; omega
  have HE : Hid (∀ w', OutK W0 w' p a room (((((e = 0 ∧ 0 ≤ P.id ∧ P.id < (256 : Int) ^ 4 ∧ (l.length : Int) + (4 : Nat) ≤ room) ∧ 0 ≤ P.x ∧ P.x < (256 : Int) ^ 4 ∧ ((l ++ leB P.id.toNat 4).length : Int) + (4 : Nat) ≤ room) ∧ 0 ≤ P.y ∧ P.y < (256 : Int) ^ 4 ∧ ((l ++ leB P.id.toNat 4 ++ leB P.x.toNat 4).length : Int) + (4 : Nat) ≤ room) ∧ 0 ≤ (P.d.size : Int) ∧ (P.d.size : Int) < (256 : Int) ^ 1 ∧ ((l ++ leB P.id.toNat 4 ++ leB P.x.toNat 4 ++ leB P.y.toNat 4).length : Int) + (1 : Nat) ≤ room) ∧
      ((l ++ leB P.id.toNat 4 ++ leB P.x.toNat 4 ++ leB P.y.toNat 4 ++ leB (P.d.size : Int).toNat 1).length : Int) + P.d.size ≤ room) (l ++ leB P.id.toNat 4 ++ leB P.x.toNat 4 ++ leB P.y.toNat 4 ++ leB (P.d.size : Int).toNat 1 ++ P.d.data.toList) →
      OutK w w' p a room (e = 0 ∧ P.may ∧ (l.length : Int) + (pointB P).length ≤ room) (l ++ pointB P)) := hid (by
    intro w' K
    refine (K.begin hb0).imp ?_ ?_
    · rintro ⟨he, ⟨m1, m2, m3⟩, hr⟩
      rw [pointB_length] at hr
      obtain ⟨_, _, x1, x2, y1, y2, _⟩ := hP
      simp only [List.length_append, leB_length]
      refine ⟨⟨⟨⟨⟨he, by omega, by omega, by omega⟩, x1, by omega, by omega⟩, y1, by omega, by omega⟩, by omega, by omega, by omega⟩, by omega⟩
    · intro _
      simp [pointB, List.append_assoc])
  obtain ⟨i1, i2, x1, x2, y1, y2, d1⟩ := hP
  have sz : (P.d.size : Int) ≤ 9223372036854775807 := by unfold maxLen at d1; omega
  have K1 := outk_num O0 h0 h1 P.id 4 4 rfl
  have HBX := hid BX
  have HNG := hid hg
  rw [← hW0] at K1
  replace K1 := hid K1
  replace hW0 := hid hW0
  clear O O0 hb0 d1 BX hg
  go_enter Try.func129, Try.ntmps129
  go_wp2_with fail
  refine K1.out.mono ?_
  rintro en w1 ⟨rfl, O1⟩
  rw [hW0.out] at O1
  generalize w.heap.size = g at *
  have B1 := O1.blk HBX.out HNG.out
  have K2 := hid (outk_num O1 h0 h1 P.x 4 4 rfl)
  replace O1 := hid O1
  obtain ⟨lx, kx, fx⟩ := B1
  clear O1 K1
  go_wp2_with fail
  refine K2.out.mono ?_
  rintro en w2 ⟨rfl, O2⟩
  have B2 := O2.blk HBX.out HNG.out
  have K3 := hid (outk_num O2 h0 h1 P.y 4 4 rfl)
  clear O2 K2 lx kx fx
  obtain ⟨lx, kx, fx⟩ := B2
  go_wp2_with fail
  refine K3.out.mono ?_
  rintro en w3 ⟨rfl, O3⟩
  have B3 := O3.blk HBX.out HNG.out
  have K4 := hid (outk_num O3 h0 h1 P.d.size 1 1 rfl)
  clear O3 K3 lx kx fx
  obtain ⟨lx, kx, fx⟩ := B3
  go_wp2_with fail
  refine K4.out.mono ?_
  rintro en w4 ⟨rfl, O4⟩
  have B4 := O4.blk HBX.out HNG.out
  have K5 := hid (outk_text O4 h0 h1 P.d)
  clear O4 K4 lx kx fx
  obtain ⟨lx, kx, fx⟩ := B4
  go_wp2_with fail
  refine K5.out.mono ?_
  rintro en w5 ⟨rfl, O5⟩
  have E := hid (HE.out w5 O5)
  clear O5 K5 HE
  go_wp2
  go_end0
  exact ⟨rfl, E.out⟩
end Go.Proofs.Ytpgibngohbohdaa
