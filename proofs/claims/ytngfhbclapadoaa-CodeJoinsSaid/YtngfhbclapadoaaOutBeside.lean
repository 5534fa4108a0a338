/-
  Package little: an Out where all goes well, and a block that is none of its own, call by call.
-/
import Derived.Test.YtngfhbclapadoaaLittleChain
namespace Go.Proofs.Ytngfhbclapadoaa
open Go.RowKit
set_option linter.unusedVariables false
set_option linter.unusedSimpArgs false

/-- An Out that holds l, where all went well, and a block that is none of its own. -/
def OB (w0 : World) (p : Nat) (room : Int) (g : Nat) (cc : Array Value) (w : World) (l : List UInt8) : Prop := ∃ a, OutS w p a room l 0 ∧ Below p w0 w ∧ ¬ Mine p a g ∧ Blk w g cc
theorem OB.new {w0 w : World} {p : Nat} {room : Int} {l : List UInt8} (h : WS w0 p room w l) (cc : Array Value) (t : TypeId) : OB w0 p room w.heap.size cc (w.alloc (.cells cc t)) l := by
  obtain ⟨a, O, hb⟩ := h
  have hba : Below w.heap.size w (w.alloc (.cells cc t)) := (Below.refl _ _).alloc (Nat.le_refl _) _
  refine ⟨a, O.more hba, hb.trans (hba.mono (Nat.le_of_lt O.lt)), fun hk => ?_, Blk.new w cc t⟩
  have := (O.mine hk).2
  omega
theorem OB.ws {w0 w : World} {p g : Nat} {room : Int} {cc : Array Value} {l : List UInt8} (h : OB w0 p room g cc w l) : WS w0 p room w l := by
  obtain ⟨a, O, hb, _⟩ := h; exact ⟨a, O, hb⟩
theorem OB.blk {w0 w : World} {p g : Nat} {room : Int} {cc : Array Value} {l : List UInt8} (h : OB w0 p room g cc w l) : Blk w g cc := by
  obtain ⟨_, _, _, _, B⟩ := h; exact B
theorem OB.grew {w0 w w' : World} {p g : Nat} {room : Int} {cc : Array Value} {l l' : List UInt8} {a a' : Option Addr} (O : OutS w p a room l 0) (hb : Below p w0 w) (hn : ¬ Mine p a g) (B : Blk w g cc) (O' : OutS w' p a' room l' 0) (G : Grew p a a' w w') : OB w0 p room g cc w' l' := by
  refine ⟨a', O', hb.trans (O.below G), ?_, B.sole G.sole hn⟩
  rintro (h | ⟨x, hx, hxb⟩)
  · exact hn (.inl h)
  · rcases G.new with e | ⟨g', e, hg'⟩
    · exact hn (.inr ⟨x, e ▸ hx, hxb⟩)
    · rw [e] at hx
      cases hx
      have := B.lt
      simp only at hxb
      omega
theorem ob_num {w0 w : World} {p g : Nat} {room : Int} {cc : Array Value} {l : List UInt8} (h : OB w0 p room g cc w l) (h0 : 0 ≤ room) (h1 : room ≤ 65536) (N size : Int) (m : Nat) (hm : min (max size 1) 6 = m) (n0 : 0 ≤ N) (n1 : N < (256 : Int) ^ m) (hr : (l.length : Int) + m ≤ room) :
    Calls Try.prog 22 #[at' p, .int .i64 N, .int .i64 size] w fun en w' => en = .returned (.tuple #[]) ∧ OB w0 p room g cc w' (l ++ leB N.toNat m) := by
  obtain ⟨a, O, hb, hn, B⟩ := h
  refine (ow_num N size m hm p a room l (l ++ leB N.toNat m) 0 0 w O h0 h1 (by omega) (.inr (.inr (.inl ⟨rfl, by omega, hr, rfl, rfl⟩)))).mono ?_
  rintro en w' ⟨he, a', O', G⟩
  exact ⟨he, OB.grew O hb hn B O' G⟩
theorem ob_text {w0 w : World} {p g : Nat} {room : Int} {cc : Array Value} {l : List UInt8} (h : OB w0 p room g cc w l) (h0 : 0 ≤ room) (h1 : room ≤ 65536) (s : ByteArray) (hr : (l.length : Int) + s.size ≤ room) :
    Calls Try.prog 46 #[at' p, .string s] w fun e w' => e = .returned (.tuple #[]) ∧ OB w0 p room g cc w' (l ++ s.data.toList) := by
  obtain ⟨a, O, hb, hn, B⟩ := h
  refine (ow_text s p a room l (l ++ s.data.toList) 0 0 w O h0 h1 (by omega) (.inr (.inr (.inl ⟨rfl, fun h => h, by rw [size_list]; exact hr, rfl, rfl⟩)))).mono ?_
  rintro en w' ⟨he, a', O', G⟩
  exact ⟨he, OB.grew O hb hn B O' G⟩
end Go.Proofs.Ytngfhbclapadoaa
