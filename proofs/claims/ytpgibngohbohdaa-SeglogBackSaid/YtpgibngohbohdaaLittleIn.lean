/-
  Package little: an In that was opened: take, Left, Err, Text.
-/
import Derived.Test.YtpgibngohbohdaaLittleNobody
import Derived.Test.YtpgibngohbohdaaOctClone
namespace Go.Proofs.Ytpgibngohbohdaa
open Go.RowKit
set_option linter.unusedVariables false
set_option linter.unusedSimpArgs false

/-- An In's cells: what is left, its error. -/
abbrev inC (a : Option Addr) (n cap : Nat) (e : Int) : Array Value := #[.bool true, .slice a n cap, .int .i64 e]
/-- A slice of octets, somewhere below p. -/
def Lies (w : World) (p : Nat) (a : Option Addr) (l : List UInt8) (cap : Nat) : Prop :=
  l.length ≤ cap ∧ cap ≤ maxLen ∧ Octs w a l ∧ ((a = none ∧ cap = 0) ∨ ∃ b o, a = some ⟨b, o, none⟩ ∧ (l ≠ [] → b < p))
/-- An In: what is left of it, its error. -/
def InS (w : World) (p : Nat) (l : List UInt8) (e : Int) : Prop := ∃ a cap, Blk w p (inC a l.length cap e) ∧ Lies w p a l cap

theorem Lies.spot {w : World} {p : Nat} {a : Option Addr} {l : List UInt8} {cap : Nat} (h : Lies w p a l cap) : ∀ x, a = some x → x.spot = none := by
  rintro x rfl
  rcases h.2.2.2 with ⟨h, _⟩ | ⟨b, o, h, _⟩
  · cases h
  · cases h; rfl
theorem Lies.sole {S : Nat → Prop} {w w' : World} {p : Nat} {a : Option Addr} {l : List UInt8} {cap : Nat} (h : Lies w p a l cap) (hs : Sole S w w') (hn : ∀ k, k < p → ¬ S k) : Lies w' p a l cap := by
  refine ⟨h.1, h.2.1, h.2.2.1.sole hs fun b o e hl => ?_, h.2.2.2⟩
  rcases h.2.2.2 with ⟨h, _⟩ | ⟨b', o', h, hb⟩
  · rw [h] at e; cases e
  · rw [h] at e; cases e
    exact hn _ (hb hl)
theorem InS.kept {S : Nat → Prop} {w w' : World} {p : Nat} {l : List UInt8} {e : Int} (h : InS w p l e) (hs : Sole S w w') (hn : ∀ k, k ≤ p → ¬ S k) : InS w' p l e := by
  obtain ⟨a, cap, B, L⟩ := h
  exact ⟨a, cap, B.sole hs (hn p (Nat.le_refl _)), L.sole hs fun k hk => hn k (by omega)⟩
theorem InS.more {w w' : World} {p : Nat} {l : List UInt8} {e : Int} (h : InS w p l e) (hb : Below w.heap.size w w') : InS w' p l e :=
  h.kept (S := fun _ => False) (Sole.made hb) fun _ _ x => x
theorem InS.lt {w : World} {p : Nat} {l : List UInt8} {e : Int} (h : InS w p l e) : p < w.heap.size := by
  obtain ⟨a, cap, B, L⟩ := h; exact B.lt

theorem take_err (size : Int) (p : Nat) (l : List UInt8) (er : Int) (w : World) (I : InS w p l er) (h : (er == 0) = false) :
    Calls Try.prog 131 #[at' p, .int .i64 size] w fun e w' => e = .returned (.tuple #[.slice none 0 0, .bool false]) ∧ w' = w := by
  obtain ⟨a, cap, B, L⟩ := I
  clear L
  obtain ⟨l0, k0, f0⟩ := B
  have h' : (er != 0) = true := by simp only [bne, h]; rfl
  go_enter Try.func131, Try.ntmps131
  go_wp2
  go_ret2
  exact ⟨rfl, rfl⟩
theorem take_short (size : Int) (p : Nat) (l : List UInt8) (w : World) (I : InS w p l 0) (h : (l.length : Int) < size) :
    Calls Try.prog 131 #[at' p, .int .i64 size] w fun e w' => e = .returned (.tuple #[.slice none 0 0, .bool false]) ∧ InS w' p [] 16 ∧ Sole (fun k => k = p) w w' := by
  obtain ⟨a, cap, B, L⟩ := I
  have E : Hid (InS ((w.setCell ⟨p, 2, none⟩ (.int .i64 16)).setCell ⟨p, 1, none⟩ (.slice none 0 0)) p [] 16 ∧ Sole (fun k => k = p) w ((w.setCell ⟨p, 2, none⟩ (.int .i64 16)).setCell ⟨p, 1, none⟩ (.slice none 0 0))) :=
    hid ⟨⟨none, 0, (B.set 2 (.int .i64 16) (by simp)).set 1 (.slice none 0 0) (by simp), Nat.le_refl _, Nat.zero_le _, .inl rfl, .inl ⟨rfl, rfl⟩⟩, (Sole.setCell (S := fun k => k = p) _ _ rfl).trans (Sole.setCell _ _ rfl)⟩
  clear L
  obtain ⟨l0, k0, f0⟩ := B
  go_enter Try.func131, Try.ntmps131
  go_wp2
  go_ret2
  exact ⟨rfl, E.out⟩
set_option maxRecDepth 100000 in
theorem take_ok (size : Nat) (p : Nat) (l : List UInt8) (w : World) (I : InS w p l 0) (h : size ≤ l.length) :
    Calls Try.prog 131 #[at' p, .int .i64 size] w fun e w' => ∃ a, e = .returned (.tuple #[.slice a size size, .bool true]) ∧ Lies w' p a (l.take size) size ∧ InS w' p (l.drop size) 0 ∧ Sole (fun k => k = p) w w' := by
  obtain ⟨a, cap, B, L⟩ := I
  have hlen := L.1
  have hcap := L.2.1
  unfold maxLen at hcap
  have hd : (l.drop size).length = l.length - size := List.length_drop
  have ht : (l.take size).length = size := by rw [List.length_take]; omega
  have D : ∀ a', (cap = size ∧ a' = a) ∨ (∃ b o, a = some ⟨b, o, none⟩ ∧ a' = some ⟨b, o + size, none⟩) ∨ (a = none ∧ a' = none) → InS (w.setCell ⟨p, 1, none⟩ (.slice a' (l.length - size) (cap - size))) p (l.drop size) 0 := by
    intro a' ha
    have S1 : Sole (fun k => k = p) w (w.setCell ⟨p, 1, none⟩ (.slice a' (l.length - size) (cap - size))) := Sole.setCell _ _ rfl
    refine ⟨a', cap - size, by rw [hd]; exact B.set 1 _ (by simp), ?_⟩
    refine Lies.sole (w := w) ⟨by omega, by unfold maxLen; omega, ?_, ?_⟩ S1 fun k hk hp => by omega
    · rcases ha with ⟨hc, rfl⟩ | ⟨b, o, rfl, rfl⟩ | ⟨rfl, rfl⟩
      · exact .inl (List.eq_nil_of_length_eq_zero (by omega))
      · exact L.2.2.1.drop size
      · have h0 : l = [] := by
          rcases L.2.2.1 with h0 | ⟨_, _, e, _⟩
          · exact h0
          · cases e
        subst h0
        exact .inl (by simp)
    · rcases L.2.2.2 with ⟨ha', hc'⟩ | ⟨b, o, ha', hb⟩
      · subst ha'
        refine .inl ⟨?_, by omega⟩
        rcases ha with ⟨hc, rfl⟩ | ⟨b, o, h, _⟩ | ⟨_, rfl⟩
        · rfl
        · cases h
        · rfl
      · subst ha'
        have hb' : l.drop size ≠ [] → b < p := fun hne => hb fun e => hne (by simp [e])
        rcases ha with ⟨hc, rfl⟩ | ⟨b', o', h, rfl⟩ | ⟨h, _⟩
        · exact .inr ⟨b, o, rfl, hb'⟩
        · cases h
          exact .inr ⟨b, _, rfl, hb'⟩
        · cases h
  have T : ∀ v, Lies (w.setCell ⟨p, 1, none⟩ v) p a (l.take size) size := by
    intro v
    refine Lies.sole (w := w) ⟨by omega, by unfold maxLen; omega, L.2.2.1.take size, ?_⟩ (Sole.setCell (S := fun k => k = p) _ _ rfl) fun k hk hp => by omega
    rcases L.2.2.2 with ⟨ha', hc'⟩ | ⟨b, o, ha', hb⟩
    · exact .inl ⟨ha', by omega⟩
    · exact .inr ⟨b, o, ha', fun hne => hb fun e => hne (by simp [e])⟩
  have ways := L.2.2.2
  replace T := hid T
  have e1 : (size : Int) ≤ l.length := by omega
  have e2 : (size : Int) ≤ cap := by omega
  have g : decide ((l.length : Int) < size) = false := decide_eq_false (by omega)
  have e3 : size ≤ cap := by omega
  clear L hd ht
  obtain ⟨l0, k0, f0⟩ := B
  rcases ways with ⟨rfl, rfl⟩ | ⟨b, o, rfl, hb⟩
  · have hz : size = 0 := by omega
    subst hz
    replace D := D none (.inr (.inr ⟨rfl, rfl⟩))
    rw [show l.length - 0 = 0 by omega, Nat.sub_self] at D
    replace D := hid D
    go_enter Try.func131, Try.ntmps131
    go_wp2
    go_ret2
    exact ⟨none, rfl, T.out _, D.out, Sole.setCell _ _ rfl⟩
  · clear hb
    by_cases hc : cap = size
    · subst hc
      replace D := D _ (.inl ⟨rfl, rfl⟩)
      rw [show l.length - cap = 0 by omega, Nat.sub_self] at D
      replace D := hid D
      go_enter Try.func131, Try.ntmps131
      go_wp2
      go_ret2
      exact ⟨some ⟨b, o, none⟩, rfl, T.out _, D.out, Sole.setCell _ _ rfl⟩
    · replace D := hid (D _ (.inr (.inl ⟨b, o, rfl, rfl⟩)))
      go_enter Try.func131, Try.ntmps131
      go_wp2
      go_ret2
      exact ⟨some ⟨b, o, none⟩, rfl, T.out _, D.out, Sole.setCell _ _ rfl⟩
end Go.Proofs.Ytpgibngohbohdaa
