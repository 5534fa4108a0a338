/-
  Package little: an Out where all goes well, call by call; an In whose octets suffice.
-/
import Derived.Test.YtcklmemnjchdcaaRsZ
import Derived.Lib.BufferRead
import Derived.WalkKit
import Derived.OwnWalk
import Derived.Lib.BufferMore
import Derived.Lib.SlBytesRow

/-
  Package little: numbers and texts of what nobody made.
-/


namespace Go.Proofs.Ytcklmemnjchdcaa
open Go.RowKit
set_option linter.unusedVariables false
set_option linter.unusedSimpArgs false

theorem six (s : Int) (h1 : 1 ≤ s) (h2 : s ≤ 6) : s = 1 ∨ s = 2 ∨ s = 3 ∨ s = 4 ∨ s = 5 ∨ s = 6 := by omega

theorem nil_text (w : World) : (convert 51 9 (.slice none 0 0)).run Try.prog w = .ok (.string ByteArray.empty) w :=
  Lib.run_convert_nil_bytes w _ _ 5 0 Try.underlying51 Try.underlying5 Try.underlying9
end Go.Proofs.Ytcklmemnjchdcaa

/-
  Package little: an In that was opened: take, Left, Err, Text.
-/


namespace Go.Proofs.Ytcklmemnjchdcaa
open Go.RowKit
set_option linter.unusedVariables false
set_option linter.unusedSimpArgs false

/-- An In's cells: what is left, its error. -/
abbrev inC (a : Option Addr) (n cap : Nat) (e : Int) : Array Value := #[.bool true, .slice a n cap, .int .i64 e]
/-- A slice of octets, somewhere below p. -/
def Lies (w : World) (p : Nat) (a : Option Addr) (l : List UInt8) (cap : Nat) : Prop :=
  l.length ≤ cap ∧ cap ≤ maxLen ∧ Octs w a l ∧ ((a = none ∧ cap = 0) ∨ ∃ b o, a = some ⟨b, o, none⟩ ∧ (l ≠ [] → b < p))
/-- An In: what is left of it, its error. -/
def InS (w : World) (p : Nat) (l : List UInt8) (e : Int) : Prop := ∃ a cap, Blk w p (inC a l.length cap e) ∧ Lies w p a l cap

theorem Lies.spot {w : World} {p : Nat} {a : Option Addr} {l : List UInt8} {cap : Nat} (h : Lies w p a l cap) : ∀ x, a = some x → x.spot = none := by
  rintro x rfl
  rcases h.2.2.2 with ⟨h, _⟩ | ⟨b, o, h, _⟩
  · cases h
  · cases h; rfl
theorem Lies.sole {S : Nat → Prop} {w w' : World} {p : Nat} {a : Option Addr} {l : List UInt8} {cap : Nat} (h : Lies w p a l cap) (hs : Sole S w w') (hn : ∀ k, k < p → ¬ S k) : Lies w' p a l cap := by
  refine ⟨h.1, h.2.1, h.2.2.1.sole hs fun b o e hl => ?_, h.2.2.2⟩
  rcases h.2.2.2 with ⟨h, _⟩ | ⟨b', o', h, hb⟩
  · rw [h] at e; cases e
  · rw [h] at e; cases e
    exact hn _ (hb hl)
theorem InS.kept {S : Nat → Prop} {w w' : World} {p : Nat} {l : List UInt8} {e : Int} (h : InS w p l e) (hs : Sole S w w') (hn : ∀ k, k ≤ p → ¬ S k) : InS w' p l e := by
  obtain ⟨a, cap, B, L⟩ := h
  exact ⟨a, cap, B.sole hs (hn p (Nat.le_refl _)), L.sole hs fun k hk => hn k (by omega)⟩
theorem InS.more {w w' : World} {p : Nat} {l : List UInt8} {e : Int} (h : InS w p l e) (hb : Below w.heap.size w w') : InS w' p l e :=
  h.kept (S := fun _ => False) (Sole.made hb) fun _ _ x => x
theorem InS.lt {w : World} {p : Nat} {l : List UInt8} {e : Int} (h : InS w p l e) : p < w.heap.size := by
  obtain ⟨a, cap, B, L⟩ := h; exact B.lt

theorem take_err (size : Int) (p : Nat) (l : List UInt8) (er : Int) (w : World) (I : InS w p l er) (h : (er == 0) = false) :
    Calls Try.prog 101 #[at' p, .int .i64 size] w fun e w' => e = .returned (.tuple #[.slice none 0 0, .bool false]) ∧ w' = w := by
  obtain ⟨a, cap, B, L⟩ := I
  clear L
  obtain ⟨l0, k0, f0⟩ := B
  have h' : (er != 0) = true := by simp only [bne, h]; rfl
  go_enter Try.func101, Try.ntmps101
  go_wp2
  go_ret2
  exact ⟨rfl, rfl⟩
theorem take_short (size : Int) (p : Nat) (l : List UInt8) (w : World) (I : InS w p l 0) (h : (l.length : Int) < size) :
    Calls Try.prog 101 #[at' p, .int .i64 size] w fun e w' => e = .returned (.tuple #[.slice none 0 0, .bool false]) ∧ InS w' p [] 16 ∧ Sole (fun k => k = p) w w' := by
  obtain ⟨a, cap, B, L⟩ := I
  have E : Hid (InS ((w.setCell ⟨p, 2, none⟩ (.int .i64 16)).setCell ⟨p, 1, none⟩ (.slice none 0 0)) p [] 16 ∧ Sole (fun k => k = p) w ((w.setCell ⟨p, 2, none⟩ (.int .i64 16)).setCell ⟨p, 1, none⟩ (.slice none 0 0))) :=
    hid ⟨⟨none, 0, (B.set 2 (.int .i64 16) (by simp)).set 1 (.slice none 0 0) (by simp), Nat.le_refl _, Nat.zero_le _, .inl rfl, .inl ⟨rfl, rfl⟩⟩, (Sole.setCell (S := fun k => k = p) _ _ rfl).trans (Sole.setCell _ _ rfl)⟩
  clear L
  obtain ⟨l0, k0, f0⟩ := B
  go_enter Try.func101, Try.ntmps101
  go_wp2
  go_ret2
  exact ⟨rfl, E.out⟩
set_option maxRecDepth 100000 in
theorem take_ok (size : Nat) (p : Nat) (l : List UInt8) (w : World) (I : InS w p l 0) (h : size ≤ l.length) :
    Calls Try.prog 101 #[at' p, .int .i64 size] w fun e w' => ∃ a, e = .returned (.tuple #[.slice a size size, .bool true]) ∧ Lies w' p a (l.take size) size ∧ InS w' p (l.drop size) 0 ∧ Sole (fun k => k = p) w w' := by
  obtain ⟨a, cap, B, L⟩ := I
  have hlen := L.1
  have hcap := L.2.1
  unfold maxLen at hcap
  have hd : (l.drop size).length = l.length - size := List.length_drop
  have ht : (l.take size).length = size := by rw [List.length_take]; omega
  have D : ∀ a', (cap = size ∧ a' = a) ∨ (∃ b o, a = some ⟨b, o, none⟩ ∧ a' = some ⟨b, o + size, none⟩) ∨ (a = none ∧ a' = none) → InS (w.setCell ⟨p, 1, none⟩ (.slice a' (l.length - size) (cap - size))) p (l.drop size) 0 := by
    intro a' ha
    have S1 : Sole (fun k => k = p) w (w.setCell ⟨p, 1, none⟩ (.slice a' (l.length - size) (cap - size))) := Sole.setCell _ _ rfl
    refine ⟨a', cap - size, by rw [hd]; exact B.set 1 _ (by simp), ?_⟩
    refine Lies.sole (w := w) ⟨by omega, by unfold maxLen; omega, ?_, ?_⟩ S1 fun k hk hp => by omega
    · rcases ha with ⟨hc, rfl⟩ | ⟨b, o, rfl, rfl⟩ | ⟨rfl, rfl⟩
      · exact .inl (List.eq_nil_of_length_eq_zero (by omega))
      · exact L.2.2.1.drop size
      · have h0 : l = [] := by
          rcases L.2.2.1 with h0 | ⟨_, _, e, _⟩
          · exact h0
          · cases e
        subst h0
        exact .inl (by simp)
    · rcases L.2.2.2 with ⟨ha', hc'⟩ | ⟨b, o, ha', hb⟩
      · subst ha'
        refine .inl ⟨?_, by omega⟩
        rcases ha with ⟨hc, rfl⟩ | ⟨b, o, h, _⟩ | ⟨_, rfl⟩
        · rfl
        · cases h
        · rfl
      · subst ha'
        have hb' : l.drop size ≠ [] → b < p := fun hne => hb fun e => hne (by simp [e])
        rcases ha with ⟨hc, rfl⟩ | ⟨b', o', h, rfl⟩ | ⟨h, _⟩
        · exact .inr ⟨b, o, rfl, hb'⟩
        · cases h
          exact .inr ⟨b, _, rfl, hb'⟩
        · cases h
  have T : ∀ v, Lies (w.setCell ⟨p, 1, none⟩ v) p a (l.take size) size := by
    intro v
    refine Lies.sole (w := w) ⟨by omega, by unfold maxLen; omega, L.2.2.1.take size, ?_⟩ (Sole.setCell (S := fun k => k = p) _ _ rfl) fun k hk hp => by omega
    rcases L.2.2.2 with ⟨ha', hc'⟩ | ⟨b, o, ha', hb⟩
    · exact .inl ⟨ha', by omega⟩
    · exact .inr ⟨b, o, ha', fun hne => hb fun e => hne (by simp [e])⟩
  have ways := L.2.2.2
  replace T := hid T
  have e1 : (size : Int) ≤ l.length := by omega
  have e2 : (size : Int) ≤ cap := by omega
  have g : decide ((l.length : Int) < size) = false := decide_eq_false (by omega)
  have e3 : size ≤ cap := by omega
  clear L hd ht
  obtain ⟨l0, k0, f0⟩ := B
  rcases ways with ⟨rfl, rfl⟩ | ⟨b, o, rfl, hb⟩
  · have hz : size = 0 := by omega
    subst hz
    replace D := D none (.inr (.inr ⟨rfl, rfl⟩))
    rw [show l.length - 0 = 0 by omega, Nat.sub_self] at D
    replace D := hid D
    go_enter Try.func101, Try.ntmps101
    go_wp2
    go_ret2
    exact ⟨none, rfl, T.out _, D.out, Sole.setCell _ _ rfl⟩
  · clear hb
    by_cases hc : cap = size
    · subst hc
      replace D := D _ (.inl ⟨rfl, rfl⟩)
      rw [show l.length - cap = 0 by omega, Nat.sub_self] at D
      replace D := hid D
      go_enter Try.func101, Try.ntmps101
      go_wp2
      go_ret2
      exact ⟨some ⟨b, o, none⟩, rfl, T.out _, D.out, Sole.setCell _ _ rfl⟩
    · replace D := hid (D _ (.inr (.inl ⟨b, o, rfl, rfl⟩)))
      go_enter Try.func101, Try.ntmps101
      go_wp2
      go_ret2
      exact ⟨some ⟨b, o, none⟩, rfl, T.out _, D.out, Sole.setCell _ _ rfl⟩
end Go.Proofs.Ytcklmemnjchdcaa

/-
  Package little: Num and Text of an In; Open, Left, Err.
-/

namespace Go.Proofs.Ytcklmemnjchdcaa
open Go.RowKit
set_option linter.unusedVariables false
set_option linter.unusedSimpArgs false

theorem left_any (p : Nat) (l : List UInt8) (er : Int) (w : World) (I : InS w p l er) : Calls Try.prog 92 #[at' p] w fun e w' => e = .returned (.int .i64 l.length) ∧ w' = w := by
  obtain ⟨a, cap, B, L⟩ := I
  clear L
  obtain ⟨l0, k0, f0⟩ := B
  go_enter Try.func92, Try.ntmps92
  go_wp2
  go_ret
  exact ⟨by simp, rfl⟩
theorem err_any (p : Nat) (l : List UInt8) (er : Int) (w : World) (I : InS w p l er) : Calls Try.prog 93 #[at' p] w fun e w' => e = .returned (.int .i64 er) ∧ w' = w := by
  obtain ⟨a, cap, B, L⟩ := I
  clear L
  obtain ⟨l0, k0, f0⟩ := B
  go_enter Try.func93, Try.ntmps93
  go_wp2
  go_ret
  exact ⟨by simp, rfl⟩
theorem open_any (l : List UInt8) (a : Option Addr) (cap : Nat) (w : World) (O : Octs w a l) (hl : l.length ≤ 140737488355328) :
    Calls Try.prog 89 #[.slice a l.length cap] w fun e w' => ∃ p, e = .returned (at' p) ∧ w.heap.size ≤ p ∧ InS w' p l 0 ∧ Below w.heap.size w w' := by
  have K := hid (clone_any l a cap w O hl)
  clear O
  replace hl := hid hl
  go_enter Try.func89, Try.ntmps89
  go_wp2_with fail
  refine K.out.mono ?_
  rintro e w1 ⟨v, rfl, a', cap', rfl, O1, hb1⟩
  have E : Hid (InS (w1.alloc (.cells (inC a' l.length cap' 0) 187)) w1.heap.size l 0 ∧ Below w.heap.size w (w1.alloc (.cells (inC a' l.length cap' 0) 187))) := hid (by
    have hb := Below.alloc (Below.refl w1.heap.size w1) (Nat.le_refl _) (.cells (inC a' l.length cap' 0) 187)
    refine ⟨⟨a', cap', Blk.new _ _ _, ?_⟩, hb1.alloc hb1.size _⟩
    have HO := (Octs.of_own O1).more hb
    rcases O1.2 with ⟨hv, hn⟩ | ⟨g, c, cur, hv, hg, hgc, h1, h2, _⟩
    · injection hv with e1 e2 e3
      subst e1 e3
      exact ⟨by omega, by unfold maxLen; omega, HO, .inl ⟨rfl, rfl⟩⟩
    · cases hv
      exact ⟨h1, h2, HO, .inr ⟨g, 0, rfl, fun _ => (O1.lt g rfl).2⟩⟩)
  have hs := hid hb1.size
  clear O1 hb1
  go_wp2
  go_ret
  exact ⟨_, rfl, hs.out, E.out⟩
/-- The text of what is left. -/
theorem inText_ok (size : Int) (p : Nat) (l : List UInt8) (w : World) (I : InS w p l 0) (h : size ≤ l.length) :
    Calls Try.prog 90 #[at' p, .int .i64 size] w fun e w' => e = .returned (.string (textOf (l.take size.toNat))) ∧ InS w' p (l.drop size.toNat) 0 ∧ Sole (fun k => k = p) w w' := by
  have K := take_ok size.toNat p l w I (by omega)
  rw [show ((size.toNat : Nat) : Int) = max size 0 by omega] at K
  replace K := hid K
  have ht : (l.take size.toNat).length = size.toNat := by rw [List.length_take]; omega
  have KC : ∀ (w1 : World) a, Lies w1 p a (l.take size.toNat) size.toNat → (convert 51 9 (.slice a size.toNat size.toNat)).run Try.prog w1 = .ok (.string (textOf (l.take size.toNat))) w1 := by
    intro w1 a L
    have := L.2.2.1.text (P := Try.prog) 51 5 9 size.toNat Try.underlying51 Try.underlying5 Try.underlying9 L.spot
    rwa [ht] at this
  replace KC := hid KC
  replace ht := hid ht
  clear I
  generalize textOf (l.take size.toNat) = T at *
  go_enter Try.func90, Try.ntmps90
  go_wp2_with fail
  refine K.out.mono ?_
  rintro e w1 ⟨a, rfl, L, I1, S1⟩
  have kc := KC.out w1 a L
  have E := hid (And.intro I1 S1)
  clear L I1 S1 KC
  go_wp2
  go_ret
  exact ⟨rfl, E.out⟩
theorem inText_short (size : Int) (p : Nat) (l : List UInt8) (w : World) (I : InS w p l 0) (h : (l.length : Int) < size) :
    Calls Try.prog 90 #[at' p, .int .i64 size] w fun e w' => e = .returned (.string ByteArray.empty) ∧ InS w' p [] 16 ∧ Sole (fun k => k = p) w w' := by
  have K := hid (take_short (max size 0) p l w I (by omega))
  have kc := nil_text
  clear I
  go_enter Try.func90, Try.ntmps90
  go_wp2_with fail
  refine K.out.mono ?_
  rintro e w1 ⟨rfl, E⟩
  replace E := hid E
  go_wp2
  go_ret
  exact ⟨rfl, E.out⟩
theorem inText_err (size : Int) (p : Nat) (l : List UInt8) (er : Int) (w : World) (I : InS w p l er) (h : (er == 0) = false) :
    Calls Try.prog 90 #[at' p, .int .i64 size] w fun e w' => e = .returned (.string ByteArray.empty) ∧ w' = w := by
  have K := hid (fun n => take_err n p l er w I h)
  have kc := nil_text
  clear I
  go_enter Try.func90, Try.ntmps90
  go_wp2_with fail
  refine (K.out _).mono ?_
  rintro e w1 ⟨rfl, rfl⟩
  go_wp2
  go_ret
  exact ⟨rfl, rfl⟩

theorem wrap_64 (x : Int) : wrap64 x = IntKind.i64.wrap x := by unfold wrap64; exact (IntKind.wrap_i64 x).symm
theorem i64_or_nat (a b : Nat) (ha : a < 2 ^ 63) (hb : b < 2 ^ 63) : bits .or .i64 (a : Int) (b : Int) = ((a ||| b : Nat) : Int) := by
  have hx : a ||| b < 2 ^ 63 := Nat.or_lt_two_pow ha hb
  have e : ∀ c : Nat, c < 2 ^ 63 → (BitVec.ofInt 64 (c : Int)).toNat = c := fun c hc => by
    rw [BitVec.ofInt_natCast, BitVec.toNat_ofNat]; exact Nat.mod_eq_of_lt (by omega)
  show IntKind.i64.wrap ((BitVec.ofInt 64 (a : Int) ||| BitVec.ofInt 64 (b : Int)).toNat : Int) = _
  rw [BitVec.toNat_or, e a ha, e b hb, IntKind.wrap_i64]
  omega
theorem or_octet (m c k : Nat) (hk : k < 6) (hm : m < 256 ^ k) (hc : c < 256) : bits .or .i64 (m : Int) (IntKind.i64.wrap (IntKind.i64.wrap (c : Int) * 2 ^ (8 * k))) = ((m + 256 ^ k * c : Nat) : Int) := by
  have e : (256 : Nat) ^ k = 2 ^ (8 * k) := by rw [Nat.pow_mul]
  have hp : (2 : Nat) ^ (8 * k) ≤ 2 ^ 40 := Nat.pow_le_pow_right (by omega) (by omega)
  have hc1 : c * 2 ^ (8 * k) ≤ 255 * 2 ^ 40 := Nat.mul_le_mul (by omega) hp
  have w1 : IntKind.i64.wrap (c : Int) = c := IntWalk.i64_in _ (by omega)
  have w2 : IntKind.i64.wrap ((c : Int) * 2 ^ (8 * k)) = ((c * 2 ^ (8 * k) : Nat) : Int) := by
    have : ((c : Int) * 2 ^ (8 * k)) = ((c * 2 ^ (8 * k) : Nat) : Int) := by simp
    rw [this]
    exact IntWalk.i64_in _ (by omega)
  rw [e] at hm ⊢
  rw [w1, w2, i64_or_nat _ _ (by omega) (by omega), ← Nat.shiftLeft_eq, Nat.or_comm, ← Nat.shiftLeft_add_eq_or_of_lt hm, Nat.shiftLeft_eq, Nat.mul_comm c]
  omega
theorem numOf_snoc (t : List UInt8) (k : Nat) (h : k < t.length) : numOf (t.take (k + 1)) = numOf (t.take k) + 256 ^ k * t[k].toNat := by
  rw [List.take_succ_eq_append_getElem h, numOf_append, List.length_take, Nat.min_eq_left (by omega)]
  simp [numOf]

set_option maxRecDepth 100000 in
theorem inNum_ok (size : Int) (s : Nat) (hs : min (max size 1) 6 = s) (p : Nat) (l : List UInt8) (w : World) (I : InS w p l 0) (h : s ≤ l.length) :
    Calls Try.prog 91 #[at' p, .int .i64 size] w fun e w' => e = .returned (.int .i64 (numOf (l.take s))) ∧ InS w' p (l.drop s) 0 ∧ Sole (fun k => k = p) w w' := by
  have KN := hid (fun w => nearest_any size 1 6 w)
  have K := hid (take_ok s p l w I h)
  have hsb : 1 ≤ s ∧ s ≤ 6 := by omega
  have ht : (l.take s).length = s := by rw [List.length_take]; omega
  rw [hs] at KN
  clear I hs
  generalize l.take s = t at *
  replace ht := hid ht
  go_enter Try.func91, Try.ntmps91
  go_wp2_with fail
  refine (KN.out _).mono ?_
  rintro e w1 ⟨rfl, rfl⟩
  go_wp2_with fail
  refine K.out.mono ?_
  rintro e w1 ⟨a, rfl, L, I1, S1⟩
  have hne : t ≠ [] := fun e => by have := ht.out; rw [e] at this; simp at this; omega
  obtain ⟨b, o, rfl, lt, hc⟩ := L.2.2.1.row hne
  have E := hid (And.intro I1 S1)
  replace hc := hid hc
  clear L I1 S1 hne K KN h
  go_wp2_with fail
  go_loop [7, 20] (fun n i => ∃ k : Nat, k ≤ s ∧ i = .int .i64 (k : Int) ∧ n = .int .i64 (numOf (t.take k))) (fun _ i => s - (intOf i).toNat)
  case atStart => exact ⟨0, by omega, rfl, rfl⟩
  case round =>
    obtain ⟨k, hk, rfl, rfl⟩ := hrel
    by_cases hlt : k < s
    · have u : IntKind.i64.wrap (8 * (k : Int)) = 8 * (k : Int) := IntWalk.i64_in _ (by omega)
      have hkt : k < t.length := by have := ht.out; omega
      have z := hc.out k hkt
      have st := or_octet (numOf (t.take k)) t[k].toNat k (by omega) (by have := numOf_lt (t.take k); rwa [List.length_take, Nat.min_eq_left (by omega)] at this) t[k].toNat_lt
      rw [← numOf_snoc t k hkt] at st
      replace st := hid st
      generalize (t[k].toNat : Int) = c at *
      generalize hm : (numOf (t.take k) : Int) = m at *
      replace hm := hid hm
      go_wp2_with fail
      go_round
      case rel => exact ⟨k + 1, by omega, by go_num, by rw [wrap_64, wrap_64]; exact congrArg _ st.out⟩
      case measure => simp [intOf]; omega
    · obtain rfl : k = s := by omega
      have e : t.take k = t := List.take_of_length_le (by rw [ht.out]; exact Nat.le_refl _)
      rw [e]
      go_wp2
      go_ret
      exact ⟨rfl, E.out⟩
theorem inNum_short (size : Int) (p : Nat) (l : List UInt8) (w : World) (I : InS w p l 0) (h : (l.length : Int) < min (max size 1) 6) :
    Calls Try.prog 91 #[at' p, .int .i64 size] w fun e w' => e = .returned (.int .i64 0) ∧ InS w' p [] 16 ∧ Sole (fun k => k = p) w w' := by
  have KN := hid (fun w => nearest_any size 1 6 w)
  have K := hid (take_short (min (max size 1) 6) p l w I h)
  clear I h
  go_enter Try.func91, Try.ntmps91
  go_wp2_with fail
  refine (KN.out _).mono ?_
  rintro e w1 ⟨rfl, rfl⟩
  go_wp2_with fail
  refine K.out.mono ?_
  rintro e w2 ⟨rfl, E⟩
  replace E := hid E
  go_wp2
  go_ret
  exact ⟨rfl, E.out⟩
theorem inNum_err (size : Int) (p : Nat) (l : List UInt8) (er : Int) (w : World) (I : InS w p l er) (h : (er == 0) = false) :
    Calls Try.prog 91 #[at' p, .int .i64 size] w fun e w' => e = .returned (.int .i64 0) ∧ w' = w := by
  have KN := hid (fun w => nearest_any size 1 6 w)
  have K := hid (fun n => take_err n p l er w I h)
  clear I h
  go_enter Try.func91, Try.ntmps91
  go_wp2_with fail
  refine (KN.out _).mono ?_
  rintro e w1 ⟨rfl, rfl⟩
  go_wp2_with fail
  refine (K.out _).mono ?_
  rintro e w2 ⟨rfl, rfl⟩
  go_wp2
  go_ret
  exact ⟨rfl, rfl⟩
end Go.Proofs.Ytcklmemnjchdcaa

/-
  Package little: an Out that was made: fail, and lend where it lends nothing.
-/

namespace Go.Proofs.Ytcklmemnjchdcaa
open Go.RowKit
set_option linter.unusedVariables false
set_option linter.unusedSimpArgs false

/-- An Out's cells: its room, what was written (n octets), its error. -/
abbrev outC (room : Int) (a : Option Addr) (n cap : Nat) (e : Int) : Array Value := #[.bool true, .int .i64 room, .slice a n cap, .int .i64 e]

theorem fail_first (c room : Int) (a : Option Addr) (n cap : Nat) (p : Nat) (w : World) (B : Blk w p (outC room a n cap 0)) :
    Calls Try.prog 71 #[at' p, .int .i64 c] w fun e w' => e = .returned (.tuple #[]) ∧ w' = w.setCell ⟨p, 3, none⟩ (.int .i64 c) := by
  obtain ⟨l0, k0, f0⟩ := B
  go_enter Try.func71, Try.ntmps71
  go_wp2
  go_end0
  exact ⟨rfl, rfl⟩
theorem fail_later (c room er : Int) (a : Option Addr) (n cap : Nat) (p : Nat) (w : World) (B : Blk w p (outC room a n cap er)) (h : (er == 0) = false) :
    Calls Try.prog 71 #[at' p, .int .i64 c] w fun e w' => e = .returned (.tuple #[]) ∧ w' = w := by
  obtain ⟨l0, k0, f0⟩ := B
  go_enter Try.func71, Try.ntmps71
  go_wp2
  go_end0
  exact ⟨rfl, rfl⟩
theorem lend_err (size room er : Int) (a : Option Addr) (n cap : Nat) (p : Nat) (w : World) (B : Blk w p (outC room a n cap er)) (h : (er == 0) = false) :
    Calls Try.prog 72 #[at' p, .int .i64 size] w fun e w' => e = .returned (.tuple #[.slice none 0 0, .bool false]) ∧ w' = w := by
  obtain ⟨l0, k0, f0⟩ := B
  go_enter Try.func72, Try.ntmps72
  go_wp2
  go_ret2
  exact ⟨rfl, rfl⟩
theorem lend_full (size room : Int) (a : Option Addr) (n cap : Nat) (p : Nat) (w : World) (B : Blk w p (outC room a n cap 0)) (h0 : 0 ≤ room) (h1 : room ≤ 65536) (hn : (n : Int) ≤ room) (h : room - n < size) :
    Calls Try.prog 72 #[at' p, .int .i64 size] w fun e w' => e = .returned (.tuple #[.slice none 0 0, .bool false]) ∧ w' = w.setCell ⟨p, 3, none⟩ (.int .i64 10) := by
  have K := hid (fail_first 10 room a n cap p w B)
  have u : IntKind.i64.wrap (room - n) = room - n := IntWalk.i64_in _ (by omega)
  obtain ⟨l0, k0, f0⟩ := B
  go_enter Try.func72, Try.ntmps72
  go_wp2_with fail
  refine K.out.mono ?_
  rintro e w1 ⟨rfl, rfl⟩
  go_wp2
  go_ret2
  exact ⟨rfl, rfl⟩
end Go.Proofs.Ytcklmemnjchdcaa

/-
  Package little: an Out's state; lend, where there is room.
-/



namespace Go.Proofs.Ytcklmemnjchdcaa
open Go.RowKit
set_option linter.unusedVariables false
set_option linter.unusedSimpArgs false

/-- An Out's own blocks: its cells, and its row. -/
def Mine (p : Nat) (a : Option Addr) (k : Nat) : Prop := k = p ∨ ∃ x : Addr, a = some x ∧ x.block = k
/-- An Out: what was written, its error. -/
def OutS (w : World) (p : Nat) (a : Option Addr) (room : Int) (l : List UInt8) (e : Int) : Prop :=
  ∃ cap, Blk w p (outC room a l.length cap e) ∧ w.ownsRow (p + 1) 5 1 (.slice a l.length cap) l.length (Lib.byteCells l)
/-- What a call of an Out changes. -/
structure Grew (p : Nat) (a a' : Option Addr) (w w' : World) : Prop where
  sole : Sole (Mine p a) w w'
  new : a' = a ∨ ∃ g, a' = some ⟨g, 0, none⟩ ∧ w.heap.size ≤ g

theorem Grew.refl (p : Nat) (a : Option Addr) (w : World) : Grew p a a w w := ⟨Sole.refl _ _, .inl rfl⟩
theorem Grew.trans {p : Nat} {a a' a'' : Option Addr} {w w1 w2 : World} (h : Grew p a a' w w1) (k : Grew p a' a'' w1 w2) : Grew p a a'' w w2 := by
  refine ⟨h.sole.trans' k.sole fun j hj hm => ?_, ?_⟩
  · rcases hm with rfl | ⟨x, hx, rfl⟩
    · exact .inl rfl
    · rcases h.new with e | ⟨g, e, hg⟩
      · exact .inr ⟨x, e ▸ hx, rfl⟩
      · rw [e] at hx; cases hx
        simp only at hj
        omega
  · rcases k.new with e | ⟨g, e, hg⟩
    · rcases h.new with e' | ⟨g, e', hg⟩
      · exact .inl (e.trans e')
      · exact .inr ⟨g, e.trans e', hg⟩
    · exact .inr ⟨g, e, Nat.le_trans h.sole.size hg⟩
theorem OutS.lt {w : World} {p : Nat} {a : Option Addr} {room : Int} {l : List UInt8} {e : Int} (h : OutS w p a room l e) : p < w.heap.size := by
  obtain ⟨cap, B, _⟩ := h; exact B.lt
/-- Its row lies behind its cells. -/
theorem OutS.mine {w : World} {p : Nat} {a : Option Addr} {room : Int} {l : List UInt8} {e : Int} (h : OutS w p a room l e) {k : Nat} (hk : Mine p a k) : p ≤ k ∧ k < w.heap.size := by
  obtain ⟨cap, B, O⟩ := h
  rcases hk with rfl | ⟨x, rfl, rfl⟩
  · exact ⟨Nat.le_refl _, B.lt⟩
  · have := O.lt x.block rfl
    exact ⟨by omega, this.2⟩
theorem OutS.kept {S : Nat → Prop} {w w' : World} {p : Nat} {a : Option Addr} {room : Int} {l : List UInt8} {e : Int} (h : OutS w p a room l e) (hs : Sole S w w') (hn : ∀ k, Mine p a k → ¬ S k) : OutS w' p a room l e := by
  obtain ⟨cap, B, O⟩ := h
  refine ⟨cap, B.sole hs (hn p (.inl rfl)), own_sole O hs fun k hk => ?_⟩
  rcases a with _ | x
  · cases hk
  · exact hn k (.inr ⟨x, rfl, by simpa [Value.ownBlock] using hk⟩)
theorem OutS.more {w w' : World} {p : Nat} {a : Option Addr} {room : Int} {l : List UInt8} {e : Int} (h : OutS w p a room l e) (hb : Below w.heap.size w w') : OutS w' p a room l e :=
  h.kept (S := fun _ => False) (Sole.made hb) fun _ _ x => x
theorem OutS.below {w w' : World} {p : Nat} {a a' : Option Addr} {room : Int} {l : List UInt8} {e : Int} (h : OutS w p a room l e) (hb : Grew p a a' w w') : Below p w w' :=
  hb.sole.below (Nat.le_of_lt h.lt) fun k hk => (h.mine hk).1
theorem OutS.new (w : World) (room : Int) (t : TypeId) : OutS (w.alloc (.cells (outC room none 0 0 0) t)) w.heap.size none room [] 0 :=
  ⟨0, Blk.new w _ t, World.ownsRow_nil _ _ _ _⟩
theorem OutS.fail {w : World} {p : Nat} {a : Option Addr} {room : Int} {l : List UInt8} {e : Int} (h : OutS w p a room l e) (c : Int) : OutS (w.setCell ⟨p, 3, none⟩ (.int .i64 c)) p a room l c ∧ Grew p a a w (w.setCell ⟨p, 3, none⟩ (.int .i64 c)) := by
  obtain ⟨cap, B, O⟩ := h
  exact ⟨⟨cap, B.set 3 _ (by simp), ownsRow_setCell_below O (Nat.lt_succ_self p) _⟩, Sole.setCell _ _ (.inl rfl), .inl rfl⟩

set_option maxRecDepth 100000 in
set_option maxHeartbeats 4000000 in
theorem lend_ok (size : Nat) (room : Int) (a : Option Addr) (n cap : Nat) (xs : List Value) (p : Nat) (w : World) (B : Blk w p (outC room a n cap 0)) (O : w.ownsRow (p + 1) 5 1 (.slice a n cap) n xs) (h0 : 0 ≤ room) (h1 : room ≤ 65536) (h : (n : Int) + size ≤ room) (hs : 1 ≤ size) :
    Calls Try.prog 72 #[at' p, .int .i64 size] w fun e w' => ∃ g cap', e = .returned (.tuple #[.slice (some ⟨g, n, none⟩) size size, .bool true]) ∧ Blk w' p (outC room (some ⟨g, 0, none⟩) (n + size) cap' 0) ∧ w'.ownsRow (p + 1) 5 1 (.slice (some ⟨g, 0, none⟩) (n + size) cap') (n + size) (xs ++ List.replicate size (.int .u8 0)) ∧ Grew p a (some ⟨g, 0, none⟩) w w' := by
  have u : IntKind.i64.wrap (room - n) = room - n := IntWalk.i64_in _ (by omega)
  have u2 : IntKind.i64.wrap ((n : Int) + size) = (n : Int) + size := IntWalk.i64_in _ (by omega)
  have g1 : decide (room - n < (size : Int)) = false := decide_eq_false (by omega)
  have HB := hid B
  have lt := B.lt
  obtain ⟨v', w', hr, O', gr, mv⟩ := append_zeros_new (p + 1) 51 w (.slice a n cap) n xs O size (by omega) (by omega)
  obtain ⟨g, cap', cur, rfl, hbg, hgc, hn', hc', hcs, htk⟩ := O'.2.resolve_left (fun x => by have := x.2; omega)
  have hb : Below (p + 1) w w' := Below.grown (Below.refl _ _) gr (by omega) (fun k e => (O.lt k e).1)
  have HG : Hid (Grew p a (some ⟨g, 0, none⟩) w w') := hid (by
    refine ⟨Sole.grown gr fun k hk => ?_, ?_⟩
    · rcases a with _ | x
      · cases hk
      · exact .inr ⟨x, rfl, by simpa [Value.ownBlock] using hk⟩
    · rcases mv with e | ⟨g', e, hg'⟩
      · rcases a with _ | x
        · cases e
        · obtain ⟨g2, c2, cu2, hv, _⟩ := O.2.resolve_left (fun x => by cases x.1)
          cases hv
          simp [Value.ownBlock] at e
          exact .inl (by rw [e])
      · simp [Value.ownBlock] at e
        exact .inr ⟨g, rfl, by omega⟩)
  have HB' := hid (HB.out.below hb (by omega))
  obtain ⟨l0, k0, f0⟩ := B
  obtain ⟨l1, k1, f1⟩ := HB'.out
  have e1 : ¬ n + size = n := by omega
  have e2 : n + size ≤ cap' := hn'
  have e3 : ((n : Int) + size) ≤ cap' := by omega
  have e4 : n + size - n = size := by omega
  have e5 : (n : Int) ≤ n + size := by omega
  have HO := hid O'
  clear O gr hcs htk hgc hc' O' hn' mv
  go_enter Try.func72, Try.ntmps72
  go_wp2_with (at_builtin; refine Lib.wpList_append_run _ rfl _ _ _ _ rfl _ _ rfl rfl _ _ hr ?_)
  go_ret2
  exact ⟨g, cap', by rw [e4]; rfl, HB'.out.set 2 _ (by simp), ownsRow_setCell_below HO.out (Nat.lt_succ_self p) _, HG.out.sole.trans (Sole.setCell _ _ (.inl rfl)), HG.out.new⟩
end Go.Proofs.Ytcklmemnjchdcaa

/-
  Package little: lend of nothing.
-/

namespace Go.Proofs.Ytcklmemnjchdcaa
open Go.RowKit
set_option linter.unusedVariables false
set_option linter.unusedSimpArgs false

set_option maxRecDepth 100000 in
set_option maxHeartbeats 4000000 in
theorem lend_zero (room : Int) (a : Option Addr) (n cap : Nat) (xs : List Value) (p : Nat) (w : World) (B : Blk w p (outC room a n cap 0)) (O : w.ownsRow (p + 1) 5 1 (.slice a n cap) n xs) (h0 : 0 ≤ room) (h1 : room ≤ 65536) (h : (n : Int) ≤ room) :
    Calls Try.prog 72 #[at' p, .int .i64 0] w fun e w' => e = .returned (.tuple #[.slice a 0 0, .bool true]) ∧ w' = w.setCell ⟨p, 2, none⟩ (.slice a n cap) := by
  have u : IntKind.i64.wrap (room - n) = room - n := IntWalk.i64_in _ (by omega)
  have u2 : IntKind.i64.wrap (n : Int) = (n : Int) := IntWalk.i64_in _ (by omega)
  have g1 : decide (room - n < (0 : Int)) = false := decide_eq_false (by omega)
  rcases O.2 with ⟨ha, rfl⟩ | ⟨g, cap1, cur, ha, hbg, hg, hnc, hcm, hcs, htake⟩
  · cases ha
    obtain ⟨l0, k0, f0⟩ := B
    go_enter Try.func72, Try.ntmps72
    go_wp2
    go_ret2
    exact ⟨rfl, rfl⟩
  · cases ha
    have e3 : (n : Int) ≤ cap := by omega
    obtain ⟨l0, k0, f0⟩ := B
    go_enter Try.func72, Try.ntmps72
    go_wp2
    go_ret2
    exact ⟨by simp, rfl⟩
end Go.Proofs.Ytcklmemnjchdcaa

/-
  Package little: Pad, of an Out that was made.
-/

namespace Go.Proofs.Ytcklmemnjchdcaa
open Go.RowKit
set_option linter.unusedVariables false
set_option linter.unusedSimpArgs false

theorem pad_less (size room er : Int) (a : Option Addr) (n cap : Nat) (p : Nat) (w : World) (B : Blk w p (outC room a n cap er)) (h : size ≤ n) :
    Calls Try.prog 62 #[at' p, .int .i64 size] w fun e w' => e = .returned (.tuple #[]) ∧ w' = w := by
  have g : decide ((n : Int) < size) = false := decide_eq_false (by omega)
  obtain ⟨l0, k0, f0⟩ := B
  go_enter Try.func62, Try.ntmps62
  go_wp2
  go_end0
  exact ⟨rfl, rfl⟩
/-- Pad of more is lend of what lacks. -/
theorem pad_more (size room er : Int) (a : Option Addr) (n cap : Nat) (p : Nat) (w : World) (B : Blk w p (outC room a n cap er)) (h : (n : Int) < size) (hs : size ≤ 9223372036854775807) (R : World → Prop)
    (K : Calls Try.prog 72 #[at' p, .int .i64 (size - n)] w fun e w' => (∃ v, e = .returned v) ∧ R w') :
    Calls Try.prog 62 #[at' p, .int .i64 size] w fun e w' => e = .returned (.tuple #[]) ∧ R w' := by
  have u : IntKind.i64.wrap (size - n) = size - n := IntWalk.i64_in _ (by omega)
  replace K := hid K
  obtain ⟨l0, k0, f0⟩ := B
  go_enter Try.func62, Try.ntmps62
  go_wp2_with fail
  refine K.out.mono ?_
  rintro e w1 ⟨⟨v, rfl⟩, hR⟩
  replace hR := hid hR
  go_wp2
  go_end0
  exact ⟨rfl, hR.out⟩
end Go.Proofs.Ytcklmemnjchdcaa

/-
  Package little: Text of an Out.
-/

namespace Go.Proofs.Ytcklmemnjchdcaa
open Go.RowKit
set_option linter.unusedVariables false
set_option linter.unusedSimpArgs false

/-- An Out with an error stays as it is. -/
theorem text_err (s : ByteArray) (p : Nat) (a : Option Addr) (room : Int) (l : List UInt8) (er : Int) (w : World) (O : OutS w p a room l er) (h : (er == 0) = false) :
    Calls Try.prog 61 #[at' p, .string s] w fun e w' => e = .returned (.tuple #[]) ∧ w' = w := by
  obtain ⟨cap, B, _⟩ := O
  have K := hid (fun size => lend_err size room er a l.length cap p w B h)
  clear B
  go_enter Try.func61, Try.ntmps61
  go_wp2_with fail
  refine (K.out _).mono ?_
  rintro e w1 ⟨rfl, rfl⟩
  go_wp2
  go_end0
  exact ⟨rfl, rfl⟩
theorem text_full (s : ByteArray) (p : Nat) (a : Option Addr) (room : Int) (l : List UInt8) (w : World) (O : OutS w p a room l 0) (h0 : 0 ≤ room) (h1 : room ≤ 65536) (hn : (l.length : Int) ≤ room) (h : room - l.length < s.size) :
    Calls Try.prog 61 #[at' p, .string s] w fun e w' => e = .returned (.tuple #[]) ∧ w' = w.setCell ⟨p, 3, none⟩ (.int .i64 10) := by
  obtain ⟨cap, B, _⟩ := O
  have K := hid (lend_full s.size room a l.length cap p w B h0 h1 hn h)
  clear B
  go_enter Try.func61, Try.ntmps61
  go_wp2_with fail
  refine K.out.mono ?_
  rintro e w1 ⟨rfl, rfl⟩
  go_wp2
  go_end0
  exact ⟨rfl, rfl⟩

theorem wpList_copy_eq {P : Program} (w : World) {ops : Array Oper} {rest : List Oper} {o : Oper} {a : Act} {Q : Exit → Act → World → Prop} (hgd : o.guard = none) (d s : Operand) (t t' : TypeId)
    (ho : o.op = .call { callee := .builtin .copy, args := #[d, s], argTypes := #[t, t'] }) (vd vs : Value) (hd : a.eval d = vd) (hs : a.eval s = vs)
    (v' : Value) (w' : World) (hr : (Builtin.copy_ #[t, t'] o.type #[vd, vs]).run P w = .ok v' w') (h : wpList P ops Q rest (a.put o.dst v') w') : wpList P ops Q (o :: rest) a w := by
  refine wpList_plain hgd fun K hK => ?_
  unfold Oper.wp
  simp [execOp, ho, resolve, invoke, builtin, hd, hs, hr, Result.andThen]
  exact hK _ _ h

theorem size_list (s : ByteArray) : s.data.toList.length = s.size := Array.length_toList
theorem u8One : (Try.prog.info? 5).map (·.size) = some 1 := by kernel_rfl

/-- A store of what is there. -/
theorem set_same {w : World} {p : Nat} {room : Int} {a : Option Addr} {l : List UInt8} {e : Int} {cap : Nat} (B : Blk w p (outC room a l.length cap e)) (O : w.ownsRow (p + 1) 5 1 (.slice a l.length cap) l.length (Lib.byteCells l)) :
    OutS (w.setCell ⟨p, 2, none⟩ (.slice a l.length cap)) p a room l e ∧ Grew p a a w (w.setCell ⟨p, 2, none⟩ (.slice a l.length cap)) :=
  ⟨⟨cap, B.set 2 _ (by simp), ownsRow_setCell_below O (Nat.lt_succ_self p) _⟩, Sole.setCell _ _ (.inl rfl), .inl rfl⟩

set_option maxRecDepth 100000 in
set_option maxHeartbeats 2000000 in
theorem text_ok (s : ByteArray) (p : Nat) (a : Option Addr) (room : Int) (l : List UInt8) (w : World) (O : OutS w p a room l 0) (h0 : 0 ≤ room) (h1 : room ≤ 65536) (h : (l.length : Int) + s.size ≤ room) :
    Calls Try.prog 61 #[at' p, .string s] w fun e w' => e = .returned (.tuple #[]) ∧ ∃ a', OutS w' p a' room (l ++ s.data.toList) 0 ∧ Grew p a a' w w' := by
  obtain ⟨cap, B, O⟩ := O
  by_cases hs : s.size = 0
  · have K := hid (lend_zero room a l.length cap (Lib.byteCells l) p w B O h0 h1 (by omega))
    have E := hid (set_same B O)
    have e0 : s.data.toList = [] := by
      apply List.eq_nil_of_length_eq_zero
      rw [size_list]; exact hs
    rw [← show ((s.size : Nat) : Int) = 0 by omega] at K
    have kc := fun (w : World) ty => Lib.run_copy_empty_string (P := Try.prog) w 51 9 ty 5 a 0 0 s Try.underlying51 (by rw [u8One]; rfl) hs
    have HE := hid e0
    replace kc := hid kc
    clear e0 B O hs
    go_enter Try.func61, Try.ntmps61
    go_wp2_with fail
    refine K.out.mono ?_
    rintro e w1 ⟨rfl, rfl⟩
    go_wp2_with (with_reducible refine wpList_copy_eq _ rfl (.tmp 14) (.tmp 15) _ _ rfl _ _ rfl rfl _ _ (kc.out _ _) ?_)
    go_end0
    exact ⟨rfl, a, by rw [HE.out, List.append_nil]; exact E.out.1, E.out.2⟩
  · have K := hid (lend_ok s.size room a l.length cap (Lib.byteCells l) p w B O h0 h1 h (by omega))
    clear B O
    go_enter Try.func61, Try.ntmps61
    go_wp2_with fail
    refine K.out.mono ?_
    rintro e w1 ⟨g, cap', rfl, B1, O1, G1⟩
    obtain ⟨g', c', cur, hv, hbg, hg, hn', hc', hcs, htk⟩ := O1.2.resolve_left (fun x => by cases x.1)
    cases hv
    have kc := hid (fun ty => Lib.run_copy_row_string (P := Try.prog) w1 51 9 ty 5 g l.length s.size s.size s cur 5 Try.underlying51 u8One hg (Nat.le_refl _) (by omega))
    have hgp : p ≠ g := by omega
    have E : Hid (∃ a', OutS (w1.setRow g (cur.toList.take l.length ++ Lib.byteCells s.data.toList ++ cur.toList.drop (l.length + s.size)).toArray) p a' room (l ++ s.data.toList) 0 ∧ Grew p a a' w (w1.setRow g (cur.toList.take l.length ++ Lib.byteCells s.data.toList ++ cur.toList.drop (l.length + s.size)).toArray)) := hid (by
      have hsz : s.data.toList.length = s.size := size_list s
      have hcl : cur.toList.length = cap' := by simpa using hcs
      have hS : Sole (Mine p (some ⟨g, 0, none⟩)) w1 (w1.setRow g (cur.toList.take l.length ++ Lib.byteCells s.data.toList ++ cur.toList.drop (l.length + s.size)).toArray) :=
        ⟨rfl, rfl, rfl, by simp [World.setRow], fun k _ hk => setRow_other _ _ _ _ fun e => hk (.inr ⟨_, rfl, e.symm⟩)⟩
      refine ⟨some ⟨g, 0, none⟩, ⟨cap', ?_, ?_⟩, G1.trans ⟨hS, .inl rfl⟩⟩
      · have := B1.sole (S := fun k => k = g) (w' := w1.setRow g (cur.toList.take l.length ++ Lib.byteCells s.data.toList ++ cur.toList.drop (l.length + s.size)).toArray)
          ⟨rfl, rfl, rfl, by simp [World.setRow], fun k _ hk => setRow_other _ _ _ _ hk⟩ hgp
        rw [List.length_append, hsz]
        exact this
      · rw [List.length_append, hsz]
        refine ⟨by rw [Lib.byteCells_length, List.length_append, hsz, Nat.mul_one], .inr ⟨g, cap', _, rfl, hbg, setRow_heap _ _ _ _ _ _ hg, hn', hc', ?_, ?_⟩⟩
        · simp only [List.size_toArray, List.length_append, List.length_take, List.length_drop, Lib.byteCells_length, hsz, hcl]
          omega
        · have ht : cur.toList.take l.length = Lib.byteCells l := by
            have := congrArg (List.take l.length) htk
            rw [List.take_take, Nat.mul_one, Nat.min_eq_left (by omega)] at this
            rw [this, List.take_append_of_le_length (by rw [Lib.byteCells_length]; exact Nat.le_refl _), List.take_of_length_le (by rw [Lib.byteCells_length]; exact Nat.le_refl _)]
          rw [ht, Lib.byteCells_append, Nat.mul_one]
          exact List.take_left' (by rw [List.length_append, Lib.byteCells_length, Lib.byteCells_length, hsz]))
    clear B1 O1 G1 hg hcs htk hc' hn'
    go_wp2_with (with_reducible refine wpList_copy_eq _ rfl (.tmp 14) (.tmp 15) _ _ rfl _ _ rfl rfl _ _ (kc.out _) ?_)
    go_end0
    exact ⟨rfl, by have h := E.out; simp only [List.append_assoc] at h ⊢; exact h⟩
end Go.Proofs.Ytcklmemnjchdcaa

/-
  Package little: Num of an Out.
-/

namespace Go.Proofs.Ytcklmemnjchdcaa
open Go.RowKit
set_option linter.unusedVariables false
set_option linter.unusedSimpArgs false

/-- What the walk asks of a number that fits in s octets. -/
theorem shr_zero (n s : Nat) (h : n < 256 ^ s) : ((n : Int) / 2 ^ (8 * s) != 0) = false := by
  have : (n : Int) / 2 ^ (8 * s) = ((n / 2 ^ (8 * s) : Nat) : Int) := by simp
  rw [this, show 2 ^ (8 * s) = (2 ^ 8) ^ s from Nat.pow_mul 2 8 s, Nat.div_eq_of_lt h]
  rfl
theorem shr_octet (n k : Nat) : ((UInt8.ofNat (n / 256 ^ k)).toNat : Int) = (n : Int) / 2 ^ (8 * k) % 256 := by
  have : (n : Int) / 2 ^ (8 * k) = ((n / 2 ^ (8 * k) : Nat) : Int) := by simp
  rw [this, byte_ofNat, show 2 ^ (8 * k) = (2 ^ 8) ^ k from Nat.pow_mul 2 8 k]
/-- The row, k octets in. -/
def numRow (l : List UInt8) (n s k : Nat) : List Value := Lib.byteCells (l ++ leB n k) ++ List.replicate (s - k) (.int .u8 0)
theorem numRow_zero (l : List UInt8) (n s : Nat) : numRow l n s 0 = Lib.byteCells l ++ List.replicate s (.int .u8 0) := by simp [numRow, leB]
theorem numRow_all (l : List UInt8) (n s : Nat) : numRow l n s s = Lib.byteCells (l ++ leB n s) := by simp [numRow]
theorem numRow_get (l : List UInt8) (n s k : Nat) (h : k < s) : (numRow l n s k)[l.length + k]? = some (.int .u8 0) := by
  have e : (Lib.byteCells (l ++ leB n k)).length = l.length + k := by rw [Lib.byteCells_length, List.length_append, leB_length]
  unfold numRow
  rw [List.getElem?_append_right (by rw [e]; exact Nat.le_refl _), e, Nat.sub_self, List.getElem?_replicate, if_pos (by omega)]
theorem numRow_set (l : List UInt8) (n s k : Nat) (h : k < s) : (numRow l n s k).set (l.length + k) (.int .u8 ((n : Int) / 2 ^ (8 * k) % 256)) = numRow l n s (k + 1) := by
  have e : (Lib.byteCells (l ++ leB n k)).length = l.length + k := by rw [Lib.byteCells_length, List.length_append, leB_length]
  unfold numRow
  rw [List.set_append_right _ _ (by rw [e]; exact Nat.le_refl _), e, Nat.sub_self, show s - k = (s - (k + 1)) + 1 by omega, List.replicate_succ, List.set_cons_zero, leB_snoc, ← List.append_assoc, Lib.byteCells_append _ [_], ← shr_octet]
  simp [Lib.byteCells]

set_option maxRecDepth 100000 in
set_option maxHeartbeats 4000000 in
theorem num_ok (n : Nat) (size : Int) (s : Nat) (hs : min (max size 1) 6 = s) (hn : n < 256 ^ s) (p : Nat) (a : Option Addr) (room : Int) (l : List UInt8) (w : World) (O : OutS w p a room l 0) (h0 : 0 ≤ room) (h1 : room ≤ 65536) (h : (l.length : Int) + s ≤ room) :
    Calls Try.prog 55 #[at' p, .int .i64 n, .int .i64 size] w fun e w' => e = .returned (.tuple #[]) ∧ ∃ a', OutS w' p a' room (l ++ leB n s) 0 ∧ Grew p a a' w w' := by
  obtain ⟨cap, B, O⟩ := O
  have KN := hid (fun w => nearest_any size 1 6 w)
  have K := hid (lend_ok s room a l.length cap (Lib.byteCells l) p w B O h0 h1 h (by omega))
  rw [hs] at KN
  have hsb : 1 ≤ s ∧ s ≤ 6 := by omega
  clear B O hs
  have u8 : IntKind.i64.wrap (8 * (s : Int)) = 8 * (s : Int) := IntWalk.i64_in _ (by omega)
  have g0 := shr_zero n s hn
  have hn0 : decide ((n : Int) < 0) = false := decide_eq_false (by omega)
  go_enter Try.func55, Try.ntmps55
  go_wp2_with fail
  refine (KN.out _).mono ?_
  rintro e w1 ⟨rfl, rfl⟩
  go_wp2_with fail
  refine K.out.mono ?_
  rintro e w2 ⟨g, cap', rfl, B1, O1, G1⟩
  have hcap := hid (show l.length + s ≤ cap' ∧ p + 1 ≤ g by
    obtain ⟨g', c', cur, hv, hbg, hg, hn', hc', hcs, htk⟩ := O1.2.resolve_left (fun x => by cases x.1)
    cases hv
    exact ⟨hn', hbg⟩)
  rw [← numRow_zero l n s] at O1
  have E := hid (And.intro B1 (And.intro O1 G1))
  clear B1 O1 G1 u8 g0 hn0 K
  go_wp2_with fail
  go_loopw [31] (fun i wx => ∃ k : Nat, k ≤ s ∧ i = .int .i64 (k : Int) ∧ Blk wx p (outC room (some ⟨g, 0, none⟩) (l.length + s) cap' 0) ∧ wx.ownsRow (p + 1) 5 1 (.slice (some ⟨g, 0, none⟩) (l.length + s) cap') (l.length + s) (numRow l n s k) ∧ Grew p a (some ⟨g, 0, none⟩) w1 wx) (fun i _ => s - (intOf i).toNat)
  case atStart => exact ⟨0, by omega, rfl, E.out⟩
  case round =>
    clear E
    obtain ⟨k, hk, rfl, B2, O2, G2⟩ := hrel
    by_cases hlt : k < s
    · have u : IntKind.i64.wrap (8 * (k : Int)) = 8 * (k : Int) := IntWalk.i64_in _ (by omega)
      obtain ⟨g', c', cur, hv, _, _, _, B3, _, hc3⟩ := own_blk O2 (by omega)
      cases hv
      have z : World.cell? (by assumption) ⟨g, l.length + k, none⟩ = some (.int .u8 0) := by
        rw [B3.cell, hc3 _ (by omega), numRow_get l n s k hlt]
      have f := B3.frz
      have lt := B3.lt
      have hne : p ≠ g := by have := hcap.out; omega
      have B4 := hid (B2.other ⟨g, l.length + k, none⟩ (Ne.symm hne) (.int .u8 ((n : Int) / 2 ^ (8 * k) % 256)))
      have O4 := own_set O2 (l.length + k) (.int .u8 ((n : Int) / 2 ^ (8 * k) % 256))
      rw [numRow_set l n s k hlt] at O4
      replace O4 := hid O4
      have G4 := hid (G2.trans (w2 := World.setCell _ ⟨g, l.length + k, none⟩ (.int .u8 ((n : Int) / 2 ^ (8 * k) % 256))) ⟨Sole.setCell _ _ (.inr ⟨_, rfl, rfl⟩), .inl rfl⟩)
      clear B2 O2 G2 B3 hc3
      go_wp2_with fail
      go_roundw
      case rel => exact ⟨k + 1, by omega, by go_num, B4.out, O4.out, G4.out⟩
      case measure => simp [intOf]; omega
    · obtain rfl : k = s := by omega
      have E := hid (show ∃ a', OutS _ p a' room (l ++ leB n k) 0 ∧ Grew p a a' w1 _ from ⟨some ⟨g, 0, none⟩, ⟨cap', by rw [List.length_append, leB_length]; exact B2, by rw [List.length_append, leB_length, ← numRow_all]; exact O2⟩, G2⟩)
      clear B2 O2 G2
      go_wp2
      go_end0
      exact ⟨rfl, E.out⟩
end Go.Proofs.Ytcklmemnjchdcaa

/-
  Package little: Num of an Out, where it writes nothing.
-/

namespace Go.Proofs.Ytcklmemnjchdcaa
open Go.RowKit
set_option linter.unusedVariables false
set_option linter.unusedSimpArgs false

theorem num_err (n size : Int) (p : Nat) (a : Option Addr) (room : Int) (l : List UInt8) (er : Int) (w : World) (O : OutS w p a room l er) (h : (er == 0) = false) :
    Calls Try.prog 55 #[at' p, .int .i64 n, .int .i64 size] w fun e w' => e = .returned (.tuple #[]) ∧ w' = w := by
  obtain ⟨cap, B, O⟩ := O
  have KN := hid (fun w => nearest_any size 1 6 w)
  have KF := hid (fail_later 4 room er a l.length cap p w B h)
  have KL := hid (fun size => lend_err size room er a l.length cap p w B h)
  obtain ⟨s, hs, hs1, hs6⟩ : ∃ s : Nat, min (max size 1) 6 = s ∧ 1 ≤ s ∧ s ≤ 6 := ⟨(min (max size 1) 6).toNat, by omega, by omega, by omega⟩
  rw [hs] at KN
  clear B O hs
  have u8 : IntKind.i64.wrap (8 * (s : Int)) = 8 * (s : Int) := IntWalk.i64_in _ (by omega)
  go_enter Try.func55, Try.ntmps55
  go_wp2_with fail
  refine (KN.out _).mono ?_
  rintro e w1 ⟨rfl, rfl⟩
  go_wp2_with fail
  all_goals
    ((first | refine KF.out.mono ?_ | refine (KL.out _).mono ?_); rintro e w2 ⟨rfl, rfl⟩)
    go_wp2
    (try simp only [Exit.inBlock, Exit.then])
    refine bodyPost_ret (results_none rfl _ _ _) rfl ?_
    exact ⟨rfl, rfl⟩
theorem shr_some (n : Int) (s : Nat) (h0 : 0 ≤ n) (h : (256 : Int) ^ s ≤ n) : (n / 2 ^ (8 * s) != 0) = true := by
  have e : (2 : Int) ^ (8 * s) = 256 ^ s := by rw [Int.pow_mul]; rfl
  rw [e]
  have hp : (0 : Int) < 256 ^ s := Int.pow_pos (by omega)
  have : 1 ≤ n / 256 ^ s := by
    apply Int.le_ediv_of_mul_le hp
    omega
  simp
  omega
theorem num_range (n size : Int) (s : Nat) (hs : min (max size 1) 6 = s) (hn : n < 0 ∨ (256 : Int) ^ s ≤ n) (p : Nat) (a : Option Addr) (room : Int) (l : List UInt8) (w : World) (O : OutS w p a room l 0) :
    Calls Try.prog 55 #[at' p, .int .i64 n, .int .i64 size] w fun e w' => e = .returned (.tuple #[]) ∧ w' = w.setCell ⟨p, 3, none⟩ (.int .i64 4) := by
  obtain ⟨cap, B, O⟩ := O
  have KN := hid (fun w => nearest_any size 1 6 w)
  have KF := hid (fail_first 4 room a l.length cap p w B)
  have hsb : 1 ≤ s ∧ s ≤ 6 := by omega
  rw [hs] at KN
  clear B O hs
  have u8 : IntKind.i64.wrap (8 * (s : Int)) = 8 * (s : Int) := IntWalk.i64_in _ (by omega)
  have ways : (n < 0) ∨ (decide (n < 0) = false ∧ (n / 2 ^ (8 * s) != 0) = true) := by
    by_cases h : n < 0
    · exact .inl h
    · exact .inr ⟨decide_eq_false h, shr_some n s (by omega) (hn.resolve_left h)⟩
  clear hn
  rcases ways with g | ⟨g1, g2⟩
  · go_enter Try.func55, Try.ntmps55
    go_wp2_with fail
    refine (KN.out _).mono ?_
    rintro e w1 ⟨rfl, rfl⟩
    go_wp2_with fail
    refine KF.out.mono ?_
    rintro e w2 ⟨rfl, rfl⟩
    go_wp2
    (try simp only [Exit.inBlock, Exit.then])
    refine bodyPost_ret (results_none rfl _ _ _) rfl ?_
    exact ⟨rfl, rfl⟩
  · go_enter Try.func55, Try.ntmps55
    go_wp2_with fail
    refine (KN.out _).mono ?_
    rintro e w1 ⟨rfl, rfl⟩
    go_wp2_with fail
    refine KF.out.mono ?_
    rintro e w2 ⟨rfl, rfl⟩
    go_wp2
    (try simp only [Exit.inBlock, Exit.then])
    refine bodyPost_ret (results_none rfl _ _ _) rfl ?_
    exact ⟨rfl, rfl⟩
theorem num_full (n : Nat) (size : Int) (s : Nat) (hs : min (max size 1) 6 = s) (hn : n < 256 ^ s) (p : Nat) (a : Option Addr) (room : Int) (l : List UInt8) (w : World) (O : OutS w p a room l 0) (h0 : 0 ≤ room) (h1 : room ≤ 65536) (hl : (l.length : Int) ≤ room) (h : room < (l.length : Int) + s) :
    Calls Try.prog 55 #[at' p, .int .i64 n, .int .i64 size] w fun e w' => e = .returned (.tuple #[]) ∧ w' = w.setCell ⟨p, 3, none⟩ (.int .i64 10) := by
  obtain ⟨cap, B, O⟩ := O
  have KN := hid (fun w => nearest_any size 1 6 w)
  have K := hid (lend_full s room a l.length cap p w B h0 h1 hl (by omega))
  rw [hs] at KN
  have hsb : 1 ≤ s ∧ s ≤ 6 := by omega
  clear B O hs
  have u8 : IntKind.i64.wrap (8 * (s : Int)) = 8 * (s : Int) := IntWalk.i64_in _ (by omega)
  have g0 := shr_zero n s hn
  have hn0 : decide ((n : Int) < 0) = false := decide_eq_false (by omega)
  go_enter Try.func55, Try.ntmps55
  go_wp2_with fail
  refine (KN.out _).mono ?_
  rintro e w1 ⟨rfl, rfl⟩
  go_wp2_with fail
  refine K.out.mono ?_
  rintro e w2 ⟨rfl, rfl⟩
  go_wp2
  (try simp only [Exit.inBlock, Exit.then])
  refine bodyPost_ret (results_none rfl _ _ _) rfl ?_
  exact ⟨rfl, rfl⟩
end Go.Proofs.Ytcklmemnjchdcaa

/-
  Package little: Done of an Out.
-/


namespace Go.Proofs.Ytcklmemnjchdcaa
open Go.RowKit
set_option linter.unusedVariables false
set_option linter.unusedSimpArgs false

theorem done_ok (p : Nat) (a : Option Addr) (room : Int) (l : List UInt8) (w : World) (O : OutS w p a room l 0) (hl : l.length ≤ 140737488355328) :
    Calls Try.prog 56 #[at' p] w fun e w' => ∃ v, e = .returned (.tuple #[v, .int .i64 0]) ∧ Fresh w w' v l := by
  obtain ⟨cap, B, O⟩ := O
  have K := hid (clone_any l a cap w (Octs.of_own O) hl)
  clear O
  obtain ⟨l0, k0, f0⟩ := B
  replace hl := hid hl
  go_enter Try.func56, Try.ntmps56
  go_wp2_with fail
  refine K.out.mono ?_
  rintro e w1 ⟨v, rfl, F⟩
  replace F := hid F
  go_wp2
  go_ret2
  exact ⟨v, rfl, F.out⟩
end Go.Proofs.Ytcklmemnjchdcaa

/-
  Package little: Pad of an Out, whichever way.
-/

namespace Go.Proofs.Ytcklmemnjchdcaa
open Go.RowKit
set_option linter.unusedVariables false
set_option linter.unusedSimpArgs false

theorem zeros_bytes (n : Nat) : List.replicate n (.int .u8 0) = Lib.byteCells (List.replicate n 0) := by simp [Lib.byteCells]
theorem pad_ok (size : Int) (p : Nat) (a : Option Addr) (room : Int) (l : List UInt8) (w : World) (O : OutS w p a room l 0) (h0 : 0 ≤ room) (h1 : room ≤ 65536) (h : size ≤ room) :
    Calls Try.prog 62 #[at' p, .int .i64 size] w fun e w' => e = .returned (.tuple #[]) ∧ ∃ a', OutS w' p a' room (l ++ List.replicate (size.toNat - l.length) 0) 0 ∧ Grew p a a' w w' := by
  have HO := O
  obtain ⟨cap, B, O⟩ := O
  by_cases hn : size ≤ l.length
  · refine (pad_less size room 0 a l.length cap p w B hn).mono ?_
    rintro e w' ⟨he, rfl⟩
    have e0 : size.toNat - l.length = 0 := by omega
    exact ⟨he, a, by rw [e0, List.replicate_zero, List.append_nil]; exact HO, Grew.refl _ _ _⟩
  · have e0 : size - l.length = ((size.toNat - l.length : Nat) : Int) := by omega
    have K := lend_ok (size.toNat - l.length) room a l.length cap (Lib.byteCells l) p w B O h0 h1 (by omega) (by omega)
    rw [← e0] at K
    refine pad_more size room 0 a l.length cap p w B (by omega) (by omega) _ (K.mono ?_)
    rintro e w' ⟨g, cap', he, B1, O1, G1⟩
    have hl : (l ++ List.replicate (size.toNat - l.length) (0 : UInt8)).length = l.length + (size.toNat - l.length) := by simp
    exact ⟨⟨_, he⟩, some ⟨g, 0, none⟩, ⟨cap', by rw [hl]; exact B1, by rw [hl, Lib.byteCells_append, ← zeros_bytes]; exact O1⟩, G1⟩
end Go.Proofs.Ytcklmemnjchdcaa

/-
  The document's own numbers as octets, and back.
-/


namespace Go.Proofs.Ytcklmemnjchdcaa
open Go.RowKit
set_option linter.unusedVariables false
set_option linter.unusedSimpArgs false

end Go.Proofs.Ytcklmemnjchdcaa

/-
  Layer 1's fields: as they come in; of which kind one is.
-/




namespace Go.Proofs.Ytcklmemnjchdcaa
open Go.ChangeShapes Go.WideShapes Go.ChangeAt Go.RowKit Go.Joins Go.Deep
set_option linter.unusedVariables false
set_option linter.unusedSimpArgs false

structure Fd where
  k : Int
  n : Int
  z : Int
  s : ByteArray
def Fd.ok (p : Fd) : Prop := -9223372036854775808 ≤ p.k ∧ p.k ≤ 9223372036854775807 ∧ -9223372036854775808 ≤ p.n ∧ p.n ≤ 9223372036854775807 ∧ -9223372036854775808 ≤ p.z ∧ p.z ≤ 9223372036854775807 ∧ p.s.size ≤ maxLen
def fcells (p : Fd) : List Value := [.int .i64 p.k, .int .i64 p.n, .int .i64 p.z, .string p.s]

/-- Of which kind. -/
def kindI (k : Int) : Int := (k.tmod 3 + 3) % 3
/-- What is read: of what is left, or of nothing. -/
def RS (w : World) (p : Nat) (l : List UInt8) (bad : Bool) : Prop := InS w p l (if bad then 16 else 0) ∧ (bad = true → l = [])
theorem RS.more {w w' : World} {p : Nat} {l : List UInt8} {bad : Bool} (h : RS w p l bad) (hb : Below w.heap.size w w') : RS w' p l bad := ⟨h.1.more hb, h.2⟩
theorem rs_num (size : Int) (n : Nat) (hn : min (max size 1) 6 = n) (p : Nat) (l : List UInt8) (bad bad' : Bool) (hb : bad' = (bad || decide (l.length < n))) (w : World) (R : RS w p l bad) :
    Calls Try.prog 91 #[at' p, .int .i64 size] w fun e w' => e = .returned (.int .i64 (numOf (if bad' then [] else l.take n))) ∧ RS w' p (if bad' then [] else l.drop n) bad' ∧ Sole (fun k => k = p) w w' := by
  obtain ⟨I, hl⟩ := R
  cases bad with
  | true =>
    obtain rfl : bad' = true := by rw [hb]; rfl
    obtain rfl := hl rfl
    refine (inNum_err size p [] 16 w I rfl).mono ?_
    rintro e w' ⟨he, rfl⟩
    exact ⟨he, ⟨I, fun _ => rfl⟩, Sole.refl _ _⟩
  | false =>
    by_cases h : l.length < n
    · obtain rfl : bad' = true := by rw [hb, decide_eq_true h]; rfl
      exact (inNum_short size p l w I (by omega)).mono fun e w' ⟨he, I', S⟩ => ⟨he, ⟨I', fun _ => rfl⟩, S⟩
    · obtain rfl : bad' = false := by rw [hb, decide_eq_false h]; rfl
      exact (inNum_ok size n hn p l w I (by omega)).mono fun e w' ⟨he, I', S⟩ => ⟨he, ⟨I', fun h => by cases h⟩, S⟩
theorem rs_text (size : Int) (n : Nat) (hn : max size 0 = n) (p : Nat) (l : List UInt8) (bad bad' : Bool) (hb : bad' = (bad || decide (l.length < n))) (w : World) (R : RS w p l bad) :
    Calls Try.prog 90 #[at' p, .int .i64 size] w fun e w' => e = .returned (.string (textOf (if bad' then [] else l.take n))) ∧ RS w' p (if bad' then [] else l.drop n) bad' ∧ Sole (fun k => k = p) w w' := by
  obtain ⟨I, hl⟩ := R
  cases bad with
  | true =>
    obtain rfl : bad' = true := by rw [hb]; rfl
    obtain rfl := hl rfl
    refine (inText_err size p [] 16 w I rfl).mono ?_
    rintro e w' ⟨he, rfl⟩
    exact ⟨he, ⟨I, fun _ => rfl⟩, Sole.refl _ _⟩
  | false =>
    by_cases h : l.length < n
    · obtain rfl : bad' = true := by rw [hb, decide_eq_true h]; rfl
      exact (inText_short size p l w I (by omega)).mono fun e w' ⟨he, I', S⟩ => ⟨he, ⟨I', fun _ => rfl⟩, S⟩
    · obtain rfl : bad' = false := by rw [hb, decide_eq_false h]; rfl
      have e : size.toNat = n := by omega
      refine (inText_ok size p l w I (by omega)).mono fun e' w' ⟨he, I', S⟩ => ?_
      rw [e] at he I'
      exact ⟨he, ⟨I', fun h => by cases h⟩, S⟩
end Go.Proofs.Ytcklmemnjchdcaa

/-
  Layer 1: the page's example: 258 in three octets.
-/





namespace Go.Proofs.Ytcklmemnjchdcaa
open Go.RowKit
set_option linter.unusedVariables false
set_option linter.unusedSimpArgs false

theorem new_any (n : Int) (w : World) : Calls Try.prog 54 #[.int .i64 n] w fun e w' => e = .returned (at' w.heap.size) ∧ w' = w.alloc (.cells #[.bool true, .int .i64 (min (max n 0) 65536), .slice none 0 0, .int .i64 0] 146) := by
  have K := hid (fun w => nearest_any n 0 65536 w)
  go_enter Try.func54, Try.ntmps54
  go_wp2_with fail
  refine (K.out _).mono ?_
  rintro e w1 ⟨rfl, rfl⟩
  go_wp2
  go_ret
  exact ⟨rfl, rfl⟩

end Go.Proofs.Ytcklmemnjchdcaa

/-
  Layer 1: one field written: what becomes of an Out, and of the law's own octets.
-/


namespace Go.Proofs.Ytcklmemnjchdcaa
open Go.RowKit
set_option linter.unusedVariables false
set_option linter.unusedSimpArgs false

/-- What becomes of an Out with l and e by m octets more, which are nl. -/
def Step (room : Int) (l : List UInt8) (e : Int) (bad : Prop) (m : Int) (nl : List UInt8) (l' : List UInt8) (e' : Int) : Prop :=
  ((e == 0) = false ∧ l' = l ∧ e' = e) ∨ (e = 0 ∧ bad ∧ l' = l ∧ e' = 4) ∨ (e = 0 ∧ ¬ bad ∧ (l.length : Int) + m ≤ room ∧ l' = l ++ nl ∧ e' = 0) ∨ (e = 0 ∧ ¬ bad ∧ room < (l.length : Int) + m ∧ l' = l ∧ e' = 10)

theorem ow_num (N size : Int) (m : Nat) (hm : min (max size 1) 6 = m) (p : Nat) (a : Option Addr) (room : Int) (l l' : List UInt8) (e e' : Int) (w : World) (O : OutS w p a room l e) (h0 : 0 ≤ room) (h1 : room ≤ 65536) (hl : (l.length : Int) ≤ room)
    (S : Step room l e (N < 0 ∨ (256 : Int) ^ m ≤ N) m (leB N.toNat m) l' e') :
    Calls Try.prog 55 #[at' p, .int .i64 N, .int .i64 size] w fun en w' => en = .returned (.tuple #[]) ∧ ∃ a', OutS w' p a' room l' e' ∧ Grew p a a' w w' := by
  rcases S with ⟨h, rfl, rfl⟩ | ⟨rfl, hb, rfl, rfl⟩ | ⟨rfl, hb, hr, rfl, rfl⟩ | ⟨rfl, hb, hr, rfl, rfl⟩
  · refine (num_err N size p a room _ _ w O h).mono ?_
    rintro en w' ⟨he, rfl⟩
    exact ⟨he, a, O, Grew.refl _ _ _⟩
  · refine (num_range N size m hm hb p a room _ w O).mono ?_
    rintro en w' ⟨he, rfl⟩
    exact ⟨he, a, (O.fail 4).1, (O.fail 4).2⟩
  · obtain ⟨N', rfl⟩ := Int.eq_ofNat_of_zero_le (show 0 ≤ N by omega)
    have hlt : N' < 256 ^ m := by
      have : ¬ (256 : Int) ^ m ≤ (N' : Int) := fun h => hb (.inr h)
      have e : ((256 ^ m : Nat) : Int) = (256 : Int) ^ m := by simp
      omega
    exact num_ok N' size m hm hlt p a room _ w O h0 h1 hr
  · obtain ⟨N', rfl⟩ := Int.eq_ofNat_of_zero_le (show 0 ≤ N by omega)
    have hlt : N' < 256 ^ m := by
      have : ¬ (256 : Int) ^ m ≤ (N' : Int) := fun h => hb (.inr h)
      have e : ((256 ^ m : Nat) : Int) = (256 : Int) ^ m := by simp
      omega
    refine (num_full N' size m hm hlt p a room _ w O h0 h1 hl hr).mono ?_
    rintro en w' ⟨he, rfl⟩
    exact ⟨he, a, (O.fail 10).1, (O.fail 10).2⟩
theorem ow_text (s : ByteArray) (p : Nat) (a : Option Addr) (room : Int) (l l' : List UInt8) (e e' : Int) (w : World) (O : OutS w p a room l e) (h0 : 0 ≤ room) (h1 : room ≤ 65536) (hl : (l.length : Int) ≤ room)
    (S : Step room l e False s.data.toList.length s.data.toList l' e') :
    Calls Try.prog 61 #[at' p, .string s] w fun en w' => en = .returned (.tuple #[]) ∧ ∃ a', OutS w' p a' room l' e' ∧ Grew p a a' w w' := by
  rw [size_list] at S
  rcases S with ⟨h, rfl, rfl⟩ | ⟨rfl, hb, rfl, rfl⟩ | ⟨rfl, hb, hr, rfl, rfl⟩ | ⟨rfl, hb, hr, rfl, rfl⟩
  · refine (text_err s p a room _ _ w O h).mono ?_
    rintro en w' ⟨he, rfl⟩
    exact ⟨he, a, O, Grew.refl _ _ _⟩
  · exact hb.elim
  · exact text_ok s p a room _ w O h0 h1 hr
  · refine (text_full s p a room _ w O h0 h1 hl (by omega)).mono ?_
    rintro en w' ⟨he, rfl⟩
    exact ⟨he, a, (O.fail 10).1, (O.fail 10).2⟩
/-- The law's own octets: a row of its own, apart from the Out's. -/
structure AllS (w : World) (base p : Nat) (a : Option Addr) (v : Value) (l : List UInt8) : Prop where
  own : w.ownsRow base 5 1 v l.length (Lib.byteCells l)
  apart : ∀ k, v.ownBlock = some k → ¬ Mine p a k
theorem AllS.more {w w' : World} {base p : Nat} {a : Option Addr} {v : Value} {l : List UInt8} (h : AllS w base p a v l) (hb : Below w.heap.size w w') : AllS w' base p a v l :=
  ⟨own_sole (S := fun _ => False) h.own (Sole.made hb) fun _ _ x => x, h.apart⟩
theorem AllS.out {w w' : World} {base p : Nat} {a a' : Option Addr} {v : Value} {l : List UInt8} (h : AllS w base p a v l) (hg : Grew p a a' w w') : AllS w' base p a' v l := by
  refine ⟨own_sole h.own hg.sole h.apart, fun k hk hm => ?_⟩
  have lt := (h.own.lt k hk).2
  rcases hm with rfl | ⟨x, hx, rfl⟩
  · exact h.apart _ hk (.inl rfl)
  · rcases hg.new with e | ⟨g, e, hgs⟩
    · exact h.apart _ hk (.inr ⟨x, e ▸ hx, rfl⟩)
    · rw [e] at hx; cases hx
      simp only at lt
      omega
/-- Octets are appended to them. -/
theorem AllS.append {w : World} {base p : Nat} {a : Option Addr} {v : Value} {l l2 : List UInt8} {room e : Int} (h : AllS w base p a v l) (hp : OutS w p a room l2 e) (hbase : base ≤ w.heap.size) (ba : Option Addr) (bc : Nat) (bl : List UInt8) (hb : Octs w ba bl) (hn : l.length + bl.length ≤ 140737488355328) :
    ∃ v' w', (Builtin.append_ #[51, 51] 51 #[v, .slice ba bl.length bc]).run Try.prog w = .ok v' w' ∧ AllS w' base p a v' (l ++ bl) ∧ OutS w' p a room l2 e ∧ Below base w w' := by
  obtain ⟨v', w', hr, O, gr, mv⟩ := append_octs base 51 w v l.length _ h.own ba bc bl hb hn hbase
  have S : Sole (fun k => v.ownBlock = some k) w w' := Sole.grown gr fun k hk => hk
  refine ⟨v', w', hr, ⟨by rw [List.length_append, Lib.byteCells_append]; exact O, fun k hk hm => ?_⟩, hp.kept S fun k hk hv => h.apart k hv hk, S.below hbase fun k hk => (h.own.lt k hk).1⟩
  rcases mv with e | ⟨g, e, hg⟩
  · exact h.apart k (e ▸ hk) hm
  · rw [e] at hk; cases hk
    have := (hp.mine hm).2
    omega
/-- The value of the law's own row. -/
theorem AllS.form {w : World} {base p : Nat} {a : Option Addr} {v : Value} {l : List UInt8} (h : AllS w base p a v l) : ∃ ga gc, v = .slice ga l.length gc := by
  rcases h.own.2 with ⟨rfl, h0⟩ | ⟨g, c, cur, rfl, _⟩
  · exact ⟨none, 0, by rw [h0]⟩
  · exact ⟨_, c, rfl⟩
end Go.Proofs.Ytcklmemnjchdcaa

/-
  Package point: which may be; a point's octets.
-/


namespace Go.Proofs.Ytcklmemnjchdcaa
open Go.RowKit
set_option linter.unusedVariables false
set_option linter.unusedSimpArgs false

/-- Some step there is; where all is well it is the octets. -/
theorem step_some (room : Int) (l : List UInt8) (e : Int) (bad : Prop) (m : Int) (nl : List UInt8) (hl : (l.length : Int) ≤ room) (hm : (nl.length : Int) = m) :
    ∃ l' e', Step room l e bad m nl l' e' ∧ (l'.length : Int) ≤ room ∧ (e = 0 → ¬ bad → (l.length : Int) + m ≤ room → l' = l ++ nl ∧ e' = 0) := by
  by_cases h0 : e = 0
  · by_cases hb : bad
    · exact ⟨l, 4, .inr (.inl ⟨h0, hb, rfl, rfl⟩), hl, fun _ h _ => absurd hb h⟩
    · by_cases hr : (l.length : Int) + m ≤ room
      · exact ⟨l ++ nl, 0, .inr (.inr (.inl ⟨h0, hb, hr, rfl, rfl⟩)), by rw [List.length_append]; omega, fun _ _ _ => ⟨rfl, rfl⟩⟩
      · exact ⟨l, 10, .inr (.inr (.inr ⟨h0, hb, by omega, rfl, rfl⟩)), hl, fun _ _ h => absurd h hr⟩
  · exact ⟨l, e, .inl ⟨by simpa using h0, rfl, rfl⟩, hl, fun h => absurd h h0⟩

/-- A point's octets. -/
def pointB (P : Pt) : List UInt8 := leB P.id.toNat 4 ++ leB P.x.toNat 4 ++ leB P.y.toNat 4 ++ leB P.d.size 1 ++ P.d.data.toList
theorem pointB_length (P : Pt) : (pointB P).length = 13 + P.d.size := by
  simp only [pointB, List.length_append, leB_length, size_list]
/-- May a point be? -/
def Pt.may (P : Pt) : Prop := 1 ≤ P.id ∧ P.id < 2147483648 ∧ P.d.size ≤ 16

/-- One call more of an Out: its state, and what is known where all went well. -/
def OutK (w0 w : World) (p : Nat) (a : Option Addr) (room : Int) (fine : Prop) (l : List UInt8) : Prop :=
  ∃ a' l' e', OutS w p a' room l' e' ∧ Grew p a a' w0 w ∧ (l'.length : Int) ≤ room ∧ (fine → l' = l ∧ e' = 0)

theorem outk_num {w0 w : World} {p : Nat} {a : Option Addr} {room : Int} {fine : Prop} {l : List UInt8} (h : OutK w0 w p a room fine l) (h0 : 0 ≤ room) (h1 : room ≤ 65536) (N size : Int) (m : Nat) (hm : min (max size 1) 6 = m) :
    Calls Try.prog 55 #[at' p, .int .i64 N, .int .i64 size] w fun en w' => en = .returned (.tuple #[]) ∧ OutK w0 w' p a room (fine ∧ 0 ≤ N ∧ N < (256 : Int) ^ m ∧ (l.length : Int) + m ≤ room) (l ++ leB N.toNat m) := by
  obtain ⟨a1, l1, e1, O, G, hl, hf⟩ := h
  obtain ⟨l2, e2, S, hl2, hs⟩ := step_some room l1 e1 (N < 0 ∨ (256 : Int) ^ m ≤ N) m (leB N.toNat m) hl (by rw [leB_length])
  refine (ow_num N size m hm p a1 room l1 l2 e1 e2 w O h0 h1 hl S).mono ?_
  rintro en w' ⟨he, a2, O2, G2⟩
  refine ⟨he, a2, l2, e2, O2, G.trans G2, hl2, ?_⟩
  rintro ⟨hfine, hn0, hn1, hr⟩
  obtain ⟨rfl, rfl⟩ := hf hfine
  exact hs rfl (fun h => by rcases h with h | h <;> omega) hr
theorem outk_text {w0 w : World} {p : Nat} {a : Option Addr} {room : Int} {fine : Prop} {l : List UInt8} (h : OutK w0 w p a room fine l) (h0 : 0 ≤ room) (h1 : room ≤ 65536) (s : ByteArray) :
    Calls Try.prog 61 #[at' p, .string s] w fun en w' => en = .returned (.tuple #[]) ∧ OutK w0 w' p a room (fine ∧ (l.length : Int) + s.size ≤ room) (l ++ s.data.toList) := by
  obtain ⟨a1, l1, e1, O, G, hl, hf⟩ := h
  obtain ⟨l2, e2, S, hl2, hs⟩ := step_some room l1 e1 False s.data.toList.length s.data.toList hl rfl
  refine (ow_text s p a1 room l1 l2 e1 e2 w O h0 h1 hl S).mono ?_
  rintro en w' ⟨he, a2, O2, G2⟩
  refine ⟨he, a2, l2, e2, O2, G.trans G2, hl2, ?_⟩
  rintro ⟨hfine, hr⟩
  obtain ⟨rfl, rfl⟩ := hf hfine
  rw [← size_list] at hr
  exact hs rfl (fun h => h) hr
theorem OutK.more {w0 w w' : World} {p : Nat} {a : Option Addr} {room : Int} {fine : Prop} {l : List UInt8} (h : OutK w0 w p a room fine l) (hb : Below w.heap.size w w') : OutK w0 w' p a room fine l := by
  obtain ⟨a1, l1, e1, O, G, hl, hf⟩ := h
  exact ⟨a1, l1, e1, O.more hb, G.trans ⟨Sole.made hb, .inl rfl⟩, hl, hf⟩
theorem OutK.imp {w0 w : World} {p : Nat} {a : Option Addr} {room : Int} {fine fine' : Prop} {l l' : List UInt8} (h : OutK w0 w p a room fine l) (hf : fine' → fine) (hl : fine' → l = l') : OutK w0 w p a room fine' l' := by
  obtain ⟨a1, l1, e1, O, G, hle, hf'⟩ := h
  exact ⟨a1, l1, e1, O, G, hle, fun x => ⟨(hf' (hf x)).1.trans (hl x), (hf' (hf x)).2⟩⟩
theorem OutK.sole {w0 w : World} {p : Nat} {a : Option Addr} {room : Int} {fine : Prop} {l : List UInt8} (h : OutK w0 w p a room fine l) : Sole (Mine p a) w0 w := by
  obtain ⟨_, _, _, _, G, _, _⟩ := h; exact G.sole
theorem OutK.mine {w0 w : World} {p : Nat} {a : Option Addr} {room : Int} {fine : Prop} {l : List UInt8} (h : OutK w0 w p a room fine l) {l0 : List UInt8} {e0 : Int} (O : OutS w0 p a room l0 e0) {k : Nat} (hk : Mine p a k) : k < w0.heap.size := (O.mine hk).2

theorem OutK.begin {w0 w1 w : World} {p : Nat} {a : Option Addr} {room : Int} {fine : Prop} {l : List UInt8} (hb : Below w0.heap.size w0 w1) (h : OutK w1 w p a room fine l) : OutK w0 w p a room fine l := by
  obtain ⟨a1, l1, e1, O, G, hle, hf⟩ := h
  exact ⟨a1, l1, e1, O, Grew.trans ⟨Sole.made hb, .inl rfl⟩ G, hle, hf⟩
/-- A block beside the Out. -/
theorem OutK.blk {w0 w : World} {p g : Nat} {a : Option Addr} {room : Int} {fine : Prop} {l : List UInt8} {c : Array Value} (h : OutK w0 w p a room fine l) (hB : Blk w0 g c) (hg : ¬ Mine p a g) : Blk w g c := hB.sole h.sole hg

set_option maxRecDepth 100000 in
set_option maxHeartbeats 2000000 in
theorem point_put (P : Pt) (hP : P.ok) (p : Nat) (a : Option Addr) (room : Int) (l : List UInt8) (e : Int) (w : World) (O : OutS w p a room l e) (h0 : 0 ≤ room) (h1 : room ≤ 65536) (hl : (l.length : Int) ≤ room) :
    Calls Try.prog 86 #[at' p, pval P] w fun en w' => en = .returned (.tuple #[]) ∧ OutK w w' p a room (e = 0 ∧ P.may ∧ (l.length : Int) + (pointB P).length ≤ room) (l ++ pointB P) := by
  obtain ⟨W0, hW0⟩ : ∃ W0, w.alloc (.cells #[.int .i64 P.id, .int .u32 P.x, .int .u32 P.y, .string P.d] 168) = W0 := ⟨_, rfl⟩
  have hb0 : Below w.heap.size w W0 := by rw [← hW0]; exact (Below.refl _ _).alloc (Nat.le_refl _) _
  have O0 : OutK W0 W0 p a room (e = 0) l := ⟨a, l, e, O.more hb0, Grew.refl _ _ _, hl, fun h => ⟨rfl, h⟩⟩
  have BX : Blk W0 w.heap.size #[.int .i64 P.id, .int .u32 P.x, .int .u32 P.y, .string P.d] := by rw [← hW0]; exact Blk.new w _ _
  have hg : ¬ Mine p a w.heap.size := fun hk => by have := (O.mine hk).2; omega
  have HE : Hid (∀ w', OutK W0 w' p a room (((((e = 0 ∧ 0 ≤ P.id ∧ P.id < (256 : Int) ^ 4 ∧ (l.length : Int) + (4 : Nat) ≤ room) ∧ 0 ≤ P.x ∧ P.x < (256 : Int) ^ 4 ∧ ((l ++ leB P.id.toNat 4).length : Int) + (4 : Nat) ≤ room) ∧ 0 ≤ P.y ∧ P.y < (256 : Int) ^ 4 ∧ ((l ++ leB P.id.toNat 4 ++ leB P.x.toNat 4).length : Int) + (4 : Nat) ≤ room) ∧ 0 ≤ (P.d.size : Int) ∧ (P.d.size : Int) < (256 : Int) ^ 1 ∧ ((l ++ leB P.id.toNat 4 ++ leB P.x.toNat 4 ++ leB P.y.toNat 4).length : Int) + (1 : Nat) ≤ room) ∧
      ((l ++ leB P.id.toNat 4 ++ leB P.x.toNat 4 ++ leB P.y.toNat 4 ++ leB (P.d.size : Int).toNat 1).length : Int) + P.d.size ≤ room) (l ++ leB P.id.toNat 4 ++ leB P.x.toNat 4 ++ leB P.y.toNat 4 ++ leB (P.d.size : Int).toNat 1 ++ P.d.data.toList) →
      OutK w w' p a room (e = 0 ∧ P.may ∧ (l.length : Int) + (pointB P).length ≤ room) (l ++ pointB P)) := hid (by
    intro w' K
    refine (K.begin hb0).imp ?_ ?_
    · rintro ⟨he, ⟨m1, m2, m3⟩, hr⟩
      rw [pointB_length] at hr
      obtain ⟨_, _, x1, x2, y1, y2, _⟩ := hP
      simp only [List.length_append, leB_length]
      refine ⟨⟨⟨⟨⟨he, by omega, by omega, by omega⟩, x1, by omega, by omega⟩, y1, by omega, by omega⟩, by omega, by omega, by omega⟩, by omega⟩
    · intro _
      simp [pointB, List.append_assoc])
  obtain ⟨i1, i2, x1, x2, y1, y2, d1⟩ := hP
  have sz : (P.d.size : Int) ≤ 9223372036854775807 := by unfold maxLen at d1; omega
  have K1 := outk_num O0 h0 h1 P.id 4 4 rfl
  have HBX := hid BX
  have HNG := hid hg
  rw [← hW0] at K1
  replace K1 := hid K1
  replace hW0 := hid hW0
  clear O O0 hb0 d1 BX hg
  go_enter Try.func86, Try.ntmps86
  go_wp2_with fail
  refine K1.out.mono ?_
  rintro en w1 ⟨rfl, O1⟩
  rw [hW0.out] at O1
  generalize w.heap.size = g at *
  have B1 := O1.blk HBX.out HNG.out
  have K2 := hid (outk_num O1 h0 h1 P.x 4 4 rfl)
  replace O1 := hid O1
  obtain ⟨lx, kx, fx⟩ := B1
  clear O1 K1
  go_wp2_with fail
  refine K2.out.mono ?_
  rintro en w2 ⟨rfl, O2⟩
  have B2 := O2.blk HBX.out HNG.out
  have K3 := hid (outk_num O2 h0 h1 P.y 4 4 rfl)
  clear O2 K2 lx kx fx
  obtain ⟨lx, kx, fx⟩ := B2
  go_wp2_with fail
  refine K3.out.mono ?_
  rintro en w3 ⟨rfl, O3⟩
  have B3 := O3.blk HBX.out HNG.out
  have K4 := hid (outk_num O3 h0 h1 P.d.size 1 1 rfl)
  clear O3 K3 lx kx fx
  obtain ⟨lx, kx, fx⟩ := B3
  go_wp2_with fail
  refine K4.out.mono ?_
  rintro en w4 ⟨rfl, O4⟩
  have B4 := O4.blk HBX.out HNG.out
  have K5 := hid (outk_text O4 h0 h1 P.d)
  clear O4 K4 lx kx fx
  obtain ⟨lx, kx, fx⟩ := B4
  go_wp2_with fail
  refine K5.out.mono ?_
  rintro en w5 ⟨rfl, O5⟩
  have E := hid (HE.out w5 O5)
  clear O5 K5 HE
  go_wp2
  go_end0
  exact ⟨rfl, E.out⟩
end Go.Proofs.Ytcklmemnjchdcaa

/-
  Package point: Check, and a point of any octets.
-/


namespace Go.Proofs.Ytcklmemnjchdcaa
open Go.RowKit
set_option linter.unusedVariables false
set_option linter.unusedSimpArgs false

/-- Why a point can't be. -/
def checkC (P : Pt) : Int := if P.id < 1 ∨ 2147483647 < P.id then 4 else if 16 < P.d.size then 5 else 0
theorem check_may (P : Pt) : checkC P = 0 ↔ P.may := by
  unfold checkC Pt.may
  by_cases h1 : P.id < 1 ∨ 2147483647 < P.id
  · rw [if_pos h1]; constructor
    · intro h; cases h
    · intro h; omega
  · rw [if_neg h1]
    by_cases h2 : 16 < P.d.size
    · rw [if_pos h2]; constructor
      · intro h; cases h
      · intro h; omega
    · rw [if_neg h2]; constructor
      · intro _; omega
      · intro _; rfl
set_option maxRecDepth 100000 in
theorem check_any (P : Pt) (hP : P.ok) (w : World) : Calls Try.prog 99 #[pval P] w fun e w' => e = .returned (.int .i64 (checkC P)) ∧ Below w.heap.size w w' := by
  obtain ⟨i1, i2, _, _, _, _, d1⟩ := hP
  unfold maxLen at d1
  have sz : (P.d.size : Int) ≤ 9223372036854775807 := by omega
  have ways : (∃ h : Hid (checkC P = 4), P.id < 1) ∨ (∃ h : Hid (checkC P = 4), decide (P.id < 1) = false ∧ 2147483647 < P.id) ∨
      (∃ h : Hid (checkC P = 5), decide (P.id < 1) = false ∧ decide (2147483647 < P.id) = false ∧ decide (16 < (P.d.size : Int)) = true) ∨
      (∃ h : Hid (checkC P = 0), decide (P.id < 1) = false ∧ decide (2147483647 < P.id) = false ∧ decide (16 < (P.d.size : Int)) = false) := by
    by_cases h1 : P.id < 1
    · exact .inl ⟨hid (by unfold checkC; rw [if_pos (.inl h1)]), h1⟩
    · by_cases h2 : 2147483647 < P.id
      · exact .inr (.inl ⟨hid (by unfold checkC; rw [if_pos (.inr h2)]), decide_eq_false h1, h2⟩)
      · by_cases h3 : 16 < P.d.size
        · exact .inr (.inr (.inl ⟨hid (by unfold checkC; rw [if_neg (by omega), if_pos h3]), decide_eq_false h1, decide_eq_false h2, decide_eq_true (by omega)⟩))
        · exact .inr (.inr (.inr ⟨hid (by unfold checkC; rw [if_neg (by omega), if_neg h3]), decide_eq_false h1, decide_eq_false h2, decide_eq_false (by omega)⟩))
  generalize checkC P = c at *
  clear d1
  rcases ways with ⟨hc, g1⟩ | ⟨hc, g1, g2⟩ | ⟨hc, g1, g2, g3⟩ | ⟨hc, g1, g2, g3⟩
  all_goals
    go_enter Try.func99, Try.ntmps99
    go_wp2
    go_ret
    exact ⟨by rw [hc.out]; rfl, (Below.refl _ _).alloc (Nat.le_refl _) _⟩

/-- The point of octets. -/
def pointOf (l : List UInt8) : Pt := ⟨numOf (l.take 4), numOf ((l.drop 4).take 4), numOf ((l.drop 8).take 4), textOf ((l.drop 13).take (numOf ((l.drop 12).take 1)))⟩
abbrev pt0 : Pt := ⟨0, 0, 0, ByteArray.empty⟩
/-- How long the octets' Data is. -/
def lenAt (l : List UInt8) : Nat := numOf ((l.drop 12).take 1)
/-- What is read of l as a point. -/
def GetS (l : List UInt8) (bad : Bool) (P : Pt) (ok : Bool) (l' : List UInt8) (bad' : Bool) : Prop :=
  (bad = false ∧ 13 + lenAt l ≤ l.length ∧ bad' = false ∧ l' = l.drop (13 + lenAt l) ∧ (((pointOf l).may ∧ P = pointOf l ∧ ok = true) ∨ (¬ (pointOf l).may ∧ P = pt0 ∧ ok = false))) ∨
    ((bad = true ∨ l.length < 13 + lenAt l) ∧ P = pt0 ∧ ok = false ∧ bad' = true ∧ l' = [])

/-- The four numbers, and the text. -/
theorem get_states (l : List UInt8) (bad : Bool) : ∃ (b1 b2 b3 b4 b5 : Bool) (l1 l2 l3 l4 l5 : List UInt8) (v1 v2 v3 v4 : Nat) (s : List UInt8),
    (b1 = (bad || decide (l.length < 4)) ∧ l1 = (if b1 then [] else l.drop 4) ∧ v1 = numOf (if b1 then [] else l.take 4)) ∧
    (b2 = (b1 || decide (l1.length < 4)) ∧ l2 = (if b2 then [] else l1.drop 4) ∧ v2 = numOf (if b2 then [] else l1.take 4)) ∧
    (b3 = (b2 || decide (l2.length < 4)) ∧ l3 = (if b3 then [] else l2.drop 4) ∧ v3 = numOf (if b3 then [] else l2.take 4)) ∧
    (b4 = (b3 || decide (l3.length < 1)) ∧ l4 = (if b4 then [] else l3.drop 1) ∧ v4 = numOf (if b4 then [] else l3.take 1)) ∧
    (b5 = (b4 || decide (l4.length < v4)) ∧ l5 = (if b5 then [] else l4.drop v4) ∧ s = (if b5 then [] else l4.take v4)) ∧
    (v1 < 256 ^ 4 ∧ v2 < 256 ^ 4 ∧ v3 < 256 ^ 4 ∧ v4 < 256 ^ 1) ∧
    ((b5 = true ∧ (bad = true ∨ l.length < 13 + lenAt l)) ∨
      (b5 = false ∧ bad = false ∧ 13 + lenAt l ≤ l.length ∧ l5 = l.drop (13 + lenAt l) ∧ pointOf l = ⟨v1, v2, v3, textOf s⟩)) := by
  refine ⟨_, _, _, _, _, _, _, _, _, _, _, _, _, _, _, ⟨rfl, rfl, rfl⟩, ⟨rfl, rfl, rfl⟩, ⟨rfl, rfl, rfl⟩, ⟨rfl, rfl, rfl⟩, ⟨rfl, rfl, rfl⟩, ?_, ?_⟩
  · have bd : ∀ (b : Bool) (m : List UInt8) (k : Nat), numOf (if b then [] else m.take k) < 256 ^ k := by
      intro b m k
      cases b with
      | true => exact Nat.pos_of_ne_zero (by simp [numOf])
      | false =>
        have := numOf_lt (m.take k)
        have hp : (256 : Nat) ^ (m.take k).length ≤ 256 ^ k := Nat.pow_le_pow_right (by omega) (by rw [List.length_take]; omega)
        simp only [Bool.false_eq_true, if_false]
        omega
    exact ⟨bd _ _ _, bd _ _ _, bd _ _ _, bd _ _ _⟩
  · cases bad with
    | true => exact .inl ⟨by simp, .inl rfl⟩
    | false =>
      by_cases h1 : l.length < 4
      · exact .inl ⟨by simp [h1], .inr (by omega)⟩
      · by_cases h2 : l.length < 8
        · have : l.length - 4 < 4 := by omega
          exact .inl ⟨by simp [h1, this], .inr (by omega)⟩
        · by_cases h3 : l.length < 12
          · have a1 : ¬ l.length - 4 < 4 := by omega
            have a2 : l.length - 8 < 4 := by omega
            exact .inl ⟨by simp [h1, a1, a2], .inr (by omega)⟩
          · by_cases h4 : l.length < 13
            · have a1 : ¬ l.length - 4 < 4 := by omega
              have a2 : ¬ l.length - 8 < 4 := by omega
              have a3 : l.length - 12 < 1 := by omega
              exact .inl ⟨by simp [h1, a1, a2, a3], .inr (by omega)⟩
            · have a1 : ¬ l.length - 4 < 4 := by omega
              have a2 : ¬ l.length - 8 < 4 := by omega
              have a3 : ¬ l.length - 12 < 1 := by omega
              by_cases h5 : l.length < 13 + lenAt l
              · refine .inl ⟨?_, .inr h5⟩
                have a4 : l.length - 13 < numOf ((l.drop 12).take 1) := by have : lenAt l = numOf ((l.drop 12).take 1) := rfl; omega
                simp [h1, a1, a2, a3, a4]
              · have a4 : ¬ l.length - 13 < numOf ((l.drop 12).take 1) := by have : lenAt l = numOf ((l.drop 12).take 1) := rfl; omega
                refine .inr ⟨by simp [h1, a1, a2, a3, a4], rfl, by omega, ?_, ?_⟩
                · simp [h1, a1, a2, a3, a4, lenAt]
                · simp [h1, a1, a2, a3, a4, pointOf]
end Go.Proofs.Ytcklmemnjchdcaa

/-
  Package point: Get. The walk.
-/

namespace Go.Proofs.Ytcklmemnjchdcaa
open Go.RowKit
set_option linter.unusedVariables false
set_option linter.unusedSimpArgs false

theorem sole_fill {b : Nat} : ∀ (vs : List Value) (o : Nat) (w : World), Sole (fun k => k = b) w (setAll w b o vs)
  | [], _, _ => Sole.refl _ _
  | v :: vs, o, w => (Sole.setCell (S := fun k => k = b) w v rfl).trans (sole_fill vs (o + 1) _)
theorem RS.kept {S : Nat → Prop} {w w' : World} {q : Nat} {l : List UInt8} {bad : Bool} (h : RS w q l bad) (hs : Sole S w w') (hn : ∀ k, k ≤ q → ¬ S k) : RS w' q l bad := ⟨h.1.kept hs hn, h.2⟩

def GetPost (q : Nat) (l : List UInt8) (bad : Bool) (w : World) (e : Ending) (w' : World) : Prop :=
  ∃ P ok l' bad', e = .returned (.tuple #[pval P, .bool ok]) ∧ GetS l bad P ok l' bad' ∧ RS w' q l' bad' ∧ Sole (fun k => k = q) w w'
theorem pointOf_ok (l : List UInt8) (h : (pointOf l).d.size ≤ maxLen) : (pointOf l).ok := by
  have b : ∀ m : List UInt8, numOf (m.take 4) < 256 ^ 4 := fun m => by
    have h1 := numOf_lt (m.take 4)
    have hp : (256 : Nat) ^ (m.take 4).length ≤ 256 ^ 4 := Nat.pow_le_pow_right (by omega) (by rw [List.length_take]; omega)
    omega
  have b1 := b l
  have b2 := b (l.drop 4)
  have b3 := b (l.drop 8)
  exact ⟨by show (-9223372036854775808 : Int) ≤ (numOf (l.take 4) : Int); omega, by show (numOf (l.take 4) : Int) ≤ _; omega, by show (0 : Int) ≤ (numOf ((l.drop 4).take 4) : Int); omega, by show (numOf ((l.drop 4).take 4) : Int) ≤ _; omega, by show (0 : Int) ≤ (numOf ((l.drop 8).take 4) : Int); omega, by show (numOf ((l.drop 8).take 4) : Int) ≤ _; omega, h⟩

set_option maxRecDepth 100000 in
set_option maxHeartbeats 4000000 in
theorem point_get (q : Nat) (l : List UInt8) (bad : Bool) (w : World) (R : RS w q l bad) :
    Calls Try.prog 102 #[at' q] w (GetPost q l bad w) := by
  obtain ⟨b1, b2, b3, b4, b5, l1, l2, l3, l4, l5, v1, v2, v3, v4, s, ⟨hb1, hl1, hv1⟩, ⟨hb2, hl2, hv2⟩, ⟨hb3, hl3, hv3⟩, ⟨hb4, hl4, hv4⟩, ⟨hb5, hl5, hs⟩, ⟨d1, d2, d3, d4⟩, fin⟩ := get_states l bad
  have K1 := fun w R => rs_num 4 4 rfl q l bad b1 hb1 w R
  have K2 := fun w R => rs_num 4 4 rfl q l1 b1 b2 hb2 w R
  have K3 := fun w R => rs_num 4 4 rfl q l2 b2 b3 hb3 w R
  have K4 := fun w R => rs_num 1 1 rfl q l3 b3 b4 hb4 w R
  have K5 := fun w R => rs_text (v4 : Int) v4 (by omega) q l4 b4 b5 hb5 w R
  simp only [← hl1, ← hv1] at K1
  simp only [← hl2, ← hv2] at K2
  simp only [← hl3, ← hv3] at K3
  simp only [← hl4, ← hv4] at K4
  simp only [← hl5, ← hs] at K5
  replace K1 := hid K1
  replace K2 := hid K2
  replace K3 := hid K3
  replace K4 := hid K4
  replace K5 := hid K5
  have e1 : 0 ≤ (v1 : Int) ∧ (v1 : Int) ≤ 4294967295 := by omega
  have e2 : 0 ≤ (v2 : Int) ∧ (v2 : Int) ≤ 4294967295 := by omega
  have e3 : 0 ≤ (v3 : Int) ∧ (v3 : Int) ≤ 4294967295 := by omega
  have e4 : 0 ≤ (v4 : Int) ∧ (v4 : Int) ≤ 255 := by omega
  have hsl : s.length ≤ 255 := by
    rw [hs]
    cases b5 with
    | true => simp
    | false => simp only [Bool.false_eq_true, if_false, List.length_take]; omega
  have hP : (⟨v1, v2, v3, textOf s⟩ : Pt).ok := ⟨by show (-9223372036854775808 : Int) ≤ (v1 : Int); omega, by show (v1 : Int) ≤ 9223372036854775807; omega, e2.1, e2.2, e3.1, e3.2, by
    show (textOf s).size ≤ maxLen
    rw [show (textOf s).size = s.length from by simp [ByteArray.size]]
    unfold maxLen; omega⟩
  have KC := hid (check_any ⟨v1, v2, v3, textOf s⟩ hP)
  have hq := R.1.lt
  replace R := hid R
  replace fin := hid fin
  clear hb1 hl1 hv1 hb2 hl2 hv2 hb3 hl3 hv3 hb4 hl4 hv4 hb5 hl5 hs d1 d2 d3 d4 hP hsl
  generalize textOf s = t at *
  go_enter Try.func102, Try.ntmps102
  go_wp2_with fail
  have hbA : Below w.heap.size w (w.alloc (.cells #[.int .i64 0, .int .u32 0, .int .u32 0, .string ByteArray.empty] 168)) := (Below.refl _ _).alloc (Nat.le_refl _) _
  have BA := Blk.new w #[.int .i64 0, .int .u32 0, .int .u32 0, .string ByteArray.empty] 168
  refine (K1.out _ (R.out.more hbA)).mono ?_
  rintro e w1 ⟨rfl, R1, S1⟩
  obtain ⟨g0, hg0⟩ : ∃ g0, w.heap.size = g0 := ⟨_, rfl⟩
  rw [hg0] at BA hq
  simp only [hg0]
  have B1 := BA.sole S1 (by omega)
  have T1 := hid ((Sole.made (S := fun k => k = q) hbA).trans S1)
  clear hbA BA S1 R K1
  replace hg0 := hid hg0
  go_wp2_with fail
  refine (K2.out _ R1).mono ?_
  rintro e w2 ⟨rfl, R2, S2⟩
  have B2 := B1.sole S2 (by omega)
  have T2 := hid (T1.out.trans S2)
  clear B1 S2 R1 K2 T1
  go_wp2_with fail
  refine (K3.out _ R2).mono ?_
  rintro e w3 ⟨rfl, R3, S3⟩
  have B3 := B2.sole S3 (by omega)
  have T3 := hid (T2.out.trans S3)
  clear B2 S3 R2 K3 T2
  go_wp2_with fail
  have hbB : Below w3.heap.size w3 (w3.alloc (.cells #[.int .i64 v1, .int .u32 v2, .int .u32 v3, .string ByteArray.empty] 168)) := (Below.refl _ _).alloc (Nat.le_refl _) _
  have C3 := Blk.new w3 #[.int .i64 v1, .int .u32 v2, .int .u32 v3, .string ByteArray.empty] 168
  refine (K4.out _ (R3.more hbB)).mono ?_
  rintro e w4 ⟨rfl, R4, S4⟩
  have hq3 := R3.1.lt
  have hg3 : g0 < w3.heap.size := B3.lt
  obtain ⟨g4, hg4⟩ : ∃ g4, w3.heap.size = g4 := ⟨_, rfl⟩
  rw [hg4] at C3 hq3 hg3
  simp only [hg4]
  have B4 := (B3.more hbB).sole S4 (by omega)
  have C4 := C3.sole S4 (by omega)
  have T4 := hid ((T3.out.trans (Sole.made hbB)).trans S4)
  clear hbB C3 S4 R3 K4 T3 B3
  replace hg4 := hid hg4
  -- @@
  go_wp2_with fail
  refine (K5.out _ R4).mono ?_
  rintro e w5 ⟨rfl, R5, S5⟩
  have B5 := B4.sole S5 (by omega)
  have C5 := C4.sole S5 (by omega)
  have T5 := hid (T4.out.trans S5)
  clear S5 R4 K5 T4 B4 C4
  have B6 := B5.other ⟨g4, 3, none⟩ (by show g4 ≠ g0; omega) (.string t)
  have C6 := C5.set 3 (.string t) (by simp)
  have S6 : Sole (fun k => k = g4) w5 (w5.setCell ⟨g4, 3, none⟩ (.string t)) := Sole.setCell _ _ rfl
  have R6 : RS (w5.setCell ⟨g4, 3, none⟩ (.string t)) q l5 b5 := ⟨R5.1.kept S6 (fun k hk h => by omega), R5.2⟩
  have hw0 : Hid (w.heap.size ≤ g4) := hid (by rw [hg0.out]; omega)
  have T6 := hid (T5.out.trans' S6 (fun k hk h => by have := hw0.out; omega))
  replace B5 := hid B5
  obtain ⟨lx, kx, fx⟩ := C5
  replace C6 := hid C6
  replace B6 := hid B6
  have KE := hid (err_any q l5 _ _ R6.1)
  replace R6 := hid R6
  clear R5 S6
  -- @@
  go_wp2_with fail
  refine KE.out.mono ?_
  rintro e w6 ⟨rfl, hw6⟩
  rw [← hw6] at B6 C6 R6 T6
  clear hw6
  have hg0w : Hid (w.heap.size ≤ g0) := hid (by rw [hg0.out]; exact Nat.le_refl _)
  have HB6 := B6
  obtain ⟨l6, k6, f6⟩ := B6.out
  rcases fin.out with ⟨rfl, hbl⟩ | ⟨rfl, rfl, hlen, hl5, hp⟩
  · simp only [if_true]
    replace hbl := hid hbl
    have hl5 : Hid (l5 = []) := hid (R6.out.2 rfl)
    go_wp2_with fail
    have B7 := Blk.fill [.int .i64 0, .int .u32 0, .int .u32 0, .string ByteArray.empty] 0 HB6.out (by simp)
    have S7 := sole_fill (b := g0) [.int .i64 0, .int .u32 0, .int .u32 0, .string ByteArray.empty] 0 w6
    have R7 := R6.out.kept S7 (fun k hk h => by omega)
    show bodyPost _ _ _ _ _ (setAll w6 g0 0 [.int .i64 0, .int .u32 0, .int .u32 0, .string ByteArray.empty])
    generalize setAll w6 g0 0 _ = w7 at *
    obtain ⟨l7, k7, f7⟩ := B7
    refine bodyPost_ret (v := .tuple #[pval pt0, .bool false]) (by simp [results, Try.results102, go_sem, k7, fillC]) rfl ?_
    exact ⟨pt0, false, l5, true, rfl, .inr ⟨hbl.out, rfl, rfl, rfl, hl5.out⟩, R7, T6.out.trans' S7 fun k hk h => by have := hg0w.out; omega⟩
  · simp only [Bool.false_eq_true, if_false]
    obtain ⟨l8, k8, f8⟩ := C6.out
    replace hp := hid hp
    replace hl5 := hid hl5
    replace hlen := hid hlen
    have hlt64 := hid (show True from trivial)
    by_cases hm : checkC ⟨v1, v2, v3, t⟩ = 0
    · rw [hm] at KC
      have may := hid ((check_may _).1 hm)
      clear hm
      go_wp2_with fail
      refine (KC.out _).mono ?_
      rintro e w8 ⟨rfl, hb8⟩
      have B8 := HB6.out.more hb8
      have C8 := C6.out.more hb8
      have R8 := hid (R6.out.more hb8)
      have T8 := hid (T6.out.trans (Sole.made hb8))
      clear hb8 l6 k6 f6 l8 k8 f8
      have HB8 := hid B8
      obtain ⟨l6, k6, f6⟩ := B8
      obtain ⟨l8, k8, f8⟩ := C8
      go_wp2_with fail
      have B9 := Blk.fill [.int .i64 v1, .int .u32 v2, .int .u32 v3, .string t] 0 HB8.out (by simp)
      have S9 := sole_fill (b := g0) [.int .i64 v1, .int .u32 v2, .int .u32 v3, .string t] 0 w8
      have R9 := R8.out.kept S9 (fun k hk h => by omega)
      show bodyPost _ _ _ _ _ (setAll w8 g0 0 [.int .i64 v1, .int .u32 v2, .int .u32 v3, .string t])
      generalize setAll w8 g0 0 _ = w9 at *
      obtain ⟨l9, k9, f9⟩ := B9
      refine bodyPost_ret (v := .tuple #[pval ⟨v1, v2, v3, t⟩, .bool true]) (by simp [results, Try.results102, go_sem, k9, fillC]) rfl ?_
      exact ⟨⟨v1, v2, v3, t⟩, true, l5, false, rfl, .inl ⟨rfl, hlen.out, rfl, hl5.out, .inl ⟨by rw [hp.out]; exact may.out, hp.out.symm, rfl⟩⟩, R9, T8.out.trans' S9 fun k hk h => by have := hg0w.out; omega⟩
    · have may := hid (fun h => hm ((check_may ⟨v1, v2, v3, t⟩).2 h))
      have hm2 : (checkC ⟨v1, v2, v3, t⟩ != 0) = true := by simpa using hm
      clear hm
      generalize checkC ⟨v1, v2, v3, t⟩ = cc at *
      go_wp2_with fail
      refine (KC.out _).mono ?_
      rintro e w8 ⟨rfl, hb8⟩
      have B8 := HB6.out.more hb8
      have C8 := C6.out.more hb8
      have R8 := hid (R6.out.more hb8)
      have T8 := hid (T6.out.trans (Sole.made hb8))
      clear hb8 l6 k6 f6 l8 k8 f8
      have HB8 := hid B8
      obtain ⟨l6, k6, f6⟩ := B8
      obtain ⟨l8, k8, f8⟩ := C8
      go_wp2_with fail
      have B9 := Blk.fill [.int .i64 0, .int .u32 0, .int .u32 0, .string ByteArray.empty] 0 HB8.out (by simp)
      have S9 := sole_fill (b := g0) [.int .i64 0, .int .u32 0, .int .u32 0, .string ByteArray.empty] 0 w8
      have R9 := R8.out.kept S9 (fun k hk h => by omega)
      show bodyPost _ _ _ _ _ (setAll w8 g0 0 [.int .i64 0, .int .u32 0, .int .u32 0, .string ByteArray.empty])
      generalize setAll w8 g0 0 _ = w9 at *
      obtain ⟨l9, k9, f9⟩ := B9
      refine bodyPost_ret (v := .tuple #[pval pt0, .bool false]) (by simp [results, Try.results102, go_sem, k9, fillC]) rfl ?_
      exact ⟨pt0, false, l5, false, rfl, .inl ⟨rfl, hlen.out, rfl, hl5.out, .inr ⟨by rw [hp.out]; exact may.out, rfl, rfl⟩⟩, R9, T8.out.trans' S9 fun k hk h => by have := hg0w.out; omega⟩
end Go.Proofs.Ytcklmemnjchdcaa

namespace Go.Proofs.Ytcklmemnjchdcaa
open Go.RowKit
set_option linter.unusedVariables false
set_option linter.unusedSimpArgs false

/-- An Out that holds l, where all went well; below p the world is as w0 was. -/
def WS (w0 : World) (p : Nat) (room : Int) (w : World) (l : List UInt8) : Prop := ∃ a, OutS w p a room l 0 ∧ Below p w0 w

theorem WS.grew {w0 w w' : World} {p : Nat} {room : Int} {l l' : List UInt8} {a a' : Option Addr} (O : OutS w p a room l 0) (hb : Below p w0 w) (O' : OutS w' p a' room l' 0) (G : Grew p a a' w w') : WS w0 p room w' l' :=
  ⟨a', O', hb.trans (O.below G)⟩
theorem WS.more {w0 w w' : World} {p : Nat} {room : Int} {l : List UInt8} (h : WS w0 p room w l) (hb : Below w.heap.size w w') : WS w0 p room w' l := by
  obtain ⟨a, O, h0⟩ := h
  exact ⟨a, O.more hb, h0.trans (hb.mono (Nat.le_of_lt O.lt))⟩
theorem WS.below {w0 w : World} {p : Nat} {room : Int} {l : List UInt8} (h : WS w0 p room w l) : Below p w0 w := by
  obtain ⟨a, _, hb⟩ := h; exact hb
theorem WS.lt {w0 w : World} {p : Nat} {room : Int} {l : List UInt8} (h : WS w0 p room w l) : p < w.heap.size := by
  obtain ⟨a, O, _⟩ := h; exact O.lt
theorem ws_new (n : Int) (room : Int) (hr : min (max n 0) 65536 = room) (w : World) : Calls Try.prog 54 #[.int .i64 n] w fun e w' => e = .returned (at' w.heap.size) ∧ WS w w.heap.size room w' [] := by
  refine (new_any n w).mono ?_
  rintro e w' ⟨he, rfl⟩
  subst hr
  exact ⟨he, none, OutS.new _ _ _, (Below.refl _ _).alloc (Nat.le_refl _) _⟩
theorem ws_num {w0 w : World} {p : Nat} {room : Int} {l : List UInt8} (h : WS w0 p room w l) (h0 : 0 ≤ room) (h1 : room ≤ 65536) (N size : Int) (m : Nat) (hm : min (max size 1) 6 = m) (n0 : 0 ≤ N) (n1 : N < (256 : Int) ^ m) (hr : (l.length : Int) + m ≤ room) :
    Calls Try.prog 55 #[at' p, .int .i64 N, .int .i64 size] w fun en w' => en = .returned (.tuple #[]) ∧ WS w0 p room w' (l ++ leB N.toNat m) := by
  obtain ⟨a, O, hb⟩ := h
  refine (ow_num N size m hm p a room l (l ++ leB N.toNat m) 0 0 w O h0 h1 (by omega) (.inr (.inr (.inl ⟨rfl, by omega, hr, rfl, rfl⟩)))).mono ?_
  rintro en w' ⟨he, a', O', G⟩
  exact ⟨he, WS.grew O hb O' G⟩
theorem ws_text {w0 w : World} {p : Nat} {room : Int} {l : List UInt8} (h : WS w0 p room w l) (h0 : 0 ≤ room) (h1 : room ≤ 65536) (s : ByteArray) (hr : (l.length : Int) + s.size ≤ room) :
    Calls Try.prog 61 #[at' p, .string s] w fun en w' => en = .returned (.tuple #[]) ∧ WS w0 p room w' (l ++ s.data.toList) := by
  obtain ⟨a, O, hb⟩ := h
  refine (ow_text s p a room l (l ++ s.data.toList) 0 0 w O h0 h1 (by omega) (.inr (.inr (.inl ⟨rfl, fun h => h, by rw [size_list]; exact hr, rfl, rfl⟩)))).mono ?_
  rintro en w' ⟨he, a', O', G⟩
  exact ⟨he, WS.grew O hb O' G⟩
theorem ws_pad {w0 w : World} {p : Nat} {room : Int} {l : List UInt8} (h : WS w0 p room w l) (h0 : 0 ≤ room) (h1 : room ≤ 65536) (size : Int) (hr : size ≤ room) :
    Calls Try.prog 62 #[at' p, .int .i64 size] w fun en w' => en = .returned (.tuple #[]) ∧ WS w0 p room w' (l ++ List.replicate (size.toNat - l.length) 0) := by
  obtain ⟨a, O, hb⟩ := h
  refine (pad_ok size p a room l w O h0 h1 hr).mono ?_
  rintro en w' ⟨he, a', O', G⟩
  exact ⟨he, WS.grew O hb O' G⟩
theorem ws_point {w0 w : World} {p : Nat} {room : Int} {l : List UInt8} (h : WS w0 p room w l) (h0 : 0 ≤ room) (h1 : room ≤ 65536) (P : Pt) (hP : P.ok) (hM : P.may) (hr : (l.length : Int) + (pointB P).length ≤ room) :
    Calls Try.prog 86 #[at' p, pval P] w fun en w' => en = .returned (.tuple #[]) ∧ WS w0 p room w' (l ++ pointB P) := by
  obtain ⟨a, O, hb⟩ := h
  refine (point_put P hP p a room l 0 w O h0 h1 (by omega)).mono ?_
  rintro en w' ⟨he, a', l', e', O', G, _, hf⟩
  obtain ⟨rfl, rfl⟩ := hf ⟨rfl, hM, hr⟩
  exact ⟨he, WS.grew O hb O' G⟩
/-- Done hands out a row of its own. -/
theorem ws_done {w0 w : World} {p : Nat} {room : Int} {l : List UInt8} (h : WS w0 p room w l) (hl : l.length ≤ 140737488355328) :
    Calls Try.prog 56 #[at' p] w fun e w' => ∃ v, e = .returned (.tuple #[v, .int .i64 0]) ∧ Fresh w w' v l ∧ WS w0 p room w' l := by
  have h' := h
  obtain ⟨a, O, hb⟩ := h
  refine (done_ok p a room l w O hl).mono ?_
  rintro e w' ⟨v, he, F⟩
  have hF := F
  obtain ⟨_, _, _, _, hbF⟩ := F
  exact ⟨v, he, hF, h'.more hbF⟩

/-- Octets enough are left. -/
theorem rs_nums (size : Int) (n : Nat) (hn : min (max size 1) 6 = n) (p : Nat) (l : List UInt8) (w : World) (R : RS w p l false) (hl : n ≤ l.length) :
    Calls Try.prog 91 #[at' p, .int .i64 size] w fun e w' => e = .returned (.int .i64 (numOf (l.take n))) ∧ RS w' p (l.drop n) false ∧ Sole (fun k => k = p) w w' := by
  refine (rs_num size n hn p l false false (by rw [decide_eq_false (by omega)]; rfl) w R).mono ?_
  rintro e w' ⟨he, h⟩
  simpa using ⟨he, h⟩
theorem rs_texts (size : Int) (n : Nat) (hn : max size 0 = n) (p : Nat) (l : List UInt8) (w : World) (R : RS w p l false) (hl : n ≤ l.length) :
    Calls Try.prog 90 #[at' p, .int .i64 size] w fun e w' => e = .returned (.string (textOf (l.take n))) ∧ RS w' p (l.drop n) false ∧ Sole (fun k => k = p) w w' := by
  refine (rs_text size n hn p l false false (by rw [decide_eq_false (by omega)]; rfl) w R).mono ?_
  rintro e w' ⟨he, h⟩
  simpa using ⟨he, h⟩
theorem rs_open (l : List UInt8) (a : Option Addr) (cap : Nat) (w : World) (O : Octs w a l) (hl : l.length ≤ 140737488355328) :
    Calls Try.prog 89 #[.slice a l.length cap] w fun e w' => ∃ p, e = .returned (at' p) ∧ w.heap.size ≤ p ∧ RS w' p l false ∧ Below w.heap.size w w' := by
  refine (open_any l a cap w O hl).mono ?_
  rintro e w' ⟨p, he, hp, I, hb⟩
  exact ⟨p, he, hp, ⟨I, fun h => by cases h⟩, hb⟩
/-- A step of an In, seen from a world ahead of it. -/
theorem in_below {w0 w w' : World} {p : Nat} (h : Below w0.heap.size w0 w) (hp : w0.heap.size ≤ p) (S : Sole (fun k => k = p) w w') : Below w0.heap.size w0 w' :=
  h.trans (S.below h.size fun k hk => by omega)
end Go.Proofs.Ytcklmemnjchdcaa
