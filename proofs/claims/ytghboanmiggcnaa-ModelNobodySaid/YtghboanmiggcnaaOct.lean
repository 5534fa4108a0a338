/-
  Octets: rows of them, numbers as octets, the lowest first.
-/
import Derived.Test.YtghboanmiggcnaaSole
import Derived.Lib.BufferRead
import Derived.Lib.SlBytesRow
namespace Go.Proofs.Ytghboanmiggcnaa
open Go.RowKit
set_option linter.unusedVariables false

/-- Octets lie there, or there are none. -/
def Octs (w : World) (a : Option Addr) (l : List UInt8) : Prop :=
  l = [] ∨ ∃ b o, a = some ⟨b, o, none⟩ ∧ b < w.heap.size ∧ ∀ i (h : i < l.length), w.cell? ⟨b, o + i, none⟩ = some (.int .u8 (l[i].toNat : Int))

theorem Octs.nil (w : World) (a : Option Addr) : Octs w a [] := .inl rfl
theorem Octs.more {w w' : World} {a : Option Addr} {l : List UInt8} (h : Octs w a l) (hb : Below w.heap.size w w') : Octs w' a l :=
  h.imp id fun ⟨b, o, e, lt, hc⟩ => ⟨b, o, e, Nat.lt_of_lt_of_le lt hb.size, fun i hi => (hb.cell (p := ⟨b, _, none⟩) lt).trans (hc i hi)⟩
theorem Octs.sole {S : Nat → Prop} {w w' : World} {a : Option Addr} {l : List UInt8} (h : Octs w a l) (hs : Sole S w w') (hn : ∀ b o, a = some ⟨b, o, none⟩ → l ≠ [] → ¬ S b) : Octs w' a l := by
  by_cases h0 : l = []
  · exact .inl h0
  · obtain ⟨b, o, e, lt, hc⟩ := h.resolve_left h0
    exact .inr ⟨b, o, e, Nat.lt_of_lt_of_le lt hs.size, fun i hi => (hs.cell lt (hn b o e h0)).trans (hc i hi)⟩
theorem Octs.take {w : World} {a : Option Addr} {l : List UInt8} (h : Octs w a l) (k : Nat) : Octs w a (l.take k) := by
  by_cases h0 : l.take k = []
  · exact .inl h0
  · refine .inr ?_
    rcases h with rfl | ⟨b, o, e, lt, hc⟩
    · simp at h0
    · refine ⟨b, o, e, lt, fun i hi => ?_⟩
      rw [List.length_take] at hi
      rw [hc i (by omega), List.getElem_take]
theorem Octs.drop {w : World} {b o : Nat} {l : List UInt8} (h : Octs w (some ⟨b, o, none⟩) l) (k : Nat) : Octs w (some ⟨b, o + k, none⟩) (l.drop k) := by
  by_cases h0 : l.drop k = []
  · exact .inl h0
  · refine .inr ?_
    rcases h with rfl | ⟨b', o', e, lt, hc⟩
    · simp at h0
    · cases e
      refine ⟨b, o + k, rfl, lt, fun i hi => ?_⟩
      rw [List.length_drop] at hi
      rw [Nat.add_assoc, hc (k + i) (by omega), List.getElem_drop]
theorem Octs.row {w : World} {a : Option Addr} {l : List UInt8} (h : Octs w a l) (hn : l ≠ []) : ∃ b o, a = some ⟨b, o, none⟩ ∧ b < w.heap.size ∧ ∀ i (h : i < l.length), w.cell? ⟨b, o + i, none⟩ = some (.int .u8 (l[i].toNat : Int)) := h.resolve_left hn
theorem Octs.of_own {w : World} {base : Nat} {e : TypeId} {a : Option Addr} {cap : Nat} {l : List UInt8} (h : w.ownsRow base e 1 (.slice a l.length cap) l.length (Lib.byteCells l)) : Octs w a l := by
  by_cases h0 : l.length = 0
  · exact .inl (List.eq_nil_of_length_eq_zero h0)
  · obtain ⟨g, cap', cur, ha, _, _, _, B, _, hc⟩ := own_blk h h0
    cases ha
    refine .inr ⟨g, 0, rfl, B.lt, fun i hi => ?_⟩
    rw [Nat.zero_add, B.cell, hc i hi]
    simp [Lib.byteCells, hi]

/-- Their text. -/
abbrev textOf (l : List UInt8) : ByteArray := ⟨l.toArray⟩
theorem Octs.bytes {w : World} {b o : Nat} {l : List UInt8} (h : Octs w (some ⟨b, o, none⟩) l) : Lib.Bytes w b o (textOf l) := by
  intro i hi
  rcases h with rfl | ⟨b', o', e, lt, hc⟩
  · exact absurd hi (Nat.not_lt_zero _)
  · cases e
    have hi' : i < l.length := by simpa [ByteArray.size] using hi
    rw [hc i hi']
    congr 2
theorem Octs.text {P : Program} {w : World} {a : Option Addr} {l : List UInt8} (h : Octs w a l) (src e dst : TypeId) (cap : Nat) (hs : P.underlying src = some (.slice e)) (he : P.underlying e = some (.int .u8)) (hd : P.underlying dst = some .string)
    (ha : ∀ x, a = some x → x.spot = none) : (convert src dst (.slice a l.length cap)).run P w = .ok (.string (textOf l)) w := by
  rcases a with _ | ⟨b, o, sp⟩
  · rcases h with rfl | ⟨b', o', e, _⟩
    · exact Lib.run_convert_nil_bytes w src dst e cap hs he hd
    · cases e
  · have hsp := ha _ rfl
    simp only at hsp
    subst hsp
    have := Lib.run_convert_whole (P := P) w src e dst hs he hd b o (textOf l) h.bytes cap
    rwa [show (textOf l).size = l.length from by simp [ByteArray.size]] at this
theorem text_back (s : ByteArray) : textOf s.data.toList = s := by cases s; simp
theorem text_inj {l m : List UInt8} (h : textOf l = textOf m) : l = m := by
  have := congrArg (fun s : ByteArray => s.data.toList) h
  simpa using this
/-- A number in so many octets, the lowest first; and back. -/
def leB (n : Nat) : Nat → List UInt8
  | 0 => []
  | s + 1 => UInt8.ofNat n :: leB (n / 256) s
def numOf : List UInt8 → Nat
  | [] => 0
  | b :: l => b.toNat + 256 * numOf l

theorem leB_length : ∀ (s n : Nat), (leB n s).length = s
  | 0, _ => rfl
  | s + 1, n => by simp [leB, leB_length s]
theorem leB_get : ∀ (s n i : Nat), i < s → (leB n s)[i]? = some (UInt8.ofNat (n / 256 ^ i))
  | 0, _, _, h => absurd h (Nat.not_lt_zero _)
  | s + 1, n, 0, _ => by simp [leB]
  | s + 1, n, i + 1, h => by
    simp only [leB, List.getElem?_cons_succ]
    rw [leB_get s (n / 256) i (by omega), Nat.div_div_eq_div_mul, ← Nat.pow_succ']
theorem leB_snoc : ∀ (s n : Nat), leB n (s + 1) = leB n s ++ [UInt8.ofNat (n / 256 ^ s)]
  | 0, n => by simp [leB]
  | s + 1, n => by
    rw [show leB n (s + 1 + 1) = UInt8.ofNat n :: leB (n / 256) (s + 1) from rfl, leB_snoc s (n / 256), Nat.div_div_eq_div_mul, ← Nat.pow_succ']
    rfl
theorem numOf_leB : ∀ (s n : Nat), numOf (leB n s) = n % 256 ^ s
  | 0, n => by simp [leB, numOf, Nat.mod_one]
  | s + 1, n => by
    simp only [leB, numOf, numOf_leB s]
    rw [Nat.pow_succ', Nat.mod_mul]
    simp
theorem numOf_lt : ∀ l : List UInt8, numOf l < 256 ^ l.length
  | [] => by simp [numOf]
  | b :: l => by
    have h := numOf_lt l
    have hb : b.toNat < 256 := b.toNat_lt
    simp only [numOf, List.length_cons, Nat.pow_succ']
    omega
theorem numOf_append : ∀ (l m : List UInt8), numOf (l ++ m) = numOf l + 256 ^ l.length * numOf m
  | [], m => by simp [numOf]
  | b :: l, m => by
    simp only [List.cons_append, numOf, numOf_append l m, List.length_cons, Nat.pow_succ']
    rw [Nat.mul_add, Nat.mul_assoc]; omega
theorem leB_numOf : ∀ l : List UInt8, leB (numOf l) l.length = l
  | [] => rfl
  | b :: l => by
    have hb : b.toNat < 256 := b.toNat_lt
    simp only [numOf, List.length_cons, leB]
    rw [show (b.toNat + 256 * numOf l) / 256 = numOf l by omega, leB_numOf l]
    congr 1
    apply UInt8.toNat_inj.1
    simp
theorem bytes_app (l m : List UInt8) : Lib.byteCells (l ++ m) = Lib.byteCells l ++ Lib.byteCells m := Lib.byteCells_append l m
theorem byte_ofNat (n : Nat) : ((UInt8.ofNat n).toNat : Int) = (n : Int) % 256 := by
  rw [show (UInt8.ofNat n).toNat = n % 256 by simp]
  omega
end Go.Proofs.Ytghboanmiggcnaa
