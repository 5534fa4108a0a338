/-
  Layer 30: steps as data: which may be, their octets.
-/
import Derived.Test.YtngfhbclapadoaaOwnRow
import Derived.Test.YtngfhbclapadoaaLittlePut
namespace Go.Proofs.Ytngfhbclapadoaa
open Go.RowKit
set_option linter.unusedVariables false
set_option linter.unusedSimpArgs false

/-- A step: its fate's numbers lie at q. -/
structure Sp where
  k : Int
  a : Int
  x : Int
  y : Int
  x1 : Int
  y1 : Int
  d : ByteArray
  q : Option Addr
  fc : Nat
  f : List Int
def faT : RowT Int := { ty := 3, sl := 47, sz := 1, bytes := 8, zero := .int .i64 0, cells := fun x => [.int .i64 x], dflt := 0 }
theorem faOk : faT.Ok := ⟨Try.underlying47, by kernel_rfl, rfl, by decide, fun _ => rfl, fun x u hu => by
  simp [faT] at hu
  rcases hu with rfl; rfl⟩
abbrev faAt (L : List Int) (i : Nat) : Int := atR faT L i
def spcells (s : Sp) : List Value := [.int .i64 s.k, .int .i64 s.a, .int .u32 s.x, .int .u32 s.y, .int .u32 s.x1, .int .u32 s.y1, .string s.d, .slice s.q s.f.length s.fc]
abbrev spval (s : Sp) : Value := .agg #[.int .i64 s.k, .int .i64 s.a, .int .u32 s.x, .int .u32 s.y, .int .u32 s.x1, .int .u32 s.y1, .string s.d, .slice s.q s.f.length s.fc]
abbrev sparr (s : Sp) : Array Value := #[.int .i64 s.k, .int .i64 s.a, .int .u32 s.x, .int .u32 s.y, .int .u32 s.x1, .int .u32 s.y1, .string s.d, .slice s.q s.f.length s.fc]
structure Sp.ok (s : Sp) : Prop where
  a1 : -9223372036854775808 ≤ s.a
  a2 : s.a ≤ 9223372036854775807
  x0 : 0 ≤ s.x
  x9 : s.x ≤ 4294967295
  y0 : 0 ≤ s.y
  y9 : s.y ≤ 4294967295
  x10 : 0 ≤ s.x1
  x19 : s.x1 ≤ 4294967295
  y10 : 0 ≤ s.y1
  y19 : s.y1 ≤ 4294967295
  d : s.d.size ≤ maxLen
  f1 : s.f.length ≤ s.fc
  f2 : s.fc ≤ maxLen
  fz : ∀ z ∈ s.f, -9223372036854775808 ≤ z ∧ z ≤ 9223372036854775807
/-- Its fate is there. -/
def Sp.there (w : World) (s : Sp) : Prop := RowOf faT w s.q s.f
theorem Sp.there.more {w w' : World} {s : Sp} (h : s.there w) (hb : Below w.heap.size w w') : s.there w' := RowOf.more h hb
def spT : RowT Sp := { ty := 49, sl := 45, sz := 8, bytes := 72, zero := .agg #[.int .i64 0, .int .i64 0, .int .u32 0, .int .u32 0, .int .u32 0, .int .u32 0, .string ByteArray.empty, .slice none 0 0], cells := spcells, dflt := ⟨0, 0, 0, 0, 0, 0, ByteArray.empty, none, 0, []⟩ }
theorem spOk : spT.Ok := ⟨Try.underlying45, by kernel_rfl, rfl, by decide, fun _ => rfl, fun x u hu => by
  simp [spT, spcells] at hu
  rcases hu with rfl | rfl | rfl | rfl | rfl | rfl | rfl | rfl <;> rfl⟩
abbrev spAt (L : List Sp) (i : Nat) : Sp := atR spT L i

/-- Which fates, and which steps, may be. -/
def fateB (z : Int) : Bool := decide (0 ≤ z) && decide (z ≤ 65535)
def fatesB (f : List Int) : Bool := f.all fateB
def spCk (s : Sp) : Int := if s.k < 1 ∨ 13 < s.k then 12 else if s.a < 0 ∨ 4294967295 < s.a ∨ fatesB s.f = false then 4 else if 255 < s.d.size ∨ 255 < s.f.length then 5 else 0
/-- A step's octets. -/
def fateO (f : List Int) : List UInt8 := f.flatMap fun z => leB z.toNat 2
def stepO (s : Sp) : List UInt8 := leB s.k.toNat 1 ++ leB s.a.toNat 4 ++ leB s.x.toNat 4 ++ leB s.y.toNat 4 ++ leB s.x1.toNat 4 ++ leB s.y1.toNat 4 ++ leB s.d.size 1 ++ s.d.data.toList ++ leB s.f.length 1 ++ fateO s.f
theorem fateO_length : ∀ f : List Int, (fateO f).length = 2 * f.length
  | [] => rfl
  | z :: f => by
    have := fateO_length f
    simp only [fateO, List.flatMap_cons, List.length_append, leB_length, List.length_cons] at this ⊢
    omega
theorem stepO_length (s : Sp) : (stepO s).length = 23 + s.d.size + 2 * s.f.length := by
  simp only [stepO, List.length_append, leB_length, fateO_length, size_list]; omega
theorem fateO_take (f : List Int) (k : Nat) (h : k < f.length) : fateO (f.take (k + 1)) = fateO (f.take k) ++ leB (faAt f k).toNat 2 := by
  rw [List.take_add_one, List.getElem?_eq_getElem h, ← atR_eq (T := faT) f k h]
  simp [fateO]
theorem fatesB_take (f : List Int) (k : Nat) (h : k < f.length) : fatesB (f.take (k + 1)) = (fatesB (f.take k) && fateB (faAt f k)) := by
  rw [List.take_add_one, List.getElem?_eq_getElem h, ← atR_eq (T := faT) f k h]
  simp [fatesB, List.all_append]
theorem fatesB_bad (f : List Int) (k : Nat) (h : k < f.length) (hb : fateB (faAt f k) = false) : fatesB f = false := by
  unfold fatesB
  rw [List.all_eq_false]
  exact ⟨_, atR_mem (T := faT) f k h, by rw [show atR faT f k = faAt f k from rfl, hb]; simp⟩
theorem fateB_of {f : List Int} (h : fatesB f = true) (k : Nat) (hk : k < f.length) : 0 ≤ faAt f k ∧ faAt f k ≤ 65535 := by
  have := List.all_eq_true.1 h _ (atR_mem (T := faT) f k hk)
  simpa [fateB] using this
theorem spCk_ways (s : Sp) : spCk s = 0 ∨ spCk s = 4 ∨ spCk s = 5 ∨ spCk s = 12 := by
  unfold spCk; split
  · simp
  · split
    · simp
    · split <;> simp
theorem spCk_zero {s : Sp} (h : spCk s = 0) : 1 ≤ s.k ∧ s.k ≤ 13 ∧ 0 ≤ s.a ∧ s.a ≤ 4294967295 ∧ fatesB s.f = true ∧ s.d.size ≤ 255 ∧ s.f.length ≤ 255 := by
  unfold spCk at h
  split at h
  · cases h
  · split at h
    · cases h
    · split at h
      · cases h
      · rename_i h1 h2 h3
        refine ⟨by omega, by omega, by omega, by omega, ?_, by omega, by omega⟩
        cases hf : fatesB s.f
        · exact absurd (.inr (.inr hf)) h2
        · rfl

/-- The first error of all; all octets. -/
def spE : List Sp → Int
  | [] => 0
  | s :: L => if spCk s = 0 then spE L else spCk s
def spO (L : List Sp) : List UInt8 := L.flatMap fun s => if spCk s = 0 then stepO s else []
theorem spE_take (L : List Sp) : ∀ (k : Nat), k < L.length → spE (L.take (k + 1)) = if spE (L.take k) = 0 then spCk (spAt L k) else spE (L.take k) := by
  induction L with
  | nil => intro k h; exact absurd h (Nat.not_lt_zero _)
  | cons s L ih =>
    intro k h
    cases k with
    | zero =>
      show (if spCk s = 0 then 0 else spCk s) = if (0 : Int) = 0 then spCk s else 0
      by_cases e : spCk s = 0 <;> simp [e]
    | succ k =>
      have := ih k (by simpa using h)
      show (if spCk s = 0 then spE (L.take (k + 1)) else spCk s) = if (if spCk s = 0 then spE (L.take k) else spCk s) = 0 then spCk (spAt L k) else (if spCk s = 0 then spE (L.take k) else spCk s)
      by_cases e : spCk s = 0
      · simp only [e, if_true]; exact this
      · simp only [e, if_false]
theorem spE_stop (L : List Sp) : ∀ (k : Nat), k < L.length → spE (L.take k) = 0 → spCk (spAt L k) ≠ 0 → spE L = spCk (spAt L k) := by
  induction L with
  | nil => intro k h; exact absurd h (Nat.not_lt_zero _)
  | cons s L ih =>
    intro k h h0 hc
    cases k with
    | zero =>
      show (if spCk s = 0 then spE L else spCk s) = spCk s
      exact if_neg hc
    | succ k =>
      have h0' : (if spCk s = 0 then spE (L.take k) else spCk s) = 0 := h0
      by_cases e : spCk s = 0
      · rw [if_pos e] at h0'
        show (if spCk s = 0 then spE L else spCk s) = spCk (spAt L k)
        rw [if_pos e]
        exact ih k (by simpa using h) h0' hc
      · rw [if_neg e] at h0'
        exact absurd h0' e
theorem spE_ways : ∀ L : List Sp, spE L = 0 ∨ spE L = 4 ∨ spE L = 5 ∨ spE L = 12
  | [] => .inl rfl
  | s :: L => by
    unfold spE
    by_cases e : spCk s = 0
    · rw [if_pos e]; exact spE_ways L
    · rw [if_neg e]; exact spCk_ways s
theorem spE_all {L : List Sp} (h : spE L = 0) (k : Nat) (hk : k < L.length) : spCk (spAt L k) = 0 := by
  refine Classical.byContradiction fun hc => ?_
  induction L generalizing k with
  | nil => exact absurd hk (Nat.not_lt_zero _)
  | cons s L ih =>
    have h' : (if spCk s = 0 then spE L else spCk s) = 0 := h
    by_cases e : spCk s = 0
    · rw [if_pos e] at h'
      cases k with
      | zero => exact hc e
      | succ k => exact ih h' k (by simpa using hk) hc
    · rw [if_neg e] at h'
      exact e h'
theorem spE_append : ∀ A B : List Sp, spE (A ++ B) = if spE A = 0 then spE B else spE A
  | [], B => by simp [spE]
  | s :: A, B => by
    have := spE_append A B
    show (if spCk s = 0 then spE (A ++ B) else spCk s) = if (if spCk s = 0 then spE A else spCk s) = 0 then spE B else (if spCk s = 0 then spE A else spCk s)
    by_cases e : spCk s = 0
    · simp only [e, if_true]; exact this
    · simp only [e, if_false]
theorem spO_append (A B : List Sp) : spO (A ++ B) = spO A ++ spO B := by simp [spO]
theorem spO_take (L : List Sp) (k : Nat) (h : k < L.length) : spO (L.take (k + 1)) = spO (L.take k) ++ if spCk (spAt L k) = 0 then stepO (spAt L k) else [] := by
  rw [List.take_add_one, List.getElem?_eq_getElem h, ← atR_eq (T := spT) L k h]
  simp [spO]
theorem spO_length : ∀ L : List Sp, (spO L).length ≤ 788 * L.length
  | [] => by simp [spO]
  | s :: L => by
    have h := spO_length L
    have e : spO (s :: L) = (if spCk s = 0 then stepO s else []) ++ spO L := by simp [spO]
    rw [e, List.length_append, List.length_cons]
    by_cases h0 : spCk s = 0
    · have h2 := spCk_zero h0
      rw [if_pos h0, stepO_length]
      omega
    · rw [if_neg h0]
      simp only [List.length_nil]
      omega
end Go.Proofs.Ytngfhbclapadoaa
