/-
  Nodes: as values, as cells; which may be.
-/
import Derived.Test.YtghboanmiggcnaaLittleChain
import Derived.Test.YtghboanmiggcnaaRefGetPoint
namespace Go.Proofs.Ytghboanmiggcnaa
open Go.RowKit
set_option linter.unusedVariables false
set_option linter.unusedSimpArgs false

/-- Four numbers as a value. -/
abbrev arr4 (g : Nat → Int) : Value := .agg #[.int .i64 (g 0), .int .i64 (g 1), .int .i64 (g 2), .int .i64 (g 3)]
abbrev ndval (lf : Bool) (v : Value) (nx : Int) (k c : Nat → Int) : Value := .agg #[.bool lf, v, .int .i64 nx, .int .i64 (k 0), .int .i64 (k 1), .int .i64 (k 2), .int .i64 (k 3), .int .i64 (c 0), .int .i64 (c 1), .int .i64 (c 2), .int .i64 (c 3)]
abbrev ndcells (lf : Bool) (v : Value) (nx : Int) (k c : Nat → Int) : Array Value := #[.bool lf, v, .int .i64 nx, .int .i64 (k 0), .int .i64 (k 1), .int .i64 (k 2), .int .i64 (k 3), .int .i64 (c 0), .int .i64 (c 1), .int .i64 (c 2), .int .i64 (c 3)]
/-- Are four numbers four others? -/
def eqA (a0 a1 a2 a3 b0 b1 b2 b3 : Int) : Bool := decide (a0 = b0) && (decide (a1 = b1) && (decide (a2 = b2) && decide (a3 = b3)))
theorem eqA_iff (g h : Nat → Int) : eqA (g 0) (g 1) (g 2) (g 3) (h 0) (h 1) (h 2) (h 3) = true ↔ ∀ i, i < 4 → g i = h i := by
  unfold eqA
  simp only [Bool.and_eq_true, decide_eq_true_eq]
  constructor
  · rintro ⟨h0, h1, h2, h3⟩ i hi
    match i, hi with
    | 0, _ => exact h0
    | 1, _ => exact h1
    | 2, _ => exact h2
    | 3, _ => exact h3
  · intro h
    exact ⟨h 0 (by omega), h 1 (by omega), h 2 (by omega), h 3 (by omega)⟩
theorem run_equalIn_arr4 (d : Nat) (a0 a1 a2 a3 b0 b1 b2 b3 : Int) (w : World) : (Op.equalIn (d + 2) 27 (.agg #[.int .i64 a0, .int .i64 a1, .int .i64 a2, .int .i64 a3]) (.agg #[.int .i64 b0, .int .i64 b1, .int .i64 b2, .int .i64 b3])).run Try.prog w = .ok (eqA a0 a1 a2 a3 b0 b1 b2 b3) w := by
  unfold eqA
  rw [Op.equalIn]
  simp only [Sem.run_bind, run_underlying Try.underlying27, Result.andThen_ok]
  simp [go_sem]
  rw [show List.range' 0 4 = [0, 1, 2, 3] from rfl]
  by_cases h0 : a0 = b0 <;> by_cases h1 : a1 = b1 <;> by_cases h2 : a2 = b2 <;> by_cases h3 : a3 = b3 <;> simp [go_sem, h0, h1, h2, h3]
@[go_sem high] theorem eql_arr (a0 a1 a2 a3 b0 b1 b2 b3 : Int) (w : World) : (binOp .eql 27 (.agg #[.int .i64 a0, .int .i64 a1, .int .i64 a2, .int .i64 a3]) (.agg #[.int .i64 b0, .int .i64 b1, .int .i64 b2, .int .i64 b3])).run Try.prog w = .ok (.bool (eqA a0 a1 a2 a3 b0 b1 b2 b3)) w := by
  rw [run_eql_struct, run_equalIn_arr4 9998]
  rfl
@[go_sem high] theorem neq_arr (a0 a1 a2 a3 b0 b1 b2 b3 : Int) (w : World) : (binOp .neq 27 (.agg #[.int .i64 a0, .int .i64 a1, .int .i64 a2, .int .i64 a3]) (.agg #[.int .i64 b0, .int .i64 b1, .int .i64 b2, .int .i64 b3])).run Try.prog w = .ok (.bool (!eqA a0 a1 a2 a3 b0 b1 b2 b3)) w := by
  rw [run_neq_struct, run_equalIn_arr4 9998]
  rfl

/-- One quarter of another node. -/
def goodQ (k c : Int) : Bool := decide (0 ≤ k) && (decide (k ≤ 255) && (decide (0 ≤ c) && (decide (c ≤ 65535) && (decide (k = 0) == decide (c = 0)))))
def allQ (k c : Nat → Int) : Nat → Bool
  | 0 => true
  | q + 1 => allQ k c q && goodQ (k q) (c q)
theorem allQ_bad (k c : Nat → Int) {i : Nat} (h : goodQ (k i) (c i) = false) : ∀ n, i < n → allQ k c n = false
  | 0, hi => absurd hi (Nat.not_lt_zero _)
  | n + 1, hi => by
    by_cases e : i = n
    · subst e; simp [allQ, h]
    · simp [allQ, allQ_bad k c h n (by omega)]
theorem allQ_iff (k c : Nat → Int) : ∀ n, allQ k c n = true ↔ ∀ i, i < n → goodQ (k i) (c i) = true
  | 0 => by simp [allQ]
  | n + 1 => by
    simp only [allQ, Bool.and_eq_true, allQ_iff k c n]
    constructor
    · rintro ⟨h1, h2⟩ i hi
      by_cases e : i = n
      · rw [e]; exact h2
      · exact h1 i (by omega)
    · intro h
      exact ⟨fun i hi => h i (by omega), h n (by omega)⟩
theorem goodQ_iff (k c : Int) : goodQ k c = true ↔ 0 ≤ k ∧ k ≤ 255 ∧ 0 ≤ c ∧ c ≤ 65535 ∧ (k = 0 ↔ c = 0) := by
  unfold goodQ
  simp only [Bool.and_eq_true, decide_eq_true_eq, beq_iff_eq, decide_eq_decide]
/-- The guards of one quarter, as they are asked. -/
theorem quarter_ways (k c : Int) : (goodQ k c = false ∧ k < 0) ∨ (goodQ k c = false ∧ decide (k < 0) = false ∧ 255 < k) ∨ (goodQ k c = false ∧ decide (k < 0) = false ∧ decide (255 < k) = false ∧ c < 0) ∨
    (goodQ k c = false ∧ decide (k < 0) = false ∧ decide (255 < k) = false ∧ decide (c < 0) = false ∧ 65535 < c) ∨
    (goodQ k c = false ∧ decide (k < 0) = false ∧ decide (255 < k) = false ∧ decide (c < 0) = false ∧ decide (65535 < c) = false ∧ (k == 0) = true ∧ (c == 0) = false) ∨
    (goodQ k c = false ∧ decide (k < 0) = false ∧ decide (255 < k) = false ∧ decide (c < 0) = false ∧ decide (65535 < c) = false ∧ (k == 0) = false ∧ (c == 0) = true) ∨
    (goodQ k c = true ∧ decide (k < 0) = false ∧ decide (255 < k) = false ∧ decide (c < 0) = false ∧ decide (65535 < c) = false ∧ (k == 0) = true ∧ (c == 0) = true) ∨
    (goodQ k c = true ∧ decide (k < 0) = false ∧ decide (255 < k) = false ∧ decide (c < 0) = false ∧ decide (65535 < c) = false ∧ (k == 0) = false ∧ (c == 0) = false) := by
  have hf : ∀ {P : Prop}, ¬ (0 ≤ k ∧ k ≤ 255 ∧ 0 ≤ c ∧ c ≤ 65535 ∧ (k = 0 ↔ c = 0)) → goodQ k c = false := fun h => by
    cases hg : goodQ k c with
    | false => rfl
    | true => exact absurd ((goodQ_iff k c).1 hg) h
  by_cases h1 : k < 0
  · exact .inl ⟨hf (P := True) (by omega), h1⟩
  by_cases h2 : 255 < k
  · exact .inr (.inl ⟨hf (P := True) (by omega), decide_eq_false h1, h2⟩)
  by_cases h3 : c < 0
  · exact .inr (.inr (.inl ⟨hf (P := True) (by omega), decide_eq_false h1, decide_eq_false h2, h3⟩))
  by_cases h4 : 65535 < c
  · exact .inr (.inr (.inr (.inl ⟨hf (P := True) (by omega), decide_eq_false h1, decide_eq_false h2, decide_eq_false h3, h4⟩)))
  by_cases h5 : k = 0
  · by_cases h6 : c = 0
    · exact .inr (.inr (.inr (.inr (.inr (.inr (.inl ⟨(goodQ_iff k c).2 (by omega), decide_eq_false h1, decide_eq_false h2, decide_eq_false h3, decide_eq_false h4, by simpa using h5, by simpa using h6⟩))))))
    · exact .inr (.inr (.inr (.inr (.inl ⟨hf (P := True) (by omega), decide_eq_false h1, decide_eq_false h2, decide_eq_false h3, decide_eq_false h4, by simpa using h5, by simpa using h6⟩))))
  · by_cases h6 : c = 0
    · exact .inr (.inr (.inr (.inr (.inr (.inl ⟨hf (P := True) (by omega), decide_eq_false h1, decide_eq_false h2, decide_eq_false h3, decide_eq_false h4, by simpa using h5, by simpa using h6⟩)))))
    · exact .inr (.inr (.inr (.inr (.inr (.inr (.inr ⟨(goodQ_iff k c).2 (by omega), decide_eq_false h1, decide_eq_false h2, decide_eq_false h3, decide_eq_false h4, by simpa using h5, by simpa using h6⟩))))))
def otherB (n : Nat) (nx : Int) (k c : Nat → Int) : Bool := decide (n = 0) && (decide (nx = 0) && allQ k c 4)

/-- One point of a leaf. -/
def goodL (f : Nat → Pt) (i : Nat) : Bool := decide (f i).may && (decide (i = 0) || decide ((f (i - 1)).id < (f i).id))
def allL (f : Nat → Pt) : Nat → Bool
  | 0 => true
  | i + 1 => allL f i && goodL f i
theorem allL_bad (f : Nat → Pt) {i : Nat} (h : goodL f i = false) : ∀ n, i < n → allL f n = false
  | 0, hi => absurd hi (Nat.not_lt_zero _)
  | n + 1, hi => by
    by_cases e : i = n
    · subst e; simp [allL, h]
    · simp [allL, allL_bad f h n (by omega)]
theorem allL_iff (f : Nat → Pt) : ∀ n, allL f n = true ↔ ∀ i, i < n → goodL f i = true
  | 0 => by simp [allL]
  | n + 1 => by
    simp only [allL, Bool.and_eq_true, allL_iff f n]
    constructor
    · rintro ⟨h1, h2⟩ i hi
      by_cases e : i = n
      · rw [e]; exact h2
      · exact h1 i (by omega)
    · intro h
      exact ⟨fun i hi => h i (by omega), h n (by omega)⟩
def zeroA (k : Nat → Int) : Bool := eqA (k 0) (k 1) (k 2) (k 3) 0 0 0 0
def leafB (n : Nat) (f : Nat → Pt) (nx : Int) (k c : Nat → Int) : Bool := decide (n ≤ 4) && (decide (0 ≤ nx) && (decide (nx ≤ 255) && (zeroA k && (zeroA c && allL f n))))
def nodeB (lf : Bool) (n : Nat) (f : Nat → Pt) (nx : Int) (k c : Nat → Int) : Bool := if lf then leafB n f nx k c else otherB n nx k c
end Go.Proofs.Ytghboanmiggcnaa
