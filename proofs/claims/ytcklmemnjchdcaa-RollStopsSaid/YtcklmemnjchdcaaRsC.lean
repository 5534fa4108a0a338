/-
  Layer 8: nodes come back from their octets, and octets from their nodes. The walk.
-/
import Derived.Test.YtcklmemnjchdcaaRsA
import Derived.Test.YtcklmemnjchdcaaRsA2
import Derived.Test.YtcklmemnjchdcaaRsZ
import Derived.Deep.QuietTactic
import Derived.BigQuiet
import Derived.Outline
import Derived.LoopN

/-
  Nodes: as values, as cells; which may be.
-/


namespace Go.Proofs.Ytcklmemnjchdcaa
open Go.RowKit
set_option linter.unusedVariables false
set_option linter.unusedSimpArgs false

/-- Four numbers as a value. -/
abbrev arr4 (g : Nat → Int) : Value := .agg #[.int .i64 (g 0), .int .i64 (g 1), .int .i64 (g 2), .int .i64 (g 3)]
abbrev ndval (lf : Bool) (v : Value) (nx : Int) (k c : Nat → Int) : Value := .agg #[.bool lf, v, .int .i64 nx, .int .i64 (k 0), .int .i64 (k 1), .int .i64 (k 2), .int .i64 (k 3), .int .i64 (c 0), .int .i64 (c 1), .int .i64 (c 2), .int .i64 (c 3)]
abbrev ndcells (lf : Bool) (v : Value) (nx : Int) (k c : Nat → Int) : Array Value := #[.bool lf, v, .int .i64 nx, .int .i64 (k 0), .int .i64 (k 1), .int .i64 (k 2), .int .i64 (k 3), .int .i64 (c 0), .int .i64 (c 1), .int .i64 (c 2), .int .i64 (c 3)]
/-- Are four numbers four others? -/
def eqA (a0 a1 a2 a3 b0 b1 b2 b3 : Int) : Bool := decide (a0 = b0) && (decide (a1 = b1) && (decide (a2 = b2) && decide (a3 = b3)))
theorem run_equalIn_arr4 (d : Nat) (a0 a1 a2 a3 b0 b1 b2 b3 : Int) (w : World) : (Op.equalIn (d + 2) 76 (.agg #[.int .i64 a0, .int .i64 a1, .int .i64 a2, .int .i64 a3]) (.agg #[.int .i64 b0, .int .i64 b1, .int .i64 b2, .int .i64 b3])).run Try.prog w = .ok (eqA a0 a1 a2 a3 b0 b1 b2 b3) w := by
  unfold eqA
  rw [Op.equalIn]
  simp only [Sem.run_bind, run_underlying Try.underlying76, Result.andThen_ok]
  simp [go_sem]
  rw [show List.range' 0 4 = [0, 1, 2, 3] from rfl]
  by_cases h0 : a0 = b0 <;> by_cases h1 : a1 = b1 <;> by_cases h2 : a2 = b2 <;> by_cases h3 : a3 = b3 <;> simp [go_sem, h0, h1, h2, h3]
@[go_sem high] theorem eql_arr (a0 a1 a2 a3 b0 b1 b2 b3 : Int) (w : World) : (binOp .eql 76 (.agg #[.int .i64 a0, .int .i64 a1, .int .i64 a2, .int .i64 a3]) (.agg #[.int .i64 b0, .int .i64 b1, .int .i64 b2, .int .i64 b3])).run Try.prog w = .ok (.bool (eqA a0 a1 a2 a3 b0 b1 b2 b3)) w := by
  rw [run_eql_struct, run_equalIn_arr4 9998]
  rfl
@[go_sem high] theorem neq_arr (a0 a1 a2 a3 b0 b1 b2 b3 : Int) (w : World) : (binOp .neq 76 (.agg #[.int .i64 a0, .int .i64 a1, .int .i64 a2, .int .i64 a3]) (.agg #[.int .i64 b0, .int .i64 b1, .int .i64 b2, .int .i64 b3])).run Try.prog w = .ok (.bool (!eqA a0 a1 a2 a3 b0 b1 b2 b3)) w := by
  rw [run_neq_struct, run_equalIn_arr4 9998]
  rfl

/-- One quarter of another node. -/
def goodQ (k c : Int) : Bool := decide (0 ≤ k) && (decide (k ≤ 255) && (decide (0 ≤ c) && (decide (c ≤ 65535) && (decide (k = 0) == decide (c = 0)))))
def allQ (k c : Nat → Int) : Nat → Bool
  | 0 => true
  | q + 1 => allQ k c q && goodQ (k q) (c q)
theorem allQ_bad (k c : Nat → Int) {i : Nat} (h : goodQ (k i) (c i) = false) : ∀ n, i < n → allQ k c n = false
  | 0, hi => absurd hi (Nat.not_lt_zero _)
  | n + 1, hi => by
    by_cases e : i = n
    · subst e; simp [allQ, h]
    · simp [allQ, allQ_bad k c h n (by omega)]
theorem allQ_iff (k c : Nat → Int) : ∀ n, allQ k c n = true ↔ ∀ i, i < n → goodQ (k i) (c i) = true
  | 0 => by simp [allQ]
  | n + 1 => by
    simp only [allQ, Bool.and_eq_true, allQ_iff k c n]
    constructor
    · rintro ⟨h1, h2⟩ i hi
      by_cases e : i = n
      · rw [e]; exact h2
      · exact h1 i (by omega)
    · intro h
      exact ⟨fun i hi => h i (by omega), h n (by omega)⟩
theorem goodQ_iff (k c : Int) : goodQ k c = true ↔ 0 ≤ k ∧ k ≤ 255 ∧ 0 ≤ c ∧ c ≤ 65535 ∧ (k = 0 ↔ c = 0) := by
  unfold goodQ
  simp only [Bool.and_eq_true, decide_eq_true_eq, beq_iff_eq, decide_eq_decide]
/-- The guards of one quarter, as they are asked. -/
theorem quarter_ways (k c : Int) : (goodQ k c = false ∧ k < 0) ∨ (goodQ k c = false ∧ decide (k < 0) = false ∧ 255 < k) ∨ (goodQ k c = false ∧ decide (k < 0) = false ∧ decide (255 < k) = false ∧ c < 0) ∨
    (goodQ k c = false ∧ decide (k < 0) = false ∧ decide (255 < k) = false ∧ decide (c < 0) = false ∧ 65535 < c) ∨
    (goodQ k c = false ∧ decide (k < 0) = false ∧ decide (255 < k) = false ∧ decide (c < 0) = false ∧ decide (65535 < c) = false ∧ (k == 0) = true ∧ (c == 0) = false) ∨
    (goodQ k c = false ∧ decide (k < 0) = false ∧ decide (255 < k) = false ∧ decide (c < 0) = false ∧ decide (65535 < c) = false ∧ (k == 0) = false ∧ (c == 0) = true) ∨
    (goodQ k c = true ∧ decide (k < 0) = false ∧ decide (255 < k) = false ∧ decide (c < 0) = false ∧ decide (65535 < c) = false ∧ (k == 0) = true ∧ (c == 0) = true) ∨
    (goodQ k c = true ∧ decide (k < 0) = false ∧ decide (255 < k) = false ∧ decide (c < 0) = false ∧ decide (65535 < c) = false ∧ (k == 0) = false ∧ (c == 0) = false) := by
  have hf : ∀ {P : Prop}, ¬ (0 ≤ k ∧ k ≤ 255 ∧ 0 ≤ c ∧ c ≤ 65535 ∧ (k = 0 ↔ c = 0)) → goodQ k c = false := fun h => by
    cases hg : goodQ k c with
    | false => rfl
    | true => exact absurd ((goodQ_iff k c).1 hg) h
  by_cases h1 : k < 0
  · exact .inl ⟨hf (P := True) (by omega), h1⟩
  by_cases h2 : 255 < k
  · exact .inr (.inl ⟨hf (P := True) (by omega), decide_eq_false h1, h2⟩)
  by_cases h3 : c < 0
  · exact .inr (.inr (.inl ⟨hf (P := True) (by omega), decide_eq_false h1, decide_eq_false h2, h3⟩))
  by_cases h4 : 65535 < c
  · exact .inr (.inr (.inr (.inl ⟨hf (P := True) (by omega), decide_eq_false h1, decide_eq_false h2, decide_eq_false h3, h4⟩)))
  by_cases h5 : k = 0
  · by_cases h6 : c = 0
    · exact .inr (.inr (.inr (.inr (.inr (.inr (.inl ⟨(goodQ_iff k c).2 (by omega), decide_eq_false h1, decide_eq_false h2, decide_eq_false h3, decide_eq_false h4, by simpa using h5, by simpa using h6⟩))))))
    · exact .inr (.inr (.inr (.inr (.inl ⟨hf (P := True) (by omega), decide_eq_false h1, decide_eq_false h2, decide_eq_false h3, decide_eq_false h4, by simpa using h5, by simpa using h6⟩))))
  · by_cases h6 : c = 0
    · exact .inr (.inr (.inr (.inr (.inr (.inl ⟨hf (P := True) (by omega), decide_eq_false h1, decide_eq_false h2, decide_eq_false h3, decide_eq_false h4, by simpa using h5, by simpa using h6⟩)))))
    · exact .inr (.inr (.inr (.inr (.inr (.inr (.inr ⟨(goodQ_iff k c).2 (by omega), decide_eq_false h1, decide_eq_false h2, decide_eq_false h3, decide_eq_false h4, by simpa using h5, by simpa using h6⟩))))))
def otherB (n : Nat) (nx : Int) (k c : Nat → Int) : Bool := decide (n = 0) && (decide (nx = 0) && allQ k c 4)

/-- One point of a leaf. -/
def goodL (f : Nat → Pt) (i : Nat) : Bool := decide (f i).may && (decide (i = 0) || decide ((f (i - 1)).id < (f i).id))
def allL (f : Nat → Pt) : Nat → Bool
  | 0 => true
  | i + 1 => allL f i && goodL f i
theorem allL_bad (f : Nat → Pt) {i : Nat} (h : goodL f i = false) : ∀ n, i < n → allL f n = false
  | 0, hi => absurd hi (Nat.not_lt_zero _)
  | n + 1, hi => by
    by_cases e : i = n
    · subst e; simp [allL, h]
    · simp [allL, allL_bad f h n (by omega)]
theorem allL_iff (f : Nat → Pt) : ∀ n, allL f n = true ↔ ∀ i, i < n → goodL f i = true
  | 0 => by simp [allL]
  | n + 1 => by
    simp only [allL, Bool.and_eq_true, allL_iff f n]
    constructor
    · rintro ⟨h1, h2⟩ i hi
      by_cases e : i = n
      · rw [e]; exact h2
      · exact h1 i (by omega)
    · intro h
      exact ⟨fun i hi => h i (by omega), h n (by omega)⟩
def zeroA (k : Nat → Int) : Bool := eqA (k 0) (k 1) (k 2) (k 3) 0 0 0 0
def leafB (n : Nat) (f : Nat → Pt) (nx : Int) (k c : Nat → Int) : Bool := decide (n ≤ 4) && (decide (0 ≤ nx) && (decide (nx ≤ 255) && (zeroA k && (zeroA c && allL f n))))
def nodeB (lf : Bool) (n : Nat) (f : Nat → Pt) (nx : Int) (k c : Nat → Int) : Bool := if lf then leafB n f nx k c else otherB n nx k c
end Go.Proofs.Ytcklmemnjchdcaa

/-
  Package node: which nodes may be.
-/






namespace Go.Proofs.Ytcklmemnjchdcaa
open Go.RowKit
set_option linter.unusedVariables false
set_option linter.unusedSimpArgs false

theorem less_any (P Q : Pt) (w : World) : Calls Try.prog 100 #[pval P, pval Q] w fun e w' => e = .returned (.bool (decide (P.id < Q.id))) ∧ Below w.heap.size w w' := by
  have hb0 : Below w.heap.size w ((w.alloc (.cells #[.int .i64 P.id, .int .u32 P.x, .int .u32 P.y, .string P.d] 168)).alloc (.cells #[.int .i64 Q.id, .int .u32 Q.x, .int .u32 Q.y, .string Q.d] 168)) := ((Below.refl _ _).alloc (Nat.le_refl _) _).alloc (by simp) _
  go_enter Try.func100, Try.ntmps100
  go_wp2
  go_ret
  exact ⟨rfl, hb0⟩

set_option maxRecDepth 100000 in
set_option maxHeartbeats 8000000 in
theorem other_any (lf : Bool) (p : Option Addr) (n cap : Nat) (nx : Int) (k c : Nat → Int) (h1 : n ≤ cap) (h2 : cap ≤ maxLen) (w : World) :
    Calls Try.prog 85 #[ndval lf (.slice p n cap) nx k c] w fun e w' => e = .returned (.bool (otherB n nx k c)) ∧ Below w.heap.size w w' := by
  have hb0 : Below w.heap.size w (w.alloc (.cells (ndcells lf (.slice p n cap) nx k c) 78)) := (Below.refl _ _).alloc (Nat.le_refl _) _
  have BX := Blk.new w (ndcells lf (.slice p n cap) nx k c) 78
  have D0 := hid hb0
  have HBX := hid BX
  unfold maxLen at h2
  clear hb0 BX
  by_cases g1 : 0 < (n : Int)
  · have hB : otherB n nx k c = false := by unfold otherB; rw [decide_eq_false (show ¬ n = 0 by omega)]; rfl
    go_enter Try.func85, Try.ntmps85
    replace hB := hid hB
    go_wp2_with fail
    go_ret
    exact ⟨by rw [hB.out]; rfl, D0.out⟩
  · obtain rfl : n = 0 := by omega
    by_cases g2 : nx = 0
    · subst g2
      have hB : otherB 0 0 k c = allQ k c 4 := by unfold otherB; simp
      generalize otherB 0 0 k c = B at *
      replace hB := hid hB
      have kf : Hid (∀ q, q < 4 → (ndcells lf (.slice p 0 cap) 0 k c)[3 + q]? = some (.int .i64 (k q))) := hid (fun q hq => by
        match q, hq with
        | 0, _ => rfl
        | 1, _ => rfl
        | 2, _ => rfl
        | 3, _ => rfl)
      have cf : Hid (∀ q, q < 4 → (ndcells lf (.slice p 0 cap) 0 k c)[7 + q]? = some (.int .i64 (c q))) := hid (fun q hq => by
        match q, hq with
        | 0, _ => rfl
        | 1, _ => rfl
        | 2, _ => rfl
        | 3, _ => rfl)
      clear g1
      obtain ⟨lx, kx, fx⟩ := HBX.out
      go_enter Try.func85, Try.ntmps85
      go_wp2_with fail
      go_loopw [15, 3, 4, 5] (fun i z3 z4 z5 wx => ∃ q : Nat, q ≤ 4 ∧ i = .int .i64 (q : Int) ∧ allQ k c q = true ∧ Below (w.alloc (.cells (ndcells lf (.slice p 0 cap) 0 k c) 78)).heap.size (w.alloc (.cells (ndcells lf (.slice p 0 cap) 0 k c) 78)) wx) (fun i _ _ _ _ => 4 - (intOf i).toNat)
      case atStart => exact ⟨0, by omega, rfl, rfl, Below.refl _ _⟩
      case round =>
        obtain ⟨q, hq, rfl, ha, hb⟩ := hrel
        have HB := HBX.out.more hb
        have D1 := hid (below2 D0.out hb D0.out.size)
        clear lx kx fx
        obtain ⟨lx, kx, fx⟩ := HB
        by_cases hlt : q < 4
        · have z0 := (kx (3 + q)).trans (kf.out q hlt)
          have z1 := (kx (7 + q)).trans (cf.out q hlt)
          have ways := quarter_ways (k q) (c q)
          have hbad := hid (fun h => allQ_bad k c (i := q) h 4 hlt)
          have hst : allQ k c (q + 1) = (allQ k c q && goodQ (k q) (c q)) := rfl
          rw [ha, Bool.true_and] at hst
          replace hst := hid hst
          replace hb := hid hb
          generalize k q = kq at *
          generalize c q = cq at *
          clear lx kx fx
          go_wp2_with fail
          go_region
          rcases ways with ⟨hg, g1⟩ | ⟨hg, g1, g2⟩ | ⟨hg, g1, g2, g3⟩ | ⟨hg, g1, g2, g3, g4⟩ | ⟨hg, g1, g2, g3, g4, g5, g6⟩ | ⟨hg, g1, g2, g3, g4, g5, g6⟩ | ⟨hg, g1, g2, g3, g4, g5, g6⟩ | ⟨hg, g1, g2, g3, g4, g5, g6⟩
          iterate 6
           focus
            have hBf := hid (show B = false by rw [hB.out]; exact hbad.out hg)
            replace hg := hid hg
            go_wp2_with fail
            go_ret
            exact ⟨by rw [hBf.out]; rfl, D1.out.drew⟩
          all_goals
            have hs := hid (show allQ k c (q + 1) = true by rw [hst.out, hg])
            replace hg := hid hg
            go_wp2_with fail
            go_roundw
            case rel => exact ⟨q + 1, by omega, by go_num, hs.out, hb.out.drew⟩
            case measure => simp [intOf]; omega
        · obtain rfl : q = 4 := by omega
          have hBt := hid (show B = true by rw [hB.out]; exact ha)
          replace ha := hid ha
          replace hb := hid hb
          go_wp2
          go_ret
          exact ⟨by rw [hBt.out]; rfl, D1.out⟩
    · have hB : otherB 0 nx k c = false := by unfold otherB; rw [decide_eq_false g2]; rfl
      have g2' : (nx != 0) = true := by simpa using g2
      replace hB := hid hB
      go_enter Try.func85, Try.ntmps85
      go_wp2_with fail
      go_ret
      exact ⟨by rw [hB.out]; rfl, D0.out⟩

set_option maxRecDepth 100000 in
set_option maxHeartbeats 16000000 in
theorem leaf_any (lf : Bool) (p : Option Addr) (n cap : Nat) (f : Nat → Pt) (hf : ∀ i, i < n → (f i).ok) (nx : Int) (k c : Nat → Int) (h1 : n ≤ cap) (h2 : cap ≤ maxLen) (w : World) (HR : RowP w p 4 n (fun i => pcells (f i))) :
    Calls Try.prog 84 #[ndval lf (.slice p n cap) nx k c] w fun e w' => e = .returned (.bool (leafB n f nx k c)) ∧ Below w.heap.size w w' := by
  have hb0 : Below w.heap.size w (w.alloc (.cells (ndcells lf (.slice p n cap) nx k c) 78)) := (Below.refl _ _).alloc (Nat.le_refl _) _
  have BX := Blk.new w (ndcells lf (.slice p n cap) nx k c) 78
  have D0 := hid hb0
  have HBX := hid BX
  have HR0 := hid HR
  have HF := hid hf
  have hB : leafB n f nx k c = (decide (n ≤ 4) && (decide (0 ≤ nx) && (decide (nx ≤ 255) && (zeroA k && (zeroA c && allL f n))))) := rfl
  generalize leafB n f nx k c = B at *
  unfold maxLen at h2
  clear hb0 BX HR hf
  by_cases g1 : 4 < (n : Int)
  · rw [decide_eq_false (show ¬ n ≤ 4 by omega), Bool.false_and] at hB
    replace hB := hid hB
    go_enter Try.func84, Try.ntmps84
    go_wp2_with fail
    go_ret
    exact ⟨by rw [hB.out]; rfl, D0.out⟩
  by_cases g2 : nx < 0
  · rw [decide_eq_false (show ¬ 0 ≤ nx by omega), Bool.false_and, Bool.and_false] at hB
    replace hB := hid hB
    replace g1 := decide_eq_false g1
    go_enter Try.func84, Try.ntmps84
    go_wp2_with fail
    go_ret
    exact ⟨by rw [hB.out]; rfl, D0.out⟩
  by_cases g3 : 255 < nx
  · rw [decide_eq_false (show ¬ nx ≤ 255 by omega), Bool.false_and, Bool.and_false, Bool.and_false] at hB
    replace hB := hid hB
    replace g1 := decide_eq_false g1
    replace g2 := decide_eq_false g2
    go_enter Try.func84, Try.ntmps84
    go_wp2_with fail
    go_ret
    exact ⟨by rw [hB.out]; rfl, D0.out⟩
  have n4 : n ≤ 4 := by omega
  rw [decide_eq_true n4, decide_eq_true (show 0 ≤ nx by omega), decide_eq_true (show nx ≤ 255 by omega), Bool.true_and, Bool.true_and, Bool.true_and] at hB
  replace g1 := decide_eq_false g1
  replace g2 := decide_eq_false g2
  replace g3 := decide_eq_false g3
  unfold zeroA at hB
  cases g4 : eqA (k 0) (k 1) (k 2) (k 3) 0 0 0 0 with
  | false =>
    rw [g4, Bool.false_and] at hB
    replace hB := hid hB
    go_enter Try.func84, Try.ntmps84
    go_wp2_with fail
    go_ret
    exact ⟨by rw [hB.out]; rfl, D0.out⟩
  | true =>
    cases g5 : eqA (c 0) (c 1) (c 2) (c 3) 0 0 0 0 with
    | false =>
      rw [g4, g5, Bool.false_and, Bool.and_false] at hB
      replace hB := hid hB
      go_enter Try.func84, Try.ntmps84
      go_wp2_with fail
      go_ret
      exact ⟨by rw [hB.out]; rfl, D0.out⟩
    | true =>
      rw [g4, g5, Bool.true_and, Bool.true_and] at hB
      replace hB := hid hB
      go_enter Try.func84, Try.ntmps84
      go_wp2_with fail
      clear g1 g2 g3 g4 g5
      go_loopw [34, 3, 4] (fun i z3 z4 wx => ∃ q : Nat, q ≤ n ∧ i = .int .i64 (q : Int) ∧ allL f q = true ∧ Below (w.alloc (.cells (ndcells lf (.slice p n cap) nx k c) 78)).heap.size (w.alloc (.cells (ndcells lf (.slice p n cap) nx k c) 78)) wx) (fun i _ _ _ => n - (intOf i).toNat)
      case atStart => exact ⟨0, by omega, rfl, rfl, Below.refl _ _⟩
      case round =>
        obtain ⟨q, hq, rfl, ha, hb⟩ := hrel
        have HB := hid (HBX.out.more hb)
        have D1 := hid (below2 D0.out hb D0.out.size)
        by_cases hlt : q < n
        · obtain ⟨b, o, rfl, R0⟩ := HR0.out.row (by omega)
          have R := R0.more D1.out
          have z0 := R.at0 hlt (v := .int .i64 (f q).id) rfl
          have z1 := R.at1 hlt (v := .int .u32 (f q).x) rfl
          have z2 := R.at2 hlt (v := .int .u32 (f q).y) rfl
          have z3 := R.at3 hlt (v := .string (f q).d) rfl
          have hst : allL f (q + 1) = (allL f q && goodL f q) := rfl
          rw [ha, Bool.true_and] at hst
          have hbad := hid (fun h => allL_bad f (i := q) h n hlt)
          have hok := hid (HF.out q hlt)
          have KC := hid (check_any (f q) (HF.out q hlt))
          have hc := check_may (f q)
          have hgl : goodL f q = (decide (f q).may && (decide (q = 0) || decide ((f (q - 1)).id < (f q).id))) := rfl
          go_wp2_with fail
          generalize hW1 : World.alloc _ (.cells #[.int .i64 (f q).id, .int .u32 (f q).x, .int .u32 (f q).y, .string (f q).d] 168) = W1
          have hbA : Below wr.heap.size wr W1 := by rw [← hW1]; exact (Below.refl _ _).alloc (Nat.le_refl _) _
          have BP : Blk W1 wr.heap.size #[.int .i64 (f q).id, .int .u32 (f q).x, .int .u32 (f q).y, .string (f q).d] := by rw [← hW1]; exact Blk.new _ _ _
          have HB1 := HB.out.more hbA
          have D2 := hid (below2 D1.out hbA D1.out.size)
          have hb2 := hid (below2 hb hbA hb.size)
          have RR := R0.more D2.out
          have q0 := fun u : Later W1 => u.blk BP
          have q1 := fun u : Later W1 => u.blk HB1
          clear hW1 hbA z0 z1 z2 z3 R R0 HB hb
          by_cases hm : (f q).may
          · have hc0 : checkC (f q) = 0 := hc.2 hm
            rw [decide_eq_true hm, Bool.true_and] at hgl
            rw [hc0] at KC
            by_cases hpos : 0 < (q : Int)
            · obtain ⟨j, hj⟩ : ∃ j, q = j + 1 := ⟨q - 1, by omega⟩
              have uq : IntKind.i64.wrap ((q : Int) - 1) = (j : Int) := by rw [IntWalk.i64_in _ (by omega)]; omega
              have hjn : j < n := by omega
              have hp2 : 0 < q := by omega
              rw [decide_eq_false (show ¬ q = 0 by omega), Bool.false_or, show q - 1 = j by omega] at hgl
              have y0 := RR.at0 hjn (v := .int .i64 (f j).id) rfl
              have y1 := RR.at1 hjn (v := .int .u32 (f j).x) rfl
              have y2 := RR.at2 hjn (v := .int .u32 (f j).y) rfl
              have y3 := RR.at3 hjn (v := .string (f j).d) rfl
              have q2 := fun u : Later W1 => (u.cell b (o + j * 4) RR.lt).trans y0
              have q3 := fun u : Later W1 => (u.cell b (o + j * 4 + 1) RR.lt).trans y1
              have q4 := fun u : Later W1 => (u.cell b (o + j * 4 + 2) RR.lt).trans y2
              have q5 := fun u : Later W1 => (u.cell b (o + j * 4 + 3) RR.lt).trans y3
              have KL := hid (less_any (f j) (f q))
              replace hj := hid hj
              rw [hgl] at hst
              replace hgl := hid hgl
              replace hc0 := hid hc0
              replace ha := hid ha
              clear hc hm y0 y1 y2 y3 RR
              cases hlq : decide ((f j).id < (f q).id) with
              | true =>
                rw [hlq] at hst KL
                have hs := hid hst
                clear hst hlq
                refine wp_region_late 17 (by kernel_rfl) (by kernel_rfl) ?_
                simp only [List.take_succ_cons, List.take_zero, List.drop_succ_cons, List.drop_zero]
                repeat (go_big_quiet_step ((first | (go_at_call 99; (with_reducible exact late_call (KC.out _))) | (go_at_call 100; (with_reducible exact late_call (KL.out _))))))
                refine wpQuiet_nil ?_
                intro w7 h7'
                have h7 := late_out h7'
                have hb7 := hid (below2 hb2.out h7 hb2.out.size)
                clear h7' h7 q0 q1 q2 q3 q4 q5
                go_wp2_with fail
                go_roundw
                case rel => exact ⟨q + 1, by omega, by go_num, hs.out, hb7.out⟩
                case measure => simp [intOf]; omega
              | false =>
                rw [hlq] at hgl KL
                have hBf := hid (show B = false by rw [hB.out]; exact hbad.out hgl.out)
                clear hst hlq hgl
                refine wp_region_late 17 (by kernel_rfl) (by kernel_rfl) ?_
                simp only [List.take_succ_cons, List.take_zero, List.drop_succ_cons, List.drop_zero]
                repeat (go_big_quiet_step ((first | (go_at_call 99; (with_reducible exact late_call (KC.out _))) | (go_at_call 100; (with_reducible exact late_call (KL.out _))))))
                refine wpQuiet_nil ?_
                intro w7 h7'
                have h7 := late_out h7'
                have D7 := hid (below2 D2.out h7 D2.out.size)
                clear h7' h7 q0 q1 q2 q3 q4 q5
                go_wp2_with fail
                go_ret
                exact ⟨by rw [hBf.out]; rfl, D7.out⟩
            · have q00 : q = 0 := by omega
              rw [show (decide (q = 0) || decide ((f (q - 1)).id < (f q).id)) = true by simp [q00]] at hgl
              have hs := hid (show allL f (q + 1) = true by rw [hst, hgl])
              have hp' : decide (0 < (q : Int)) = false := decide_eq_false hpos
              have hp2 : decide (0 < q) = false := decide_eq_false (by omega)
              replace q00 := hid q00
              replace hst := hid hst
              replace hgl := hid hgl
              replace hc0 := hid hc0
              replace ha := hid ha
              clear hc hm hpos RR
              refine wp_region_late 17 (by kernel_rfl) (by kernel_rfl) ?_
              simp only [List.take_succ_cons, List.take_zero, List.drop_succ_cons, List.drop_zero]
              repeat (go_big_quiet_step (((go_at_call 99; (with_reducible exact late_call (KC.out _))))))
              refine wpQuiet_nil ?_
              intro w7 h7'
              have h7 := late_out h7'
              have hb7 := hid (below2 hb2.out h7 hb2.out.size)
              clear h7' h7 q0 q1
              go_wp2_with fail
              go_roundw
              case rel => exact ⟨q + 1, by omega, by go_num, hs.out, hb7.out⟩
              case measure => simp [intOf]; omega
          · have hcn : (checkC (f q) != 0) = true := by
              have : checkC (f q) ≠ 0 := fun h => hm (hc.1 h)
              simpa using this
            rw [decide_eq_false hm, Bool.false_and] at hgl
            have hBf := hid (show B = false by rw [hB.out]; exact hbad.out hgl)
            generalize checkC (f q) = C at *
            replace hgl := hid hgl
            replace hst := hid hst
            replace ha := hid ha
            clear hc hm RR
            refine wp_region_late 17 (by kernel_rfl) (by kernel_rfl) ?_
            simp only [List.take_succ_cons, List.take_zero, List.drop_succ_cons, List.drop_zero]
            repeat (go_big_quiet_step (((go_at_call 99; (with_reducible exact late_call (KC.out _))))))
            refine wpQuiet_nil ?_
            intro w7 h7'
            have h7 := late_out h7'
            have D7 := hid (below2 D2.out h7 D2.out.size)
            clear h7' h7 q0 q1
            go_wp2_with fail
            go_ret
            exact ⟨by rw [hBf.out]; rfl, D7.out⟩
        · obtain rfl : q = n := by omega
          have hBt := hid (show B = true by rw [hB.out]; exact ha)
          replace ha := hid ha
          replace hb := hid hb
          go_wp2
          go_ret
          exact ⟨by rw [hBt.out]; rfl, D1.out⟩
end Go.Proofs.Ytcklmemnjchdcaa

/-
  Package node: Check, and a node's octets.
-/

namespace Go.Proofs.Ytcklmemnjchdcaa
open Go.RowKit
set_option linter.unusedVariables false
set_option linter.unusedSimpArgs false

def nodeC (b : Bool) : Int := if b then 0 else 9
set_option maxRecDepth 100000 in
set_option maxHeartbeats 4000000 in
theorem ncheck_any (lf : Bool) (p : Option Addr) (n cap : Nat) (f : Nat → Pt) (hf : ∀ i, i < n → (f i).ok) (nx : Int) (k c : Nat → Int) (h1 : n ≤ cap) (h2 : cap ≤ maxLen) (w : World) (HR : RowP w p 4 n (fun i => pcells (f i))) :
    Calls Try.prog 74 #[ndval lf (.slice p n cap) nx k c] w fun e w' => e = .returned (.int .i64 (nodeC (nodeB lf n f nx k c))) ∧ Below w.heap.size w w' := by
  have hb0 : Below w.heap.size w (w.alloc (.cells (ndcells lf (.slice p n cap) nx k c) 78)) := (Below.refl _ _).alloc (Nat.le_refl _) _
  have BX := Blk.new w (ndcells lf (.slice p n cap) nx k c) 78
  have D0 := hid hb0
  have HBX := hid BX
  have KL := hid (leaf_any lf p n cap f hf nx k c h1 h2 _ (HR.more hb0))
  have KO := hid (other_any lf p n cap nx k c h1 h2 (w.alloc (.cells (ndcells lf (.slice p n cap) nx k c) 78)))
  have hB : nodeB lf n f nx k c = if lf then leafB n f nx k c else otherB n nx k c := rfl
  generalize nodeB lf n f nx k c = B at *
  generalize leafB n f nx k c = BL at *
  generalize otherB n nx k c = BO at *
  unfold maxLen at h2
  clear hb0 BX HR hf
  cases lf with
  | true =>
    obtain rfl : B = BL := hB
    clear KO
    obtain ⟨lx, kx, fx⟩ := HBX.out
    go_enter Try.func74, Try.ntmps74
    go_wp2_with fail
    refine KL.out.mono ?_
    rintro e w1 ⟨rfl, hb⟩
    have D1 := hid (below2 D0.out hb D0.out.size)
    have HB := HBX.out.more hb
    clear lx kx fx hb HBX KL
    obtain ⟨lx, kx, fx⟩ := HB
    cases B
    all_goals
      go_wp2_with fail
      go_ret
      exact ⟨rfl, D1.out⟩
  | false =>
    obtain rfl : B = BO := hB
    clear KL
    obtain ⟨lx, kx, fx⟩ := HBX.out
    go_enter Try.func74, Try.ntmps74
    go_wp2_with fail
    refine KO.out.mono ?_
    rintro e w1 ⟨rfl, hb⟩
    have D1 := hid (below2 D0.out hb D0.out.size)
    clear lx kx fx hb HBX KO
    cases B
    all_goals
      go_wp2_with fail
      go_ret
      exact ⟨rfl, D1.out⟩

/-- An Out that holds l, where all went well, and a block that is none of its own. -/
def WB (w0 : World) (p : Nat) (room : Int) (g : Nat) (cc : Array Value) (w : World) (l : List UInt8) : Prop := ∃ a, OutS w p a room l 0 ∧ Below p w0 w ∧ ¬ Mine p a g ∧ Blk w g cc
theorem WB.new {w0 w : World} {p : Nat} {room : Int} {l : List UInt8} (h : WS w0 p room w l) (cc : Array Value) (t : TypeId) : WB w0 p room w.heap.size cc (w.alloc (.cells cc t)) l := by
  obtain ⟨a, O, hb⟩ := h
  have hba : Below w.heap.size w (w.alloc (.cells cc t)) := (Below.refl _ _).alloc (Nat.le_refl _) _
  refine ⟨a, O.more hba, hb.trans (hba.mono (Nat.le_of_lt O.lt)), fun hk => ?_, Blk.new w cc t⟩
  have := (O.mine hk).2
  omega
theorem WB.ws {w0 w : World} {p g : Nat} {room : Int} {cc : Array Value} {l : List UInt8} (h : WB w0 p room g cc w l) : WS w0 p room w l := by
  obtain ⟨a, O, hb, _⟩ := h; exact ⟨a, O, hb⟩
theorem WB.blk {w0 w : World} {p g : Nat} {room : Int} {cc : Array Value} {l : List UInt8} (h : WB w0 p room g cc w l) : Blk w g cc := by
  obtain ⟨_, _, _, _, B⟩ := h; exact B
theorem wb_num {w0 w : World} {p g : Nat} {room : Int} {cc : Array Value} {l : List UInt8} (h : WB w0 p room g cc w l) (h0 : 0 ≤ room) (h1 : room ≤ 65536) (N size : Int) (m : Nat) (hm : min (max size 1) 6 = m) (n0 : 0 ≤ N) (n1 : N < (256 : Int) ^ m) (hr : (l.length : Int) + m ≤ room) :
    Calls Try.prog 55 #[at' p, .int .i64 N, .int .i64 size] w fun en w' => en = .returned (.tuple #[]) ∧ WB w0 p room g cc w' (l ++ leB N.toNat m) := by
  obtain ⟨a, O, hb, hn, B⟩ := h
  refine (ow_num N size m hm p a room l (l ++ leB N.toNat m) 0 0 w O h0 h1 (by omega) (.inr (.inr (.inl ⟨rfl, by omega, hr, rfl, rfl⟩)))).mono ?_
  rintro en w' ⟨he, a', O', G⟩
  refine ⟨he, a', O', hb.trans (O.below G), ?_, B.sole G.sole hn⟩
  rintro (h | ⟨x, hx, hxb⟩)
  · exact hn (.inl h)
  · rcases G.new with e | ⟨g', e, hg'⟩
    · exact hn (.inr ⟨x, e ▸ hx, hxb⟩)
    · rw [e] at hx
      cases hx
      have := B.lt
      simp only at hxb
      omega

/-- The octets of points, one behind the other. -/
def ptsB (f : Nat → Pt) : Nat → List UInt8
  | 0 => []
  | i + 1 => ptsB f i ++ pointB (f i)
theorem ptsB_length (f : Nat → Pt) : ∀ n, (∀ i, i < n → (f i).d.size ≤ 16) → (ptsB f n).length ≤ 29 * n
  | 0, _ => Nat.le_refl _
  | n + 1, h => by
    have h1 := ptsB_length f n fun i hi => h i (by omega)
    have h2 := h n (by omega)
    simp only [ptsB, List.length_append, pointB_length]
    omega
def numsB (g : Nat → Int) (s : Nat) : Nat → List UInt8
  | 0 => []
  | q + 1 => numsB g s q ++ leB (g q).toNat s
theorem numsB_length (g : Nat → Int) (s : Nat) : ∀ n, (numsB g s n).length = s * n
  | 0 => rfl
  | n + 1 => by simp only [numsB, List.length_append, numsB_length g s n, leB_length]; rw [Nat.mul_succ]
def lheadB (nx : Int) (n : Nat) : List UInt8 := [] ++ leB (1 : Int).toNat 1 ++ leB nx.toNat 1 ++ leB (n : Int).toNat 1
theorem lheadB_length (nx : Int) (n : Nat) : (lheadB nx n).length = 3 := by simp [lheadB, leB_length]
def leafO (nx : Int) (n : Nat) (f : Nat → Pt) : List UInt8 := lheadB nx n ++ ptsB f n
def otherO (k c : Nat → Int) : List UInt8 := [] ++ leB (0 : Int).toNat 1 ++ numsB k 1 4 ++ numsB c 2 4
def nodeO (lf : Bool) (n : Nat) (f : Nat → Pt) (nx : Int) (k c : Nat → Int) : List UInt8 := if lf then leafO nx n f else otherO k c
def nodeL (lf : Bool) (n : Nat) (f : Nat → Pt) (nx : Int) (k c : Nat → Int) : List UInt8 := if nodeB lf n f nx k c then nodeO lf n f nx k c else []
theorem goodL_may {f : Nat → Pt} {i : Nat} (h : goodL f i = true) : (f i).may := by
  unfold goodL at h
  simp only [Bool.and_eq_true, decide_eq_true_eq] at h
  exact h.1
theorem leafB_parts {n : Nat} {f : Nat → Pt} {nx : Int} {k c : Nat → Int} (h : leafB n f nx k c = true) : n ≤ 4 ∧ 0 ≤ nx ∧ nx ≤ 255 ∧ zeroA k = true ∧ zeroA c = true ∧ ∀ i, i < n → goodL f i = true := by
  unfold leafB at h
  simp only [Bool.and_eq_true, decide_eq_true_eq] at h
  exact ⟨h.1, h.2.1, h.2.2.1, h.2.2.2.1, h.2.2.2.2.1, (allL_iff f n).1 h.2.2.2.2.2⟩
theorem otherB_parts {n : Nat} {nx : Int} {k c : Nat → Int} (h : otherB n nx k c = true) : n = 0 ∧ nx = 0 ∧ ∀ i, i < 4 → 0 ≤ k i ∧ k i ≤ 255 ∧ 0 ≤ c i ∧ c i ≤ 65535 ∧ (k i = 0 ↔ c i = 0) := by
  unfold otherB at h
  simp only [Bool.and_eq_true, decide_eq_true_eq] at h
  exact ⟨h.1, h.2.1, fun i hi => (goodQ_iff _ _).1 ((allQ_iff k c 4).1 h.2.2 i hi)⟩

set_option maxRecDepth 100000 in
set_option maxHeartbeats 4000000 in
theorem putLeaf_any (p : Option Addr) (n cap : Nat) (f : Nat → Pt) (hf : ∀ i, i < n → (f i).ok) (nx : Int) (k c : Nat → Int) (h1 : n ≤ cap) (h2 : cap ≤ maxLen) (w0 w : World) (HR : RowP w0 p 4 n (fun i => pcells (f i))) (hB : leafB n f nx k c = true) (hW : WS w0 w0.heap.size 256 w []) :
    Calls Try.prog 75 #[at' w0.heap.size, ndval true (.slice p n cap) nx k c] w fun e w' => e = .returned (.tuple #[]) ∧ WS w0 w0.heap.size 256 w' (leafO nx n f) := by
  obtain ⟨n4, x0, x1, _, _, hg⟩ := leafB_parts hB
  have B0 := WB.new hW (ndcells true (.slice p n cap) nx k c) 78
  have HR0 := hid HR
  have HF := hid hf
  have HG := hid hg
  have hgs : w.heap.size = w.heap.size := rfl
  generalize hP : w0.heap.size = P at *
  have HP := hid hP
  have HX := hid B0.blk
  have K1 := hid (wb_num B0 (by omega) (by omega) 1 1 1 rfl (by omega) (by omega) (by simp))
  unfold maxLen at h2
  clear HR hf hg hB hW hP
  obtain ⟨lx, kx, fx⟩ := HX.out
  go_enter Try.func75, Try.ntmps75
  go_wp2_with fail
  refine K1.out.mono ?_
  rintro e w1 ⟨rfl, B1⟩
  have HX1 := B1.blk
  have K2 := hid (wb_num B1 (by omega) (by omega) nx 1 1 rfl (by omega) (by omega) (by simp [leB_length]))
  clear lx kx fx HX K1 B1 B0
  obtain ⟨lx, kx, fx⟩ := HX1
  go_wp2_with fail
  refine K2.out.mono ?_
  rintro e w2 ⟨rfl, B2⟩
  have HX2 := B2.blk
  have K3 := hid (wb_num B2 (by omega) (by omega) n 1 1 rfl (by omega) (by omega) (by simp [leB_length]))
  clear lx kx fx K2 B2
  obtain ⟨lx, kx, fx⟩ := HX2
  go_wp2_with fail
  refine K3.out.mono ?_
  rintro e w3 ⟨rfl, B3⟩
  have HX3 := B3.blk
  have W3 := B3.ws
  rw [show [] ++ leB (1 : Int).toNat 1 ++ leB nx.toNat 1 ++ leB (n : Int).toNat 1 = lheadB nx n from rfl] at W3
  replace W3 := hid W3
  clear lx kx fx K3 B3
  obtain ⟨lx, kx, fx⟩ := HX3
  go_wp2_with fail
  clear lx kx fx
  go_loopw [20, 5] (fun i z5 wx => ∃ q : Nat, q ≤ n ∧ i = .int .i64 (q : Int) ∧ WS w0 P 256 wx (lheadB nx n ++ ptsB f q)) (fun i _ _ => n - (intOf i).toNat)
  case atStart => exact ⟨0, by omega, rfl, by simpa [ptsB] using W3.out⟩
  case round =>
    obtain ⟨q, hq, rfl, hW⟩ := hrel
    by_cases hlt : q < n
    · have hbw := hW.below
      rw [← HP.out] at hbw
      obtain ⟨b, o, rfl, R0⟩ := HR0.out.row (by omega)
      have R := R0.more hbw
      have z0 := R.at0 hlt (v := .int .i64 (f q).id) rfl
      have z1 := R.at1 hlt (v := .int .u32 (f q).x) rfl
      have z2 := R.at2 hlt (v := .int .u32 (f q).y) rfl
      have z3 := R.at3 hlt (v := .string (f q).d) rfl
      have hl := ptsB_length f q fun i hi => (goodL_may (HG.out i (by omega))).2.2
      have hpl := pointB_length (f q)
      have hm := goodL_may (HG.out q hlt)
      have hms := hm.2.2
      have KP := hid (ws_point (w := wr.alloc (.cells #[.int .i64 (f q).id, .int .u32 (f q).x, .int .u32 (f q).y, .string (f q).d] 168)) (hW.more ((Below.refl _ _).alloc (Nat.le_refl _) _)) (by omega) (by omega) (f q) (HF.out q hlt) hm (by rw [List.length_append, lheadB_length, hpl]; omega))
      clear hbw R R0 hl hpl hm hms
      replace hW := hid hW
      go_wp2_with fail
      refine KP.out.mono ?_
      rintro e w5 ⟨rfl, W5⟩
      rw [List.append_assoc] at W5
      replace W5 := hid W5
      clear KP
      go_wp2_with fail
      go_roundw
      case rel => exact ⟨q + 1, by omega, by go_num, W5.out⟩
      case measure => simp [intOf]; omega
    · obtain rfl : q = n := by omega
      replace hW := hid hW
      go_wp2
      go_end0
      exact ⟨rfl, hW.out⟩
end Go.Proofs.Ytcklmemnjchdcaa

/-
  Package node: another node's octets; Put.
-/


namespace Go.Proofs.Ytcklmemnjchdcaa
open Go.RowKit
set_option linter.unusedVariables false
set_option linter.unusedSimpArgs false

@[go_sem high] theorem index_arr0 (a0 a1 a2 a3 : Int) (w : World) : (Instr.index 76 (.agg #[.int .i64 a0, .int .i64 a1, .int .i64 a2, .int .i64 a3]) (.int .i64 0)).run Try.prog w = .ok (.int .i64 a0) w := by
  first | kernel_rfl | rfl
@[go_sem high] theorem index_arr1 (a0 a1 a2 a3 : Int) (w : World) : (Instr.index 76 (.agg #[.int .i64 a0, .int .i64 a1, .int .i64 a2, .int .i64 a3]) (.int .i64 1)).run Try.prog w = .ok (.int .i64 a1) w := by
  first | kernel_rfl | rfl
@[go_sem high] theorem index_arr2 (a0 a1 a2 a3 : Int) (w : World) : (Instr.index 76 (.agg #[.int .i64 a0, .int .i64 a1, .int .i64 a2, .int .i64 a3]) (.int .i64 2)).run Try.prog w = .ok (.int .i64 a2) w := by
  first | kernel_rfl | rfl
@[go_sem high] theorem index_arr3 (a0 a1 a2 a3 : Int) (w : World) : (Instr.index 76 (.agg #[.int .i64 a0, .int .i64 a1, .int .i64 a2, .int .i64 a3]) (.int .i64 3)).run Try.prog w = .ok (.int .i64 a3) w := by
  first | kernel_rfl | rfl

set_option maxRecDepth 100000 in
set_option maxHeartbeats 8000000 in
theorem putOther_any (v : Value) (nx : Int) (k c : Nat → Int) (w0 w : World) (p : Nat) (hk : ∀ i, i < 4 → 0 ≤ k i ∧ k i ≤ 255 ∧ 0 ≤ c i ∧ c i ≤ 65535) (hW : WS w0 p 256 w []) :
    Calls Try.prog 76 #[at' p, ndval false v nx k c] w fun e w' => e = .returned (.tuple #[]) ∧ WS w0 p 256 w' (otherO k c) := by
  have B0 := WB.new hW (ndcells false v nx k c) 78
  obtain ⟨a0, b0, c0, d0⟩ := hk 0 (by omega)
  obtain ⟨a1, b1, c1, d1⟩ := hk 1 (by omega)
  obtain ⟨a2, b2, c2, d2⟩ := hk 2 (by omega)
  obtain ⟨a3, b3, c3, d3⟩ := hk 3 (by omega)
  have hO : otherO k c = [] ++ leB (0 : Int).toNat 1 ++ (leB (k 0).toNat 1 ++ leB (k 1).toNat 1 ++ leB (k 2).toNat 1 ++ leB (k 3).toNat 1) ++ (leB (c 0).toNat 2 ++ leB (c 1).toNat 2 ++ leB (c 2).toNat 2 ++ leB (c 3).toNat 2) := by
    simp [otherO, numsB]
  generalize otherO k c = OO at *
  replace hO := hid hO
  have HX := hid B0.blk
  have K := hid (wb_num B0 (by omega) (by omega) 0 1 1 rfl (by omega) (by omega) (by simp))
  clear hk hW
  obtain ⟨lx, kx, fx⟩ := HX.out
  go_enter Try.func76, Try.ntmps76
  go_wp2_with fail
  refine K.out.mono ?_
  rintro e w1 ⟨rfl, B1⟩
  have HX1 := B1.blk
  replace B1 := hid B1
  clear lx kx fx HX K B0
  obtain ⟨lx, kx, fx⟩ := HX1
  go_wp2_with fail
  clear lx kx fx
  refine wp_loop_rounds 5 ?_
  rw [rounds_succ]
  have K0 := hid (wb_num B1.out (by omega) (by omega) (k 0) 1 1 rfl (by omega) (by omega) (by simp [leB_length]))
  go_wp2_with fail
  refine K0.out.mono ?_
  rintro e wk0 ⟨rfl, Bk0⟩
  clear K0 B1
  have HXk0 := hid Bk0.blk
  replace Bk0 := hid Bk0
  go_wp2_with fail
  rw [rounds_succ]
  have K1 := hid (wb_num Bk0.out (by omega) (by omega) (k 1) 1 1 rfl (by omega) (by omega) (by simp [leB_length]))
  go_wp2_with fail
  refine K1.out.mono ?_
  rintro e wk1 ⟨rfl, Bk1⟩
  clear K1 Bk0
  have HXk1 := hid Bk1.blk
  replace Bk1 := hid Bk1
  go_wp2_with fail
  rw [rounds_succ]
  have K2 := hid (wb_num Bk1.out (by omega) (by omega) (k 2) 1 1 rfl (by omega) (by omega) (by simp [leB_length]))
  go_wp2_with fail
  refine K2.out.mono ?_
  rintro e wk2 ⟨rfl, Bk2⟩
  clear K2 Bk1
  have HXk2 := hid Bk2.blk
  replace Bk2 := hid Bk2
  go_wp2_with fail
  rw [rounds_succ]
  have K3 := hid (wb_num Bk2.out (by omega) (by omega) (k 3) 1 1 rfl (by omega) (by omega) (by simp [leB_length]))
  go_wp2_with fail
  refine K3.out.mono ?_
  rintro e wk3 ⟨rfl, Bk3⟩
  clear K3 Bk2
  have HXk3 := hid Bk3.blk
  replace Bk3 := hid Bk3
  go_wp2_with fail
  rw [rounds_succ]
  obtain ⟨lx, kx, fx⟩ := HXk3.out
  go_wp2_with fail
  clear lx kx fx HXk3
  have Wk := hid Bk3.out.ws
  clear Bk3
  refine wp_loop_rounds 5 ?_
  rw [rounds_succ]
  have L0 := hid (ws_num Wk.out (by omega) (by omega) (c 0) 2 2 rfl (by omega) (by omega) (by simp [leB_length]))
  go_wp2_with fail
  refine L0.out.mono ?_
  rintro e wc0 ⟨rfl, Wc0⟩
  clear L0 Wk
  replace Wc0 := hid Wc0
  go_wp2_with fail
  rw [rounds_succ]
  have L1 := hid (ws_num Wc0.out (by omega) (by omega) (c 1) 2 2 rfl (by omega) (by omega) (by simp [leB_length]))
  go_wp2_with fail
  refine L1.out.mono ?_
  rintro e wc1 ⟨rfl, Wc1⟩
  clear L1 Wc0
  replace Wc1 := hid Wc1
  go_wp2_with fail
  rw [rounds_succ]
  have L2 := hid (ws_num Wc1.out (by omega) (by omega) (c 2) 2 2 rfl (by omega) (by omega) (by simp [leB_length]))
  go_wp2_with fail
  refine L2.out.mono ?_
  rintro e wc2 ⟨rfl, Wc2⟩
  clear L2 Wc1
  replace Wc2 := hid Wc2
  go_wp2_with fail
  rw [rounds_succ]
  have L3 := hid (ws_num Wc2.out (by omega) (by omega) (c 3) 2 2 rfl (by omega) (by omega) (by simp [leB_length]))
  go_wp2_with fail
  refine L3.out.mono ?_
  rintro e wc3 ⟨rfl, Wc3⟩
  clear L3 Wc2
  replace Wc3 := hid Wc3
  go_wp2_with fail
  rw [rounds_succ]
  go_wp2
  go_end0
  exact ⟨rfl, by rw [hO.out]; simpa using Wc3.out⟩

set_option maxRecDepth 100000 in
set_option maxHeartbeats 8000000 in
theorem nput_any (lf : Bool) (p : Option Addr) (n cap : Nat) (f : Nat → Pt) (hf : ∀ i, i < n → (f i).ok) (nx : Int) (k c : Nat → Int) (h1 : n ≤ cap) (h2 : cap ≤ maxLen) (w : World) (HR : RowP w p 4 n (fun i => pcells (f i))) :
    Calls Try.prog 59 #[ndval lf (.slice p n cap) nx k c] w fun e w' => ∃ v, e = .returned (.tuple #[v, .int .i64 (nodeC (nodeB lf n f nx k c))]) ∧ Fresh w w' v (nodeL lf n f nx k c) := by
  have hb0 : Below w.heap.size w (w.alloc (.cells (ndcells lf (.slice p n cap) nx k c) 78)) := (Below.refl _ _).alloc (Nat.le_refl _) _
  have BX := Blk.new w (ndcells lf (.slice p n cap) nx k c) 78
  have D0 := hid hb0
  have HBX := hid BX
  have KC := hid (ncheck_any lf p n cap f hf nx k c h1 h2 _ (HR.more hb0))
  have hL : nodeL lf n f nx k c = if nodeB lf n f nx k c then nodeO lf n f nx k c else [] := rfl
  have HR0 := hid HR
  clear hb0 BX HR
  cases hB : nodeB lf n f nx k c with
  | false =>
    rw [hB] at hL KC
    have hL2 := hid (show nodeL lf n f nx k c = [] from hL)
    clear hL
    generalize nodeL lf n f nx k c = SL at *
    replace hB := hid hB
    unfold maxLen at h2
    obtain ⟨lx, kx, fx⟩ := HBX.out
    go_enter Try.func59, Try.ntmps59
    go_wp2_with fail
    refine KC.out.mono ?_
    rintro e w1 ⟨rfl, hb⟩
    have D1 := hid (below2 D0.out hb D0.out.size)
    rw [show nodeC false = 9 from rfl]
    clear lx kx fx hb
    go_wp2_with fail
    go_ret2
    exact ⟨_, rfl, none, 0, by rw [hL2.out]; rfl, by rw [hL2.out]; exact World.ownsRow_nil _ _ _ _, D1.out⟩
  | true =>
    rw [hB] at hL KC
    have hL2 := show nodeL lf n f nx k c = nodeO lf n f nx k c from hL
    clear hL
    have KN := fun wx (hb : Below w.heap.size w wx) => ws_new 256 256 (by decide) wx
    obtain ⟨lx, kx, fx⟩ := HBX.out
    have KP : ∀ w0 wx, Below w.heap.size w w0 → WS w0 w0.heap.size 256 wx [] → Calls Try.prog (if lf then 75 else 76) #[at' w0.heap.size, ndval lf (.slice p n cap) nx k c] wx fun e w' => e = .returned (.tuple #[]) ∧ WS w0 w0.heap.size 256 w' (nodeL lf n f nx k c) := by
      intro w0 wx hb hW
      rw [hL2]
      cases lf with
      | true => exact putLeaf_any p n cap f hf nx k c h1 h2 w0 wx (HR0.out.more hb) hB hW
      | false => exact putOther_any _ nx k c w0 wx _ (fun i hi => by obtain ⟨_, _, q⟩ := otherB_parts hB; have := q i hi; omega) hW
    have hlen : (nodeL lf n f nx k c).length ≤ 119 := by
      rw [hL2]
      cases lf with
      | true =>
        obtain ⟨n4, _, _, _, _, hg⟩ := leafB_parts hB
        have := ptsB_length f n fun i hi => (goodL_may (hg i hi)).2.2
        show (lheadB nx n ++ ptsB f n).length ≤ 119
        rw [List.length_append, lheadB_length]
        omega
      | false => show (otherO k c).length ≤ 119; simp [otherO, numsB_length, leB_length]
    generalize nodeL lf n f nx k c = SL at *
    replace hB := hid hB
    replace KP := hid KP
    replace hL2 := hid hL2
    unfold maxLen at h2
    cases lf with
    | true =>
      go_enter Try.func59, Try.ntmps59
      go_wp2_with fail
      refine KC.out.mono ?_
      rintro e w1 ⟨rfl, hb⟩
      have D1 := hid (below2 D0.out hb D0.out.size)
      have HB1 := HBX.out.more hb
      rw [show nodeC true = 0 from rfl]
      replace KN := hid (KN w1 D1.out)
      replace KP := hid (fun wx hW => KP.out w1 wx D1.out hW)
      clear lx kx fx hb
      obtain ⟨lx, kx, fx⟩ := HB1
      go_wp2_with fail
      refine KN.out.mono ?_
      rintro e w2 ⟨rfl, W2⟩
      have hx2 : Blk w2 w.heap.size (ndcells true (.slice p n cap) nx k c) := by
        have h3 : Blk w1 w.heap.size (ndcells true (.slice p n cap) nx k c) := ⟨lx, kx, fx⟩
        exact h3.more W2.below
      replace W2 := hid W2
      clear lx kx fx KN
      obtain ⟨lx, kx, fx⟩ := hx2
      go_wp2_with fail
      refine (KP.out _ W2.out).mono ?_
      rintro e w3 ⟨rfl, W3⟩
      have KD := hid (ws_done W3 (by omega))
      clear lx kx fx W2 KP
      go_wp2_with fail
      refine KD.out.mono ?_
      rintro e w4 ⟨v, rfl, ⟨a, cp, rfl, own, hb4⟩, W4⟩
      have hb5 := W4.below
      have FF := hid (own_base own (by have := D1.out.size; have := W3.below.size; omega : w.heap.size ≤ w3.heap.size))
      have D5 := hid (below2 D1.out hb5 D1.out.size)
      clear own hb4 hb5 W4 W3 KD
      go_wp2_with fail
      go_ret2
      exact ⟨_, rfl, a, cp, rfl, FF.out, D5.out⟩
    | false =>
      go_enter Try.func59, Try.ntmps59
      go_wp2_with fail
      refine KC.out.mono ?_
      rintro e w1 ⟨rfl, hb⟩
      have D1 := hid (below2 D0.out hb D0.out.size)
      have HB1 := HBX.out.more hb
      rw [show nodeC true = 0 from rfl]
      replace KN := hid (KN w1 D1.out)
      replace KP := hid (fun wx hW => KP.out w1 wx D1.out hW)
      clear lx kx fx hb
      obtain ⟨lx, kx, fx⟩ := HB1
      go_wp2_with fail
      refine KN.out.mono ?_
      rintro e w2 ⟨rfl, W2⟩
      have hx2 : Blk w2 w.heap.size (ndcells false (.slice p n cap) nx k c) := by
        have h3 : Blk w1 w.heap.size (ndcells false (.slice p n cap) nx k c) := ⟨lx, kx, fx⟩
        exact h3.more W2.below
      replace W2 := hid W2
      clear lx kx fx KN
      obtain ⟨lx, kx, fx⟩ := hx2
      go_wp2_with fail
      refine (KP.out _ W2.out).mono ?_
      rintro e w3 ⟨rfl, W3⟩
      have KD := hid (ws_done W3 (by omega))
      clear lx kx fx W2 KP
      go_wp2_with fail
      refine KD.out.mono ?_
      rintro e w4 ⟨v, rfl, ⟨a, cp, rfl, own, hb4⟩, W4⟩
      have hb5 := W4.below
      have FF := hid (own_base own (by have := D1.out.size; have := W3.below.size; omega : w.heap.size ≤ w3.heap.size))
      have D5 := hid (below2 D1.out hb5 D1.out.size)
      clear own hb4 hb5 W4 W3 KD
      go_wp2_with fail
      go_ret2
      exact ⟨_, rfl, a, cp, rfl, FF.out, D5.out⟩

end Go.Proofs.Ytcklmemnjchdcaa

/-
  Nodes of octets: what is read.
-/



namespace Go.Proofs.Ytcklmemnjchdcaa
open Go.RowKit
set_option linter.unusedVariables false
set_option linter.unusedSimpArgs false

/-- Points, one behind the other: the first so many, and what is left. -/
def rdK (l : List UInt8) : Nat → Option (List Pt × List UInt8)
  | 0 => some ([], l)
  | i + 1 => match rdK l i with
    | none => none
    | some (L, r) => if 13 + lenAt r ≤ r.length ∧ (pointOf r).may then some (L ++ [pointOf r], r.drop (13 + lenAt r)) else none
theorem rdK_none (l : List UInt8) {i : Nat} (h : rdK l i = none) : ∀ n, i ≤ n → rdK l n = none
  | 0, hi => by obtain rfl : i = 0 := by omega
                exact h
  | n + 1, hi => by
    by_cases e : i = n + 1
    · rw [← e]; exact h
    · simp only [rdK, rdK_none l h n (by omega)]
theorem rdK_step {l r : List UInt8} {i : Nat} {L : List Pt} (h : rdK l i = some (L, r)) (hl : 13 + lenAt r ≤ r.length) (hm : (pointOf r).may) : rdK l (i + 1) = some (L ++ [pointOf r], r.drop (13 + lenAt r)) := by
  simp only [rdK, h]
  rw [if_pos ⟨hl, hm⟩]
theorem rdK_stop {l r : List UInt8} {i : Nat} {L : List Pt} (h : rdK l i = some (L, r)) (hn : ¬ (13 + lenAt r ≤ r.length ∧ (pointOf r).may)) : rdK l (i + 1) = none := by
  simp only [rdK, h]
  rw [if_neg hn]
theorem numOf_bytes (l : List UInt8) : ∀ n, l.length = n → leB (numOf l) n = l := by
  intro n h; subst h; exact leB_numOf l
/-- What is read of octets as a point has these octets. -/
theorem pointB_of (r : List UInt8) (hl : 13 + lenAt r ≤ r.length) (hm : (pointOf r).may) : pointB (pointOf r) ++ r.drop (13 + lenAt r) = r := by
  have e1 : leB (pointOf r).id.toNat 4 = r.take 4 := numOf_bytes _ 4 (by rw [List.length_take]; omega)
  have e2 : leB (pointOf r).x.toNat 4 = (r.drop 4).take 4 := numOf_bytes _ 4 (by rw [List.length_take, List.length_drop]; omega)
  have e3 : leB (pointOf r).y.toNat 4 = (r.drop 8).take 4 := numOf_bytes _ 4 (by rw [List.length_take, List.length_drop]; omega)
  have hd : (pointOf r).d.data.toList = (r.drop 13).take (lenAt r) := rfl
  have hs : (pointOf r).d.size = lenAt r := by
    have : (pointOf r).d.size = (pointOf r).d.data.toList.length := (size_list _).symm
    rw [this, hd, List.length_take, List.length_drop]; omega
  have e4 : leB (pointOf r).d.size 1 = (r.drop 12).take 1 := by rw [hs]; exact numOf_bytes _ 1 (by rw [List.length_take, List.length_drop]; omega)
  unfold pointB
  rw [e1, e2, e3, e4, hd]
  have t : ∀ (a b : Nat), (r.drop a).take b ++ r.drop (a + b) = r.drop a := fun a b => by
    rw [← List.drop_drop]; exact List.take_append_drop b (r.drop a)
  rw [List.append_assoc, List.append_assoc, List.append_assoc, List.append_assoc, t 13 (lenAt r), t 12 1, t 8 4, t 4 4, List.take_append_drop]
theorem ptsB_congr (f g : Nat → Pt) : ∀ n, (∀ i, i < n → f i = g i) → ptsB f n = ptsB g n
  | 0, _ => rfl
  | n + 1, h => by simp only [ptsB]; rw [ptsB_congr f g n fun i hi => h i (by omega), h n (by omega)]
theorem ptAt_more (L : List Pt) (P : Pt) (i : Nat) (h : i < L.length) : ptAt (L ++ [P]) i = ptAt L i := by
  unfold ptAt; rw [List.getElem?_append_left h]
theorem ptAt_last (L : List Pt) (P : Pt) : ptAt (L ++ [P]) L.length = P := by
  unfold ptAt; rw [List.getElem?_append_right (Nat.le_refl _)]; simp
/-- What was read stands there. -/
theorem rdK_back (l : List UInt8) : ∀ (i : Nat) (L : List Pt) (r : List UInt8), rdK l i = some (L, r) → L.length = i ∧ l = ptsB (ptAt L) i ++ r ∧ ∀ j, j < i → (ptAt L j).ok ∧ (ptAt L j).may
  | 0, L, r, h => by
    simp only [rdK, Option.some.injEq, Prod.mk.injEq] at h
    obtain ⟨rfl, rfl⟩ := h
    exact ⟨rfl, rfl, fun j hj => absurd hj (Nat.not_lt_zero _)⟩
  | i + 1, L, r, h => by
    cases hk : rdK l i with
    | none => simp only [rdK, hk] at h; cases h
    | some x =>
      obtain ⟨L0, r0⟩ := x
      by_cases hg : 13 + lenAt r0 ≤ r0.length ∧ (pointOf r0).may
      · rw [rdK_step hk hg.1 hg.2, Option.some.injEq, Prod.mk.injEq] at h
        obtain ⟨rfl, rfl⟩ := h
        obtain ⟨h1, h2, h3⟩ := rdK_back l i L0 r0 hk
        have hok := pointOf_ok r0 (by have := hg.2.2.2; unfold maxLen; omega)
        refine ⟨by rw [List.length_append, h1]; rfl, ?_, fun j hj => ?_⟩
        · simp only [ptsB]
          rw [ptsB_congr (ptAt (L0 ++ [pointOf r0])) (ptAt L0) i fun j hj => ptAt_more _ _ _ (by omega)]
          rw [← h1, ptAt_last, List.append_assoc, pointB_of r0 hg.1 hg.2, h1]
          exact h2
        · by_cases e : j = i
          · rw [e, ← h1, ptAt_last]; exact ⟨hok, hg.2⟩
          · rw [ptAt_more _ _ _ (by omega)]; exact h3 j (by omega)
      · rw [rdK_stop hk hg] at h; cases h
def ptsF (f : Nat → Pt) (i : Nat) : Nat → List UInt8
  | 0 => []
  | c + 1 => pointB (f i) ++ ptsF f (i + 1) c
theorem ptsF_snoc (f : Nat → Pt) : ∀ (c i : Nat), ptsF f i (c + 1) = ptsF f i c ++ pointB (f (i + c))
  | 0, i => by simp [ptsF]
  | c + 1, i => by
    rw [show ptsF f i (c + 1 + 1) = pointB (f i) ++ ptsF f (i + 1) (c + 1) from rfl, ptsF_snoc f c (i + 1), show ptsF f i (c + 1) = pointB (f i) ++ ptsF f (i + 1) c from rfl, List.append_assoc, show i + 1 + c = i + (c + 1) by omega]
theorem ptsF_eq (f : Nat → Pt) : ∀ n, ptsF f 0 n = ptsB f n
  | 0 => rfl
  | n + 1 => by rw [ptsF_snoc, ptsF_eq f n, Nat.zero_add]; rfl
theorem pt_back (P : Pt) (hP : P.ok) (hm : P.may) (m : List UInt8) : pointOf (pointB P ++ m) = P ∧ lenAt (pointB P ++ m) = P.d.size := by
  obtain ⟨i1, i2, x1, x2, y1, y2, _⟩ := hP
  obtain ⟨m1, m2, m3⟩ := hm
  have e : pointB P ++ m = leB P.id.toNat 4 ++ (leB P.x.toNat 4 ++ (leB P.y.toNat 4 ++ (leB P.d.size 1 ++ (P.d.data.toList ++ m)))) := by simp [pointB, List.append_assoc]
  have l1 := leB_length 4 P.id.toNat
  have l2 := leB_length 4 P.x.toNat
  have l3 := leB_length 4 P.y.toNat
  have l4 := leB_length 1 P.d.size
  have t1 : (pointB P ++ m).take 4 = leB P.id.toNat 4 := by rw [e, List.take_append_of_le_length (by omega), List.take_of_length_le (by omega)]
  have d1 : (pointB P ++ m).drop 4 = leB P.x.toNat 4 ++ (leB P.y.toNat 4 ++ (leB P.d.size 1 ++ (P.d.data.toList ++ m))) := by rw [e, List.drop_append_of_le_length (by omega), List.drop_of_length_le (by omega), List.nil_append]
  have d2 : (pointB P ++ m).drop 8 = leB P.y.toNat 4 ++ (leB P.d.size 1 ++ (P.d.data.toList ++ m)) := by
    rw [show 8 = 4 + 4 from rfl, ← List.drop_drop, d1, List.drop_append_of_le_length (by omega), List.drop_of_length_le (by omega), List.nil_append]
  have d3 : (pointB P ++ m).drop 12 = leB P.d.size 1 ++ (P.d.data.toList ++ m) := by
    rw [show 12 = 8 + 4 from rfl, ← List.drop_drop, d2, List.drop_append_of_le_length (by omega), List.drop_of_length_le (by omega), List.nil_append]
  have d4 : (pointB P ++ m).drop 13 = P.d.data.toList ++ m := by
    rw [show 13 = 12 + 1 from rfl, ← List.drop_drop, d3, List.drop_append_of_le_length (by omega), List.drop_of_length_le (by omega), List.nil_append]
  have n4 : numOf (((pointB P ++ m).drop 12).take 1) = P.d.size := by
    rw [d3, List.take_append_of_le_length (by omega), List.take_of_length_le (by omega), numOf_leB]
    exact Nat.mod_eq_of_lt (by omega)
  refine ⟨?_, n4⟩
  have n1 : (numOf ((pointB P ++ m).take 4) : Int) = P.id := by
    rw [t1, numOf_leB, Nat.mod_eq_of_lt (by omega)]; omega
  have n2 : (numOf (((pointB P ++ m).drop 4).take 4) : Int) = P.x := by
    rw [d1, List.take_append_of_le_length (by omega), List.take_of_length_le (by omega), numOf_leB, Nat.mod_eq_of_lt (by omega)]; omega
  have n3 : (numOf (((pointB P ++ m).drop 8).take 4) : Int) = P.y := by
    rw [d2, List.take_append_of_le_length (by omega), List.take_of_length_le (by omega), numOf_leB, Nat.mod_eq_of_lt (by omega)]; omega
  have n5 : textOf (((pointB P ++ m).drop 13).take (numOf (((pointB P ++ m).drop 12).take 1))) = P.d := by
    have sl := size_list P.d
    rw [n4, d4, List.take_append_of_le_length (by omega), List.take_of_length_le (by omega)]
  unfold pointOf
  rw [n1, n2, n3, n5]

/-- Points that may be, one behind the other, are read back. -/
theorem rdK_pts (f : Nat → Pt) (n : Nat) (m : List UInt8) (hf : ∀ i, i < n → (f i).ok ∧ (f i).may) : ∀ i, i ≤ n → ∃ L, rdK (ptsB f n ++ m) i = some (L, ptsF f i (n - i) ++ m) ∧ L.length = i ∧ ∀ j, j < i → ptAt L j = f j
  | 0, _ => ⟨[], by rw [Nat.sub_zero, ptsF_eq]; rfl, rfl, fun j hj => absurd hj (Nat.not_lt_zero _)⟩
  | i + 1, hi => by
    obtain ⟨L, h1, h2, h3⟩ := rdK_pts f n m hf i (by omega)
    obtain ⟨ho, hm⟩ := hf i (by omega)
    have e : ptsF f i (n - i) ++ m = pointB (f i) ++ (ptsF f (i + 1) (n - (i + 1)) ++ m) := by
      rw [show n - i = (n - (i + 1)) + 1 by omega]
      simp [ptsF, List.append_assoc]
    obtain ⟨b1, b2⟩ := pt_back (f i) ho hm (ptsF f (i + 1) (n - (i + 1)) ++ m)
    have hl := pointB_length (f i)
    rw [e] at h1
    refine ⟨L ++ [f i], ?_, by rw [List.length_append, h2]; rfl, fun j hj => ?_⟩
    · have := rdK_step h1 (by rw [b2, List.length_append]; omega) (by rw [b1]; exact hm)
      rw [b1, b2, ← hl, List.drop_append_of_le_length (Nat.le_refl _), List.drop_of_length_le (Nat.le_refl _), List.nil_append] at this
      exact this
    · by_cases ej : j = i
      · rw [ej, ← h2, ptAt_last]
      · rw [ptAt_more _ _ _ (by omega)]; exact h3 j (by omega)
theorem rdK_all (f : Nat → Pt) (n : Nat) (hf : ∀ i, i < n → (f i).ok ∧ (f i).may) : ∃ L, rdK (ptsB f n) n = some (L, []) ∧ L.length = n ∧ ∀ j, j < n → ptAt L j = f j := by
  obtain ⟨L, h1, h2, h3⟩ := rdK_pts f n [] hf n (Nat.le_refl _)
  rw [Nat.sub_self, List.append_nil] at h1
  exact ⟨L, h1, h2, h3⟩
abbrev zf : Nat → Int := fun _ => 0
/-- The points of a leaf's octets, if they are those of one. -/
def leafR (l : List UInt8) : Option (List Pt) :=
  if 3 ≤ l.length ∧ byteAt l 0 = 1 then
    match rdK (l.drop 3) (byteAt l 2) with
    | some (L, []) => if leafB L.length (ptAt L) (byteAt l 1) zf zf then some L else none
    | _ => none
  else none
def kidsR (l : List UInt8) (q : Nat) : Int := byteAt l (1 + q)
def cntsR (l : List UInt8) (q : Nat) : Int := numOf ((l.drop (5 + 2 * q)).take 2)
/-- Are they those of another node? -/
def otherR (l : List UInt8) : Bool := decide (l.length = 13) && (decide (byteAt l 0 = 0) && otherB 0 0 (kidsR l) (cntsR l))
theorem leafR_some {l : List UInt8} {L : List Pt} (h : leafR l = some L) : 3 ≤ l.length ∧ byteAt l 0 = 1 ∧ rdK (l.drop 3) (byteAt l 2) = some (L, []) ∧ leafB L.length (ptAt L) (byteAt l 1) zf zf = true := by
  unfold leafR at h
  split at h
  · rename_i h0
    split at h
    · rename_i L' hk
      split at h
      · rename_i hb
        cases h
        exact ⟨h0.1, h0.2, hk, hb⟩
      · cases h
    · cases h
  · cases h
theorem leafR_ok {l : List UInt8} {L : List Pt} (h1 : 3 ≤ l.length) (h2 : byteAt l 0 = 1) (h3 : rdK (l.drop 3) (byteAt l 2) = some (L, [])) (h4 : leafB L.length (ptAt L) (byteAt l 1) zf zf = true) : leafR l = some L := by
  unfold leafR
  rw [if_pos ⟨h1, h2⟩, h3]
  simp only [h4, if_true]
theorem leafR_bad {l : List UInt8} (h : ∀ L, 3 ≤ l.length → byteAt l 0 = 1 → rdK (l.drop 3) (byteAt l 2) = some (L, []) → leafB L.length (ptAt L) (byteAt l 1) zf zf = true → False) : leafR l = none := by
  cases hk : leafR l with
  | none => rfl
  | some L => obtain ⟨q1, q2, q3, q4⟩ := leafR_some hk; exact absurd q4 (fun q4 => h L q1 q2 q3 q4)
end Go.Proofs.Ytcklmemnjchdcaa

/-
  Package node: a leaf of octets.
-/

namespace Go.Proofs.Ytcklmemnjchdcaa
open Go.RowKit
set_option linter.unusedVariables false
set_option linter.unusedSimpArgs false

theorem node_four {w : World} {v0 v1 v2 v3 : Value} {t : TypeId} : ∀ j u, [v0, v1, v2, v3][j]? = some u → (w.alloc (.cells #[v0, v1, v2, v3] t)).cell? (Addr.add ⟨w.heap.size, 0, none⟩ j) = some u := by
  intro j u hj
  match j, hj with
  | 0, hj => simp at hj; subst hj; simp [Addr.add]
  | 1, hj => simp at hj; subst hj; simp [Addr.add]
  | 2, hj => simp at hj; subst hj; simp [Addr.add]
  | 3, hj => simp at hj; subst hj; simp [Addr.add]
/-- A node that is, or would be, a leaf. -/
abbrev lfcells (lf : Bool) (v : Value) (nx : Int) : Array Value := #[.bool lf, v, .int .i64 nx, .int .i64 0, .int .i64 0, .int .i64 0, .int .i64 0, .int .i64 0, .int .i64 0, .int .i64 0, .int .i64 0]
abbrev lfval (lf : Bool) (v : Value) (nx : Int) : Value := .agg #[.bool lf, v, .int .i64 nx, .int .i64 0, .int .i64 0, .int .i64 0, .int .i64 0, .int .i64 0, .int .i64 0, .int .i64 0, .int .i64 0]
def LeafPost (q : Nat) (l : List UInt8) (bad : Bool) (w : World) (e : Ending) (w' : World) : Prop :=
  ∃ v L nx ok rest bad', e = .returned (.tuple #[lfval ok v nx, .bool ok]) ∧ RS w' q rest bad' ∧ PtsOwn w' w.heap.size v L ∧ Sole (fun k => k = q) w w' ∧
    ((ok = true ∧ bad' = true ∧ (bad = true ∨ l.length < 2)) ∨
      (ok = true ∧ bad' = false ∧ bad = false ∧ 2 ≤ l.length ∧ nx = byteAt l 0 ∧ rdK (l.drop 2) (byteAt l 1) = some (L, rest)) ∨
      (ok = false ∧ nx = 0 ∧ v = .slice none 0 0 ∧ bad = false ∧ 2 ≤ l.length ∧ rdK (l.drop 2) (byteAt l 1) = none))
theorem leaf_states (l : List UInt8) (bad : Bool) : ∃ (b1 b2 : Bool) (r1 r2 : List UInt8) (x1 x2 : Nat),
    (b1 = (bad || decide (l.length < 1)) ∧ r1 = (if b1 then [] else l.drop 1) ∧ x1 = numOf (if b1 then [] else l.take 1)) ∧
    (b2 = (b1 || decide (r1.length < 1)) ∧ r2 = (if b2 then [] else r1.drop 1) ∧ x2 = numOf (if b2 then [] else r1.take 1)) ∧ x1 < 256 ∧ x2 < 256 ∧
    ((b2 = true ∧ x2 = 0 ∧ (bad = true ∨ l.length < 2)) ∨ (b2 = false ∧ bad = false ∧ 2 ≤ l.length ∧ x1 = byteAt l 0 ∧ x2 = byteAt l 1 ∧ r2 = l.drop 2)) := by
  have bd : ∀ (b : Bool) (m : List UInt8), numOf (if b then [] else m.take 1) < 256 := by
    intro b m
    cases b with
    | true => simp [numOf]
    | false =>
      have := numOf_lt (m.take 1)
      have hp : (256 : Nat) ^ (m.take 1).length ≤ 256 ^ 1 := Nat.pow_le_pow_right (by omega) (by rw [List.length_take]; omega)
      simp only [Bool.false_eq_true, if_false]
      omega
  refine ⟨_, _, _, _, _, _, ⟨rfl, rfl, rfl⟩, ⟨rfl, rfl, rfl⟩, bd _ _, bd _ _, ?_⟩
  cases bad with
  | true => exact .inl ⟨by simp, by simp [numOf], .inl rfl⟩
  | false =>
    match l with
    | [] => exact .inl ⟨by simp, by simp [numOf], .inr (by simp)⟩
    | [x] => exact .inl ⟨by simp, by simp [numOf], .inr (by simp)⟩
    | x :: y :: m => exact .inr ⟨by simp, rfl, by simp, by simp [numOf, byteAt], by simp [numOf, byteAt], by simp⟩

set_option maxRecDepth 100000 in
set_option maxHeartbeats 16000000 in
theorem readLeaf_any (q : Nat) (l : List UInt8) (bad : Bool) (w : World) (R : RS w q l bad) :
    Calls Try.prog 94 #[at' q] w (LeafPost q l bad w) := by
  obtain ⟨i0, hi, hz0, hz1, hz2⟩ := info_parts ptTab
  obtain ⟨b1, b2, r1, r2, x1, x2, ⟨e1, e2, e3⟩, ⟨e4, e5, e6⟩, x1b, x2b, fin⟩ := leaf_states l bad
  have KK1 := fun w R => rs_num 1 1 rfl q l bad b1 e1 w R
  have KK2 := fun w R => rs_num 1 1 rfl q r1 b1 b2 e4 w R
  simp only [← e2, ← e3] at KK1
  simp only [← e5, ← e6] at KK2
  obtain ⟨W0, hW0⟩ : ∃ W0, w.alloc (.cells (lfcells false (.slice none 0 0) 0) 78) = W0 := ⟨_, rfl⟩
  have hb0 : Below w.heap.size w W0 := by rw [← hW0]; exact (Below.refl _ _).alloc (Nat.le_refl _) _
  have BZ : Blk W0 w.heap.size (lfcells false (.slice none 0 0) 0) := by rw [← hW0]; exact Blk.new w _ _
  have hqw := R.1.lt
  have K1 := hid (KK1 W0 (R.more hb0))
  have S0 := hid (Sole.made (S := fun k => k = q) hb0)
  have HBZ := hid BZ
  have EB : Hid (∀ w' v L nx rest, b2 = true → RS w' q rest b2 → PtsOwn w' w.heap.size v L → Sole (fun k => k = q) w w' → LeafPost q l bad w (.returned (.tuple #[lfval true v nx, .bool true])) w') := hid (fun w' v L nx rest h R' O' S' => by
    rcases fin with ⟨f1, f2, f3⟩ | ⟨f1, _⟩
    · exact ⟨v, L, nx, true, rest, b2, rfl, R', O', S', .inl ⟨rfl, h, f3⟩⟩
    · rw [f1] at h; cases h)
  have EG : Hid (∀ w' v L rest, b2 = false → RS w' q rest b2 → PtsOwn w' w.heap.size v L → Sole (fun k => k = q) w w' → rdK r2 x2 = some (L, rest) → LeafPost q l bad w (.returned (.tuple #[lfval true v x1, .bool true])) w') := hid (fun w' v L rest h R' O' S' hk => by
    rcases fin with ⟨f1, _⟩ | ⟨f1, f2, f3, f4, f5, f6⟩
    · rw [f1] at h; cases h
    · exact ⟨v, L, x1, true, rest, b2, rfl, R', O', S', .inr (.inl ⟨rfl, h, f2, f3, by rw [f4], by rw [← f5, ← f6]; exact hk⟩)⟩)
  have EN : Hid (∀ w' rest bad', b2 = false → RS w' q rest bad' → Sole (fun k => k = q) w w' → rdK r2 x2 = none → LeafPost q l bad w (.returned (.tuple #[lfval false (.slice none 0 0) 0, .bool false])) w') := hid (fun w' rest bad' h R' S' hk => by
    rcases fin with ⟨f1, _⟩ | ⟨f1, f2, f3, f4, f5, f6⟩
    · rw [f1] at h; cases h
    · exact ⟨.slice none 0 0, [], 0, false, rest, bad', rfl, R', PtsOwn.nil _ _, S', .inr (.inr ⟨rfl, rfl, rfl, f2, f3, by rw [← f5, ← f6]; exact hk⟩)⟩)
  have hx2 : Hid (b2 = true → x2 = 0) := hid (fun h => by
    rcases fin with ⟨_, f2, _⟩ | ⟨f1, _⟩
    · exact f2
    · rw [f1] at h; cases h)
  replace KK2 := hid KK2
  clear e1 e2 e3 e4 e5 e6 fin KK1 BZ hb0 R
  obtain ⟨lz, kz, fz⟩ := HBZ.out
  go_enter Try.func94, Try.ntmps94
  go_wp2_with fail
  refine K1.out.mono ?_
  rintro e w1 ⟨rfl, R1, S1⟩
  have hs0 : w.heap.size < W0.heap.size := HBZ.out.lt
  have HZ1 := hid (HBZ.out.sole S1 (fun h => by have h' : w.heap.size = q := h; omega))
  have S2 := S0.out.trans S1
  have hbA : Below w1.heap.size w1 (w1.alloc (.cells (lfcells true (.slice none 0 0) x1) 78)) := (Below.refl _ _).alloc (Nat.le_refl _) _
  have BN := Blk.new w1 (lfcells true (.slice none 0 0) x1) 78
  have hg1 := HZ1.out.lt
  obtain ⟨g, hg⟩ : ∃ g, w1.heap.size = g := ⟨_, rfl⟩
  have hgz : w.heap.size < g := by omega
  rw [hg] at BN
  have K2 := hid (KK2.out _ (R1.more hbA))
  have HN := hid BN
  have HZ2 := hid (HZ1.out.more hbA)
  have SS2 := hid (S2.trans (Sole.made (S := fun k => k = q) hbA))
  simp only [hg]
  clear K1 R1 S1 HZ1 S2 hbA BN hg1 S0 lz kz fz
  go_wp2_with fail
  refine K2.out.mono ?_
  rintro e w3 ⟨rfl, R3, S3⟩
  have HN3 := hid (HN.out.sole S3 (fun h => by have h' : g = q := h; omega))
  have HZ3 := hid (HZ2.out.sole S3 (fun h => by have h' : w.heap.size = q := h; omega))
  have SS3 := hid (SS2.out.trans S3)
  have RR3 := hid R3
  clear K2 HN HZ2 SS2 S3 R3
  go_wp2_with fail
  go_loopw [12, 5, 6] (fun c z5 z6 wx => ∃ (i : Nat) (L : List Pt) (v : Value) (rest : List UInt8), i ≤ x2 ∧ c = .int .i64 (i : Int) ∧ L.length = i ∧ rdK r2 i = some (L, rest) ∧ Blk wx g (lfcells true v x1) ∧ PtsOwn wx (g + 1) v L ∧ RS wx q rest b2 ∧ Blk wx w.heap.size (lfcells false (.slice none 0 0) 0) ∧ Sole (fun k => k = q) w wx) (fun c _ _ _ => x2 - (intOf c).toNat)
  case atStart => exact ⟨0, [], .slice none 0 0, r2, by omega, rfl, rfl, rfl, HN3.out, PtsOwn.nil _ _, RR3.out, HZ3.out, SS3.out⟩
  case round =>
    clear HN3 RR3 HZ3 SS3
    obtain ⟨i, L, v, rest, hik, rfl, hL, hk, BN, OV, R, BZ, S⟩ := hrel
    have hvg := fun k hk => (OV.lt k hk).1
    by_cases hlt : i < x2
    · have hb2 : b2 = false := by
        cases hb : b2 with
        | false => rfl
        | true => have := hx2.out hb; omega
      have KG := hid (point_get q rest b2 wr R)
      have HBN := hid BN
      have HBZ' := hid BZ
      have HOV := hid OV
      have HS := hid S
      have Hk := hid hk
      have Hvg := hid hvg
      have hb2' := hid hb2
      clear BN BZ OV S hk hvg R hb2 HBZ
      go_wp2_with fail
      refine KG.out.mono ?_
      rintro e w7 ⟨P, ok, l', bad', rfl, GS, R7, S7⟩
      have B7 := HBN.out.sole S7 (fun h => by have h' : g = q := h; omega)
      have Z7 := HBZ'.out.sole S7 (fun h => by have h' : w.heap.size = q := h; omega)
      have O7 := HOV.out.sole S7 (fun k hk h => by have h' : k = q := h; have := Hvg.out k hk; omega)
      have T7 := HS.out.trans S7
      have hbA : Below w7.heap.size w7 (w7.alloc (.cells #[.int .i64 P.id, .int .u32 P.x, .int .u32 P.y, .string P.d] 168)) := (Below.refl _ _).alloc (Nat.le_refl _) _
      have BP := hid (Blk.new w7 #[.int .i64 P.id, .int .u32 P.x, .int .u32 P.y, .string P.d] 168)
      have HB8 := hid (B7.more hbA)
      have HZ8 := hid (Z7.more hbA)
      have HO8 := hid (O7.more hbA)
      have T8 := hid (T7.trans (Sole.made (S := fun k => k = q) hbA))
      have R8 := hid (R7.more hbA)
      have hg7 := B7.lt
      have HGS := hid GS
      clear HBN HBZ' HOV HS S7 R7 B7 Z7 O7 T7 hbA KG GS
      cases ok with
      | false =>
        have hnone := hid (show rdK r2 x2 = none by
          refine rdK_none r2 (i := i + 1) (rdK_stop Hk.out ?_) x2 (by omega)
          rintro ⟨q1, q2⟩
          rcases HGS.out with ⟨_, _, _, _, ⟨_, _, h⟩ | ⟨h, _⟩⟩ | ⟨h, _⟩
          · cases h
          · exact h q2
          · rcases h with h | h
            · rw [hb2'.out] at h; cases h
            · omega)
        obtain ⟨lz, kz, fz⟩ := HZ8.out
        go_wp2_with fail
        have B2 := Blk.fill (lfcells false (.slice none 0 0) 0).toList 0 HZ8.out (by simp)
        have hb9 := hid (T8.out.trans' (T := fun k => k = w.heap.size) (sole_fill (b := w.heap.size) (lfcells false (.slice none 0 0) 0).toList 0 _) (fun k hk h => by have h' : k = w.heap.size := h; omega))
        have R9 := hid (R8.out.kept (sole_fill (b := w.heap.size) (lfcells false (.slice none 0 0) 0).toList 0 _) (fun k hk h => by have h' : k = w.heap.size := h; omega))
        show bodyPost _ _ _ _ _ (setAll _ w.heap.size 0 (lfcells false (.slice none 0 0) 0).toList)
        generalize hwx : setAll _ w.heap.size 0 (lfcells false (.slice none 0 0) 0).toList = w9 at *
        obtain ⟨l7, k7, f7⟩ := B2
        refine bodyPost_ret (v := .tuple #[lfval false (.slice none 0 0) 0, .bool false]) (by simp [results, Try.results94, go_sem, k7, fillC]) rfl ?_
        exact EN.out w9 l' bad' hb2'.out R9.out hb9.out hnone.out
      | true =>
        obtain ⟨g1, g2, rfl, rfl, rfl⟩ : 13 + lenAt rest ≤ rest.length ∧ (pointOf rest).may ∧ bad' = false ∧ l' = rest.drop (13 + lenAt rest) ∧ P = pointOf rest := by
          rcases HGS.out with ⟨_, h1, h2, h3, ⟨h4, h5, _⟩ | ⟨_, _, h⟩⟩ | ⟨_, _, h, _⟩
          · exact ⟨h1, h4, h2, h3, h5⟩
          · cases h
          · cases h
        have hk1 := hid (rdK_step Hk.out g1 g2)
        have hL1 := hid (show (L ++ [pointOf rest]).length = i + 1 by rw [List.length_append, hL]; rfl)
        replace g1 := hid g1
        replace g2 := hid g2
        have hown0 := HO8.out
        unfold PtsOwn at hown0
        rw [hL] at hown0
        have hfl := hid (show flatP L ++ [Value.int .i64 (pointOf rest).id, .int .u32 (pointOf rest).x, .int .u32 (pointOf rest).y, .string (pointOf rest).d] = flatP (L ++ [pointOf rest]) by rw [flatP_append, flatP_one]; rfl)
        have hi8 : i ≤ 255 := by omega
        generalize pointOf rest = P at *
        generalize 13 + lenAt rest = m13 at *
        have hnews : ∀ j u, [Value.int .i64 P.id, .int .u32 P.x, .int .u32 P.y, .string P.d][j]? = some u → ((w7.alloc (.cells #[.int .i64 P.id, .int .u32 P.x, .int .u32 P.y, .string P.d] 168)).alloc (.cells #[.int .i64 P.id, .int .u32 P.x, .int .u32 P.y, .string P.d] 168)).cell? (Addr.add ⟨w7.heap.size + 1, 0, none⟩ j) = some u := by
          have h := node_four (w := w7.alloc (.cells #[.int .i64 P.id, .int .u32 P.x, .int .u32 P.y, .string P.d] 168)) (v0 := .int .i64 P.id) (v1 := .int .u32 P.x) (v2 := .int .u32 P.y) (v3 := .string P.d) (t := 168)
          rwa [World.size_alloc] at h
        obtain ⟨ln, kn, fn⟩ := HB8.out
        clear HGS Hk HO8
        replace hnews := hid hnews
        go_wp2_with (at_builtin; refine wpList_append_own _ rfl _ _ 75 rfl (g + 1) 168 i0 (.agg #[.int .i64 0, .int .u32 0, .int .u32 0, .string ByteArray.empty]) 4 32 Try.underlying75 hi hz0 hz1 hz2 rfl (by decide) v i (flatP L) rfl (hown0.alloc _) ⟨w7.heap.size + 1, 0, none⟩ 1 1 [.int .i64 P.id, .int .u32 P.x, .int .u32 P.y, .string P.d] rfl rfl hnews.out ?c2 ?c3 ?c4 ?c5 ?_)
        case c2 => intro u hu; simp at hu; rcases hu with rfl | rfl | rfl | rfl <;> rfl
        case c3 => unfold maxLen; omega
        case c4 => omega
        case c5 => simp; omega
        intro v9 w9 hown hgrow hne
        rw [hfl.out] at hown
        have hO9 : PtsOwn w9 (g + 1) v9 (L ++ [P]) := by unfold PtsOwn; rw [hL1.out]; exact hown
        obtain ⟨pv9, cv9, hv9, _, _, _⟩ := hO9.open
        rw [hL1.out] at hv9
        subst hv9
        have S9 := Sole.grown (S := fun k => v.ownBlock = some k) hgrow fun k hk => hk
        have ag : ¬ v.ownBlock = some g := fun h => by have := Hvg.out g h; omega
        have az : ¬ v.ownBlock = some w.heap.size := fun h => by have := Hvg.out _ h; omega
        have HN9 := hid ((HB8.out.alloc _).sole S9 ag)
        have HZ9 := (HZ8.out.alloc _).sole S9 az
        have R9 := (R8.out.more ((Below.refl _ _).alloc (Nat.le_refl _) (.cells #[.int .i64 P.id, .int .u32 P.x, .int .u32 P.y, .string P.d] 168))).kept S9 (fun k hk h => by have := Hvg.out k h; omega)
        have T9 := (T8.out.trans (Sole.alloc _ (.cells #[.int .i64 P.id, .int .u32 P.x, .int .u32 P.y, .string P.d] 168))).trans' S9 (fun k hk h => by have := Hvg.out k h; omega)
        clear ln kn fn S9 hgrow hne hown HB8 HZ8 R8 T8
        obtain ⟨ln, kn, fn⟩ := HN9.out
        go_wp2_with fail
        have S10 : Sole (fun j => j = g) w9 (w9.setCell ⟨g, 1, none⟩ (.slice pv9 (i + 1) cv9)) := Sole.setCell _ _ rfl
        have E1 := hid (HN9.out.set 1 (.slice pv9 (i + 1) cv9) (by simp))
        have E2 := hid (hO9.sole S10 (fun k hk h => by have h' : k = g := h; have := (hO9.lt k hk).1; omega))
        have E3 := hid (R9.kept S10 (fun k hk h => by have h' : k = g := h; omega))
        have E4 := hid (HZ9.sole S10 (fun h => by have h' : w.heap.size = g := h; omega))
        have E5 := hid (T9.trans' S10 (fun k hk h => by have h' : k = g := h; omega))
        clear S10 HN9 hO9 R9 HZ9 T9 ln kn fn
        go_roundw
        case rel => exact ⟨i + 1, _, _, _, by omega, by go_num, hL1.out, hk1.out, E1.out, E2.out, by rw [hb2'.out]; exact E3.out, E4.out, E5.out⟩
        case measure => simp [intOf]; omega
    · obtain rfl : i = x2 := by omega
      have HO := hid (show PtsOwn wr w.heap.size v L from own_base OV (by omega))
      have HBZ' := hid BZ
      obtain ⟨pv, cv, hv, _, _, _⟩ := OV.open
      rw [hL] at hv
      subst hv
      replace hL := hid hL
      obtain ⟨ln, kn, fn⟩ := BN
      obtain ⟨lz', kz', fz'⟩ := BZ
      have hqz : q ≠ w.heap.size := by omega
      have T := hid (S.trans' (T := fun k => k = w.heap.size) (sole_fill (b := w.heap.size) (lfcells true (.slice pv i cv) x1).toList 0 wr) (fun k hk h => by have h' : k = w.heap.size := h; omega))
      have R9 := hid (R.kept (sole_fill (b := w.heap.size) (lfcells true (.slice pv i cv) x1).toList 0 wr) (fun k hk h => by have h' : k = w.heap.size := h; omega))
      have O9 := hid (HO.out.sole (sole_fill (b := w.heap.size) (lfcells true (.slice pv i cv) x1).toList 0 wr) (fun k hk h => by have h' : k = w.heap.size := h; have := hvg k hk; omega))
      have B2 := Blk.fill (lfcells true (.slice pv i cv) x1).toList 0 HBZ'.out (by simp)
      replace hk := hid hk
      clear OV R S hvg HBZ HO HBZ'
      go_wp2_with fail
      show bodyPost _ _ _ _ _ (setAll wr w.heap.size 0 (lfcells true (.slice pv i cv) x1).toList)
      generalize setAll wr w.heap.size 0 (lfcells true (.slice pv i cv) x1).toList = w9 at *
      obtain ⟨l7, k7, f7⟩ := B2
      refine bodyPost_ret (v := .tuple #[lfval true (.slice pv i cv) x1, .bool true]) (by simp [results, Try.results94, go_sem, k7, fillC]) rfl ?_
      cases hb : b2 with
      | true => exact EB.out w9 _ L x1 rest hb (hb ▸ R9.out) O9.out T.out
      | false => exact EG.out w9 _ L rest hb (hb ▸ R9.out) O9.out T.out hk.out
end Go.Proofs.Ytcklmemnjchdcaa

/-
  Package node: another node of octets.
-/

namespace Go.Proofs.Ytcklmemnjchdcaa
open Go.RowKit
set_option linter.unusedVariables false
set_option linter.unusedSimpArgs false

/-- An In that has handed out so many octets of l0, or has failed. -/
def StI (l0 : List UInt8) (bad0 : Bool) (t : Nat) (b : Bool) (l : List UInt8) : Prop := (b = false ∧ bad0 = false ∧ t ≤ l0.length ∧ l = l0.drop t) ∨ (b = true ∧ (bad0 = true ∨ l0.length < t))
theorem StI.begin (l : List UInt8) (bad : Bool) : StI l bad 0 bad l := by
  cases bad
  · exact .inl ⟨rfl, rfl, Nat.zero_le _, rfl⟩
  · exact .inr ⟨rfl, .inl rfl⟩
theorem rs_st {l0 : List UInt8} {bad0 : Bool} {t : Nat} (size : Int) (m : Nat) (hm : min (max size 1) 6 = m) (q : Nat) (b : Bool) (l : List UInt8) (w : World) (R : RS w q l b) (S : StI l0 bad0 t b l) :
    Calls Try.prog 91 #[at' q, .int .i64 size] w fun e w' => ∃ (b' : Bool) (l' : List UInt8) (x : Nat), e = .returned (.int .i64 x) ∧ RS w' q l' b' ∧ Sole (fun k => k = q) w w' ∧ StI l0 bad0 (t + m) b' l' ∧ x < 256 ^ m ∧ (b' = false → x = numOf ((l0.drop t).take m)) := by
  have bd : ∀ (c : Bool), numOf (if c then [] else l.take m) < 256 ^ m := by
    intro c
    cases c with
    | true => exact Nat.pos_of_ne_zero (by simp [numOf])
    | false =>
      have := numOf_lt (l.take m)
      have hp : (256 : Nat) ^ (l.take m).length ≤ 256 ^ m := Nat.pow_le_pow_right (by omega) (by rw [List.length_take]; omega)
      simp only [Bool.false_eq_true, if_false]
      omega
  refine (rs_num size m hm q l b _ rfl w R).mono ?_
  rintro e w' ⟨he, R', S'⟩
  refine ⟨_, _, _, he, R', S', ?_, bd _, ?_⟩
  · rcases S with ⟨rfl, h1, h2, rfl⟩ | ⟨rfl, h⟩
    · by_cases h : (l0.drop t).length < m
      · rw [List.length_drop] at h
        exact .inr ⟨by simp; omega, .inr (by omega)⟩
      · have h' := h
        rw [List.length_drop] at h'
        refine .inl ⟨by simp; omega, h1, by omega, ?_⟩
        rw [decide_eq_false h]
        simp
    · exact .inr ⟨by simp, h.imp id (fun h => by omega)⟩
  · intro hb
    rcases S with ⟨rfl, h1, h2, rfl⟩ | ⟨rfl, h⟩
    · rw [hb]; simp
    · simp at hb
abbrev otval (x0 x1 x2 x3 y0 y1 y2 y3 : Int) : Value := .agg #[.bool false, .slice none 0 0, .int .i64 0, .int .i64 x0, .int .i64 x1, .int .i64 x2, .int .i64 x3, .int .i64 y0, .int .i64 y1, .int .i64 y2, .int .i64 y3]
abbrev otcells (x0 x1 x2 x3 y0 y1 y2 y3 : Int) : Array Value := #[.bool false, .slice none 0 0, .int .i64 0, .int .i64 x0, .int .i64 x1, .int .i64 x2, .int .i64 x3, .int .i64 y0, .int .i64 y1, .int .i64 y2, .int .i64 y3]
def OtherPost (q : Nat) (l : List UInt8) (bad : Bool) (w : World) (e : Ending) (w' : World) : Prop :=
  ∃ (x0 x1 x2 x3 y0 y1 y2 y3 : Nat) (b' : Bool) (l' : List UInt8), e = .returned (otval x0 x1 x2 x3 y0 y1 y2 y3) ∧ RS w' q l' b' ∧ Sole (fun k => k = q) w w' ∧ StI l bad 12 b' l' ∧
    (b' = false → x0 = numOf ((l.drop 0).take 1) ∧ x1 = numOf ((l.drop 1).take 1) ∧ x2 = numOf ((l.drop 2).take 1) ∧ x3 = numOf ((l.drop 3).take 1) ∧ y0 = numOf ((l.drop 4).take 2) ∧ y1 = numOf ((l.drop 6).take 2) ∧ y2 = numOf ((l.drop 8).take 2) ∧ y3 = numOf ((l.drop 10).take 2))
theorem StI.was {l0 : List UInt8} {bad0 b b' : Bool} {t t' : Nat} {l l' : List UInt8} (h : StI l0 bad0 t b l) (h' : StI l0 bad0 t' b' l') (ht : t ≤ t') (hb : b' = false) : b = false := by
  rcases h with ⟨h, _⟩ | ⟨_, h⟩
  · exact h
  · rcases h' with ⟨_, h1, h2, _⟩ | ⟨h1, _⟩
    · rcases h with h | h
      · rw [h1] at h; cases h
      · omega
    · rw [hb] at h1; cases h1

set_option maxRecDepth 100000 in
set_option maxHeartbeats 16000000 in
theorem readOther_any (q : Nat) (l : List UInt8) (bad : Bool) (w : World) (R : RS w q l bad) :
    Calls Try.prog 95 #[at' q] w (OtherPost q l bad w) := by
  obtain ⟨W0, hW0⟩ : ∃ W0, (w.alloc (.cells (otcells 0 0 0 0 0 0 0 0) 78)).alloc (.cells (otcells 0 0 0 0 0 0 0 0) 78) = W0 := ⟨_, rfl⟩
  have hb0 : Below w.heap.size w W0 := by rw [← hW0]; exact ((Below.refl _ _).alloc (Nat.le_refl _) _).alloc (by simp) _
  have BZ : Blk W0 w.heap.size (otcells 0 0 0 0 0 0 0 0) := by rw [← hW0]; exact (Blk.new w _ _).alloc _
  have BN : Blk W0 (w.heap.size + 1) (otcells 0 0 0 0 0 0 0 0) := by
    rw [← hW0]
    have := Blk.new (w.alloc (.cells (otcells 0 0 0 0 0 0 0 0) 78)) (otcells 0 0 0 0 0 0 0 0) 78
    rwa [World.size_alloc] at this
  have hqw := R.1.lt
  obtain ⟨z, hz⟩ : ∃ z, w.heap.size = z := ⟨_, rfl⟩
  have N0 := BN
  have Z0 := BZ
  have R0 := R.more hb0
  have S0 := Sole.made (S := fun k => k = q) hb0
  have T0 := StI.begin l bad
  rw [hz] at N0 Z0 hqw
  replace N0 := hid N0
  replace Z0 := hid Z0
  replace R0 := hid R0
  replace S0 := hid S0
  replace T0 := hid T0
  clear BZ BN hb0 R
  go_enter Try.func95, Try.ntmps95
  go_wp2_with fail
  have hzz := hid hz
  clear hW0 hz
  refine wp_loop_rounds 5 ?_
  rw [rounds_succ]
  have K1 := hid (rs_st 1 1 rfl q _ _ _ R0.out T0.out)
  go_wp2_with fail
  refine K1.out.mono ?_
  rintro e w1 ⟨b1, l1, x0, rfl, R, S, U1, hx1, hv1⟩
  have N := N0.out.sole S (fun h => by have h' : z + 1 = q := h; omega)
  have Z := Z0.out.sole S (fun h => by have h' : z = q := h; omega)
  have S9 : Sole (fun j => j = z + 1) w1 (w1.setCell ⟨z + 1, 3, none⟩ (.int .i64 x0)) := Sole.setCell _ _ rfl
  have N1 := hid (N.set 3 (.int .i64 x0) (by simp))
  have Z1 := hid (Z.sole S9 (fun h => by have h' : z = z + 1 := h; omega))
  have R1 := hid (R.kept S9 (fun k hk h => by have h' : k = z + 1 := h; omega))
  have S1 := hid ((S0.out.trans S).trans' S9 (fun k hk h => by have h' : k = z + 1 := h; have := hzz.out; omega))
  have T1 := hid U1
  have V1 := hid hv1
  have hc1 : Hid True := hid trivial
  clear R S U1 hv1 Z S9 K1 hx1
  obtain ⟨ln, kn, fn⟩ := N
  go_wp2_with fail
  clear ln kn fn
  rw [rounds_succ]
  have K2 := hid (rs_st 1 1 rfl q _ _ _ R1.out T1.out)
  go_wp2_with fail
  refine K2.out.mono ?_
  rintro e w2 ⟨b2, l2, x1, rfl, R, S, U2, hx2, hv2⟩
  have N := N1.out.sole S (fun h => by have h' : z + 1 = q := h; omega)
  have Z := Z1.out.sole S (fun h => by have h' : z = q := h; omega)
  have S9 : Sole (fun j => j = z + 1) w2 (w2.setCell ⟨z + 1, 4, none⟩ (.int .i64 x1)) := Sole.setCell _ _ rfl
  have N2 := hid (N.set 4 (.int .i64 x1) (by simp))
  have Z2 := hid (Z.sole S9 (fun h => by have h' : z = z + 1 := h; omega))
  have R2 := hid (R.kept S9 (fun k hk h => by have h' : k = z + 1 := h; omega))
  have S2 := hid ((S1.out.trans S).trans' S9 (fun k hk h => by have h' : k = z + 1 := h; have := hzz.out; omega))
  have T2 := hid U2
  have V2 := hid hv2
  have hc2 : Hid True := hid trivial
  clear R S U2 hv2 Z S9 K2 hx2
  obtain ⟨ln, kn, fn⟩ := N
  go_wp2_with fail
  clear ln kn fn
  rw [rounds_succ]
  have K3 := hid (rs_st 1 1 rfl q _ _ _ R2.out T2.out)
  go_wp2_with fail
  refine K3.out.mono ?_
  rintro e w3 ⟨b3, l3, x2, rfl, R, S, U3, hx3, hv3⟩
  have N := N2.out.sole S (fun h => by have h' : z + 1 = q := h; omega)
  have Z := Z2.out.sole S (fun h => by have h' : z = q := h; omega)
  have S9 : Sole (fun j => j = z + 1) w3 (w3.setCell ⟨z + 1, 5, none⟩ (.int .i64 x2)) := Sole.setCell _ _ rfl
  have N3 := hid (N.set 5 (.int .i64 x2) (by simp))
  have Z3 := hid (Z.sole S9 (fun h => by have h' : z = z + 1 := h; omega))
  have R3 := hid (R.kept S9 (fun k hk h => by have h' : k = z + 1 := h; omega))
  have S3 := hid ((S2.out.trans S).trans' S9 (fun k hk h => by have h' : k = z + 1 := h; have := hzz.out; omega))
  have T3 := hid U3
  have V3 := hid hv3
  have hc3 : Hid True := hid trivial
  clear R S U3 hv3 Z S9 K3 hx3
  obtain ⟨ln, kn, fn⟩ := N
  go_wp2_with fail
  clear ln kn fn
  rw [rounds_succ]
  have K4 := hid (rs_st 1 1 rfl q _ _ _ R3.out T3.out)
  go_wp2_with fail
  refine K4.out.mono ?_
  rintro e w4 ⟨b4, l4, x3, rfl, R, S, U4, hx4, hv4⟩
  have N := N3.out.sole S (fun h => by have h' : z + 1 = q := h; omega)
  have Z := Z3.out.sole S (fun h => by have h' : z = q := h; omega)
  have S9 : Sole (fun j => j = z + 1) w4 (w4.setCell ⟨z + 1, 6, none⟩ (.int .i64 x3)) := Sole.setCell _ _ rfl
  have N4 := hid (N.set 6 (.int .i64 x3) (by simp))
  have Z4 := hid (Z.sole S9 (fun h => by have h' : z = z + 1 := h; omega))
  have R4 := hid (R.kept S9 (fun k hk h => by have h' : k = z + 1 := h; omega))
  have S4 := hid ((S3.out.trans S).trans' S9 (fun k hk h => by have h' : k = z + 1 := h; have := hzz.out; omega))
  have T4 := hid U4
  have V4 := hid hv4
  have hc4 : Hid True := hid trivial
  clear R S U4 hv4 Z S9 K4 hx4
  obtain ⟨ln, kn, fn⟩ := N
  go_wp2_with fail
  clear ln kn fn
  rw [rounds_succ]
  go_wp2_with fail
  refine wp_loop_rounds 5 ?_
  rw [rounds_succ]
  have K5 := hid (rs_st 2 2 rfl q _ _ _ R4.out T4.out)
  go_wp2_with fail
  refine K5.out.mono ?_
  rintro e w5 ⟨b5, l5, x4, rfl, R, S, U5, hx5, hv5⟩
  have N := N4.out.sole S (fun h => by have h' : z + 1 = q := h; omega)
  have Z := Z4.out.sole S (fun h => by have h' : z = q := h; omega)
  have S9 : Sole (fun j => j = z + 1) w5 (w5.setCell ⟨z + 1, 7, none⟩ (.int .i64 x4)) := Sole.setCell _ _ rfl
  have N5 := hid (N.set 7 (.int .i64 x4) (by simp))
  have Z5 := hid (Z.sole S9 (fun h => by have h' : z = z + 1 := h; omega))
  have R5 := hid (R.kept S9 (fun k hk h => by have h' : k = z + 1 := h; omega))
  have S5 := hid ((S4.out.trans S).trans' S9 (fun k hk h => by have h' : k = z + 1 := h; have := hzz.out; omega))
  have T5 := hid U5
  have V5 := hid hv5
  have hc5 : Hid True := hid trivial
  clear R S U5 hv5 Z S9 K5 hx5
  obtain ⟨ln, kn, fn⟩ := N
  go_wp2_with fail
  clear ln kn fn
  rw [rounds_succ]
  have K6 := hid (rs_st 2 2 rfl q _ _ _ R5.out T5.out)
  go_wp2_with fail
  refine K6.out.mono ?_
  rintro e w6 ⟨b6, l6, x5, rfl, R, S, U6, hx6, hv6⟩
  have N := N5.out.sole S (fun h => by have h' : z + 1 = q := h; omega)
  have Z := Z5.out.sole S (fun h => by have h' : z = q := h; omega)
  have S9 : Sole (fun j => j = z + 1) w6 (w6.setCell ⟨z + 1, 8, none⟩ (.int .i64 x5)) := Sole.setCell _ _ rfl
  have N6 := hid (N.set 8 (.int .i64 x5) (by simp))
  have Z6 := hid (Z.sole S9 (fun h => by have h' : z = z + 1 := h; omega))
  have R6 := hid (R.kept S9 (fun k hk h => by have h' : k = z + 1 := h; omega))
  have S6 := hid ((S5.out.trans S).trans' S9 (fun k hk h => by have h' : k = z + 1 := h; have := hzz.out; omega))
  have T6 := hid U6
  have V6 := hid hv6
  have hc6 : Hid True := hid trivial
  clear R S U6 hv6 Z S9 K6 hx6
  obtain ⟨ln, kn, fn⟩ := N
  go_wp2_with fail
  clear ln kn fn
  rw [rounds_succ]
  have K7 := hid (rs_st 2 2 rfl q _ _ _ R6.out T6.out)
  go_wp2_with fail
  refine K7.out.mono ?_
  rintro e w7 ⟨b7, l7, x6, rfl, R, S, U7, hx7, hv7⟩
  have N := N6.out.sole S (fun h => by have h' : z + 1 = q := h; omega)
  have Z := Z6.out.sole S (fun h => by have h' : z = q := h; omega)
  have S9 : Sole (fun j => j = z + 1) w7 (w7.setCell ⟨z + 1, 9, none⟩ (.int .i64 x6)) := Sole.setCell _ _ rfl
  have N7 := hid (N.set 9 (.int .i64 x6) (by simp))
  have Z7 := hid (Z.sole S9 (fun h => by have h' : z = z + 1 := h; omega))
  have R7 := hid (R.kept S9 (fun k hk h => by have h' : k = z + 1 := h; omega))
  have S7 := hid ((S6.out.trans S).trans' S9 (fun k hk h => by have h' : k = z + 1 := h; have := hzz.out; omega))
  have T7 := hid U7
  have V7 := hid hv7
  have hc7 : Hid True := hid trivial
  clear R S U7 hv7 Z S9 K7 hx7
  obtain ⟨ln, kn, fn⟩ := N
  go_wp2_with fail
  clear ln kn fn
  rw [rounds_succ]
  have K8 := hid (rs_st 2 2 rfl q _ _ _ R7.out T7.out)
  go_wp2_with fail
  refine K8.out.mono ?_
  rintro e w8 ⟨b8, l8, x7, rfl, R, S, U8, hx8, hv8⟩
  have N := N7.out.sole S (fun h => by have h' : z + 1 = q := h; omega)
  have Z := Z7.out.sole S (fun h => by have h' : z = q := h; omega)
  have S9 : Sole (fun j => j = z + 1) w8 (w8.setCell ⟨z + 1, 10, none⟩ (.int .i64 x7)) := Sole.setCell _ _ rfl
  have N8 := hid (N.set 10 (.int .i64 x7) (by simp))
  have Z8 := hid (Z.sole S9 (fun h => by have h' : z = z + 1 := h; omega))
  have R8 := hid (R.kept S9 (fun k hk h => by have h' : k = z + 1 := h; omega))
  have S8 := hid ((S7.out.trans S).trans' S9 (fun k hk h => by have h' : k = z + 1 := h; have := hzz.out; omega))
  have T8 := hid U8
  have V8 := hid hv8
  have hc8 : Hid True := hid trivial
  clear R S U8 hv8 Z S9 K8 hx8
  obtain ⟨ln, kn, fn⟩ := N
  go_wp2_with fail
  clear ln kn fn
  rw [rounds_succ]
  have NF := show Blk _ (z + 1) (otcells x0 x1 x2 x3 x4 x5 x6 x7) from N8.out
  obtain ⟨ln, kn, fn⟩ := NF
  obtain ⟨lz, kz, fz⟩ := Z8.out
  have B2 := Blk.fill (otcells x0 x1 x2 x3 x4 x5 x6 x7).toList 0 Z8.out (by simp)
  have R9 := hid (R8.out.kept (sole_fill (b := z) (otcells x0 x1 x2 x3 x4 x5 x6 x7).toList 0 _) (fun k hk h => by have h' : k = z := h; omega))
  have S9 := hid (S8.out.trans' (T := fun k => k = z) (sole_fill (b := z) (otcells x0 x1 x2 x3 x4 x5 x6 x7).toList 0 _) (fun k hk h => by have h' : k = z := h; have := hzz.out; omega))
  have FIN : Hid (b8 = false → x0 = numOf ((l.drop 0).take 1) ∧ x1 = numOf ((l.drop 1).take 1) ∧ x2 = numOf ((l.drop 2).take 1) ∧ x3 = numOf ((l.drop 3).take 1) ∧ x4 = numOf ((l.drop 4).take 2) ∧ x5 = numOf ((l.drop 6).take 2) ∧ x6 = numOf ((l.drop 8).take 2) ∧ x7 = numOf ((l.drop 10).take 2)) := hid (fun hb =>
    ⟨V1.out (T1.out.was T8.out (by omega) hb), V2.out (T2.out.was T8.out (by omega) hb), V3.out (T3.out.was T8.out (by omega) hb), V4.out (T4.out.was T8.out (by omega) hb), V5.out (T5.out.was T8.out (by omega) hb), V6.out (T6.out.was T8.out (by omega) hb), V7.out (T7.out.was T8.out (by omega) hb), V8.out hb⟩)
  clear N1 N2 N3 N4 N5 N6 N7 Z1 Z2 Z3 Z4 Z5 Z6 Z7 R1 R2 R3 R4 R5 R6 R7 S1 S2 S3 S4 S5 S6 S7 T1 T2 T3 T4 T5 T6 T7 V1 V2 V3 V4 V5 V6 V7 V8
  go_wp2_with fail
  show bodyPost _ _ _ _ _ (setAll _ z 0 (otcells x0 x1 x2 x3 x4 x5 x6 x7).toList)
  generalize setAll _ z 0 (otcells x0 x1 x2 x3 x4 x5 x6 x7).toList = w9 at *
  obtain ⟨l7', k7', f7'⟩ := B2
  refine bodyPost_ret (v := otval x0 x1 x2 x3 x4 x5 x6 x7) (by simp [results, Try.results95, go_sem, k7', fillC]) rfl ?_
  exact ⟨x0, x1, x2, x3, x4, x5, x6, x7, b8, l8, rfl, R9.out, S9.out, T8.out, FIN.out⟩
end Go.Proofs.Ytcklmemnjchdcaa

/-
  Package node: Read, of any octets.
-/


namespace Go.Proofs.Ytcklmemnjchdcaa
open Go.RowKit
set_option linter.unusedVariables false
set_option linter.unusedSimpArgs false

theorem Blk.full {w : World} {b : Nat} {c d : Array Value} (h : Blk w b c) (hs : d.size = c.size) : Blk (setAll w b 0 d.toList) b d := by
  have := Blk.fill d.toList 0 h (by simp; omega)
  rwa [fillC_whole hs] at this
theorem row_apart8 {S : Nat → Prop} {w w' : World} {p : Option Addr} {sz n : Nat} {f : Nat → List Value} (h : RowP w p sz n f) (hs : Sole S w w') (hn : ∀ b o, p = some ⟨b, o, none⟩ → n ≠ 0 → ¬ S b) : RowP w' p sz n f := by
  by_cases h0 : n = 0
  · exact .inl h0
  · obtain ⟨b, o, e, r⟩ := h.resolve_left h0
    exact .inr ⟨b, o, e, Nat.lt_of_lt_of_le r.lt hs.size, fun i hi j v hv => (hs.cell r.lt (hn b o e h0)).trans (r.cell i hi j v hv)⟩
def NdPost (l : List UInt8) (w : World) (e : Ending) (w' : World) : Prop :=
  (∃ L v, leafR l = some L ∧ e = .returned (.tuple #[lfval true v (byteAt l 1), .int .i64 0]) ∧ PtsOwn w' w.heap.size v L ∧ Below w.heap.size w w') ∨
    (leafR l = none ∧ otherR l = true ∧ e = .returned (.tuple #[otval (kidsR l 0) (kidsR l 1) (kidsR l 2) (kidsR l 3) (cntsR l 0) (cntsR l 1) (cntsR l 2) (cntsR l 3), .int .i64 0]) ∧ Below w.heap.size w w') ∨
    (leafR l = none ∧ otherR l = false ∧ e = .returned (.tuple #[lfval false (.slice none 0 0) 0, .int .i64 16]) ∧ Below w.heap.size w w')
theorem byteAt_drop (l : List UInt8) (a i : Nat) : byteAt (l.drop a) i = byteAt l (a + i) := by
  unfold byteAt; simp [List.getD]
theorem byte_of (l : List UInt8) (i : Nat) (h : i < l.length) : numOf ((l.drop i).take 1) = byteAt l i := by
  rw [List.drop_eq_getElem_cons h, byteAt_get l i h, List.take_succ_cons, List.take_zero]
  simp [numOf]
theorem allQ_congr (k c k' c' : Nat → Int) : ∀ n, (∀ i, i < n → k i = k' i ∧ c i = c' i) → allQ k c n = allQ k' c' n
  | 0, _ => rfl
  | n + 1, h => by
    simp only [allQ]
    rw [allQ_congr k c k' c' n fun i hi => h i (by omega), (h n (by omega)).1, (h n (by omega)).2]
theorem otherB_congr (n : Nat) (nx : Int) (k c k' c' : Nat → Int) (h : ∀ i, i < 4 → k i = k' i ∧ c i = c' i) : otherB n nx k c = otherB n nx k' c' := by
  unfold otherB; rw [allQ_congr k c k' c' 4 h]
def li4 (a b c d : Int) : Nat → Int := fun i => if i = 0 then a else if i = 1 then b else if i = 2 then c else d
theorem otherR_not {l : List UInt8} (h : byteAt l 0 ≠ 0 ∨ l.length ≠ 13 ∨ otherB 0 0 (kidsR l) (cntsR l) = false) : otherR l = false := by
  unfold otherR
  rcases h with h | h | h
  · rw [decide_eq_false h]; simp
  · rw [decide_eq_false h]; rfl
  · rw [h]; simp
theorem leafR_not {l : List UInt8} (h : byteAt l 0 ≠ 1 ∨ l.length < 3) : leafR l = none :=
  leafR_bad fun L h1 h2 _ _ => by rcases h with h | h <;> omega

set_option maxRecDepth 100000 in
set_option maxHeartbeats 16000000 in
theorem nread_any (l : List UInt8) (a : Option Addr) (cap : Nat) (hl : l.length ≤ 140737488355328) (w : World) (O : Octs w a l) :
    Calls Try.prog 81 #[.slice a l.length cap] w (NdPost l w) := by
  obtain ⟨W0, hW0⟩ : ∃ W0, w.alloc (.cells (lfcells false (.slice none 0 0) 0) 78) = W0 := ⟨_, rfl⟩
  have hb0 : Below w.heap.size w W0 := by rw [← hW0]; exact (Below.refl _ _).alloc (Nat.le_refl _) _
  have BZ : Blk W0 w.heap.size (lfcells false (.slice none 0 0) 0) := by rw [← hW0]; exact Blk.new w _ _
  have KO := hid (rs_open l a cap W0 (O.more hb0) hl)
  have EB : Hid (∀ w', leafR l = none ∧ otherR l = false → Below w.heap.size w w' → NdPost l w (.returned (.tuple #[lfval false (.slice none 0 0) 0, .int .i64 16])) w') := hid (fun w' h hb => .inr (.inr ⟨h.1, h.2, rfl, hb⟩))
  have hs0 : w.heap.size < W0.heap.size := BZ.lt
  have HBZ := hid BZ
  have D0 := hid hb0
  clear BZ hb0 O
  go_enter Try.func81, Try.ntmps81
  go_wp2_with fail
  refine KO.out.mono ?_
  rintro e w1 ⟨q, rfl, hq, R1, hb1⟩
  have hqz : w.heap.size < q := by omega
  have Z1 := HBZ.out.more hb1
  have D1 := below2 D0.out hb1 D0.out.size
  have hbA : Below w1.heap.size w1 (w1.alloc (.cells (lfcells false (.slice none 0 0) 0) 78)) := (Below.refl _ _).alloc (Nat.le_refl _) _
  have BN := Blk.new w1 (lfcells false (.slice none 0 0) 0) 78
  have hqg : q < w1.heap.size := R1.1.lt
  obtain ⟨g, hg⟩ : ∃ g, w1.heap.size = g := ⟨_, rfl⟩
  rw [hg] at BN hqg
  have Z2 := hid (Z1.more hbA)
  have D2 := hid (below2 D1 hbA D1.size)
  have K1 := hid (rs_st 1 1 rfl q false l _ (R1.more hbA) (StI.begin l false))
  replace BN := hid BN
  clear KO HBZ D0 R1 hb1 Z1 D1 hbA hW0
  go_wp2_with fail
  refine K1.out.mono ?_
  rintro e w3 ⟨b1, l1, x, rfl, R3, S3, T3, hxb, hx⟩
  have Z3 := hid (Z2.out.sole S3 (fun h => by have h' : w.heap.size = q := h; omega))
  have N3 := hid (BN.out.sole S3 (fun h => by have h' : g = q := h; omega))
  have D3 := hid (D2.out.trans (S3.below (B := w.heap.size) D2.out.size fun k hk => by have h' : k = q := hk; omega))
  clear K1 Z2 BN D2 S3 hg
  have hmath : (b1 = false ∧ 1 ≤ l.length ∧ l1 = l.drop 1 ∧ x = byteAt l 0) ∨ (b1 = true ∧ l.length < 1) := by
    rcases T3 with ⟨h1, _, h2, h3⟩ | ⟨h1, h2⟩
    · refine .inl ⟨h1, h2, h3, ?_⟩
      rw [hx h1]
      exact byte_of l 0 (by omega)
    · rcases h2 with h2 | h2
      · cases h2
      · exact .inr ⟨h1, by omega⟩
  have l1l : l1.length ≤ 140737488355328 := by
    rcases T3 with ⟨_, _, _, h3⟩ | ⟨h1, _⟩
    · rw [h3, List.length_drop]; omega
    · rw [R3.2 h1]; simp
  replace hmath := hid hmath
  have RR3 := hid R3
  clear T3 hx
  by_cases h1 : x = 1
  · subst h1
    have KL := hid (readLeaf_any q l1 b1 w3 R3)
    clear R3
    go_wp2_with fail
    refine KL.out.mono ?_
    rintro e w4 ⟨v, L, nx, ok, rest, bad', rfl, R4, O4, S4, fin⟩
    have Z4 := hid (Z3.out.sole S4 (fun h => by have h' : w.heap.size = q := h; omega))
    have N4 := hid (N3.out.sole S4 (fun h => by have h' : g = q := h; omega))
    have D4 := hid (D3.out.trans (S4.below (B := w.heap.size) D3.out.size fun k hk => by have h' : k = q := hk; omega))
    have hw34 := S4.size
    have hw3g := N3.out.lt
    have hw3z := Z3.out.lt
    have hoth := hid (show otherR l = false from otherR_not (by
      rcases hmath.out with ⟨_, _, _, h⟩ | ⟨_, h⟩
      · exact .inl (by omega)
      · exact .inr (.inl (by omega))))
    clear KL S4 RR3 Z3 N3 D3
    obtain ⟨ln, kn, fn⟩ := N4.out
    obtain ⟨pv, cv, hv, c1, c2, RV⟩ := O4.open
    obtain ⟨m, hm⟩ : ∃ m, L.length = m := ⟨_, rfl⟩
    rw [hm] at hv c1 RV
    subst hv
    have SF := sole_fill (b := g) (lfcells ok (.slice pv m cv) nx).toList 0 w4
    have HZ5 := hid (Z4.out.sole SF (fun h => by have h' : w.heap.size = g := h; omega))
    have R5 := R4.kept SF (fun k hk h => by have h' : k = g := h; omega)
    have O5 := hid (O4.sole SF (fun k hk h => by have h' : k = g := h; have := (O4.lt k hk).1; omega))
    have HN5 := hid (show Blk (setAll w4 g 0 (lfcells ok (.slice pv m cv) nx).toList) g (lfcells ok (.slice pv m cv) nx) from Blk.full N4.out rfl)
    have D5 := hid (below_fill (b := g) (B := w.heap.size) (by omega) (lfcells ok (.slice pv m cv) nx).toList 0 D4.out)
    have hRV := hid (row_apart8 RV SF (fun b o e hn h => by
      have h' : b = g := h
      rcases O4.2 with ⟨he, _⟩ | ⟨g', cp', cur, he, q1, _⟩
      · cases he; cases e
      · cases he; cases e; omega))
    have KE := err_any q rest _ (setAll w4 g 0 (lfcells ok (.slice pv m cv) nx).toList) R5.1
    have KF := hid (left_any q rest _ (setAll w4 g 0 (lfcells ok (.slice pv m cv) nx).toList) R5.1)
    have hrl : bad' = true → rest = [] := R4.2
    have N4K := hid N4.out
    clear R4 O4 SF R5 Z4 D4 RV N4
    rcases fin with ⟨rfl, rfl, hf⟩ | ⟨rfl, rfl, hb1, hl2, hnx, hk⟩ | ⟨rfl, rfl, hv, hb1, hl2, hk⟩
    · have hbad := hid (show leafR l = none ∧ otherR l = false from ⟨leafR_not (by
        rcases hmath.out with ⟨h1, h2, h3, _⟩ | ⟨_, h⟩
        · rcases hf with hf | hf
          · rw [h1] at hf; cases hf
          · rw [h3, List.length_drop] at hf; exact .inr (by omega)
        · exact .inr (by omega)), hoth.out⟩)
      simp only [if_true] at KE
      replace KE := hid KE
      clear hf hrl
      go_wp2_with fail
      refine KE.out.mono ?_
      rintro e w6 ⟨rfl, hw6⟩
      rw [hw6]
      clear hw6 w6
      clear ln kn fn
      generalize (setAll w4 g 0 (lfcells true (.slice pv m cv) nx).toList) = w5 at *
      have B2 := Blk.full (d := lfcells false (.slice none 0 0) 0) HZ5.out rfl
      have hb2 := hid (below_fill (b := w.heap.size) (Nat.le_refl _) (lfcells false (.slice none 0 0) 0).toList 0 D5.out)
      obtain ⟨lz, kz, fz⟩ := HZ5.out
      go_wp2_with fail
      show bodyPost _ _ _ _ _ (setAll w5 w.heap.size 0 (lfcells false (.slice none 0 0) 0).toList)
      generalize setAll w5 w.heap.size 0 (lfcells false (.slice none 0 0) 0).toList = w9 at *
      obtain ⟨l7, k7, f7⟩ := B2
      refine bodyPost_ret (v := .tuple #[lfval false (.slice none 0 0) 0, .int .i64 16]) (by simp [results, Try.results81, go_sem, k7]) rfl ?_
      exact EB.out w9 hbad.out hb2.out
    · obtain ⟨h1', h2', h3', h4'⟩ : b1 = false ∧ 1 ≤ l.length ∧ l1 = l.drop 1 ∧ byteAt l 0 = 1 := by
        rcases hmath.out with ⟨h1, h2, h3, h4⟩ | ⟨h, _⟩
        · exact ⟨h1, h2, h3, h4.symm⟩
        · rw [hb1] at h; cases h
      have hl3 : 3 ≤ l.length := by rw [h3', List.length_drop] at hl2; omega
      have e0 : byteAt l1 0 = byteAt l 1 := by rw [h3', byteAt_drop]
      have e1 : byteAt l1 1 = byteAt l 2 := by rw [h3', byteAt_drop]
      rw [e1, h3', List.drop_drop] at hk
      rw [e0] at hnx
      subst hnx
      obtain ⟨k1, k2, k3⟩ := rdK_back _ _ _ _ hk
      have hfo : ∀ i, i < m → (ptAt L i).ok := fun i hi => (k3 i (by omega)).1
      have KC := ncheck_any true pv m cv (ptAt L) hfo (byteAt l 1) zf zf c1 c2 (setAll w4 g 0 (lfcells true (.slice pv m cv) (byteAt l 1)).toList) hRV.out
      have nBe : nodeB true m (ptAt L) (byteAt l 1) zf zf = leafB L.length (ptAt L) (byteAt l 1) zf zf := by rw [hm]; rfl
      rw [nBe] at KC
      simp only [Bool.false_eq_true, if_false] at KE
      replace KE := hid KE
      have hE : Hid (leafB L.length (ptAt L) (byteAt l 1) zf zf = true → rest = [] → leafR l = some L) := hid (fun h hr => leafR_ok hl3 h4' (by rw [hk, hr]) h)
      have hE2 : Hid (leafB L.length (ptAt L) (byteAt l 1) zf zf = false ∨ rest ≠ [] → leafR l = none) := hid (fun h => leafR_bad fun L' _ _ q3 q4 => by
        rw [hk] at q3
        simp only [Option.some.injEq, Prod.mk.injEq] at q3
        obtain ⟨rfl, q3⟩ := q3
        rcases h with h | h
        · rw [h] at q4; cases q4
        · exact h q3)
      have hEG : Hid (∀ w', leafR l = some L → PtsOwn w' w.heap.size (.slice pv m cv) L → Below w.heap.size w w' → NdPost l w (.returned (.tuple #[lfval true (.slice pv m cv) (byteAt l 1), .int .i64 0])) w') := hid (fun w' h1 h2 h3 => .inl ⟨L, _, h1, rfl, h2, h3⟩)
      have nxb := byteAt_lt l 1
      generalize leafB L.length (ptAt L) (byteAt l 1) zf zf = BB at *
      generalize byteAt l 1 = nx at *
      have hr0 : rest = [] ↔ rest.length = 0 := List.length_eq_zero_iff.symm
      have hrL : rest.length ≤ 140737488355328 := by
        have h9 := congrArg List.length k2
        rw [List.length_append, List.length_drop] at h9
        omega
      generalize hrl' : rest.length = rl at *
      replace hr0 := hid hr0
      replace hrl' := hid hrl'
      replace KC := hid KC
      clear k1 k2 k3 hk e0 e1 hl2 hfo nBe hrl hl3 h4' h2' h1' h3' hb1
      generalize hmx : m = mm at *
      replace hmx := hid hmx
      clear hm
      by_cases hz : 0 < (rl : Int)
      · have hz2 : 0 < rl := by omega
        have hbad := hid (show leafR l = none ∧ otherR l = false from ⟨hE2.out (.inr (fun h => by have := hr0.out.1 h; omega)), hoth.out⟩)
        clear KC
        go_wp2_with fail
        refine KE.out.mono ?_
        rintro e w6 ⟨rfl, hw6⟩
        rw [hw6]
        clear hw6 w6
        go_wp2_with fail
        refine KF.out.mono ?_
        rintro e w6 ⟨rfl, hw6⟩
        rw [hw6]
        clear hw6 w6
        clear ln kn fn
        generalize (setAll w4 g 0 (lfcells true (.slice pv mm cv) nx).toList) = w5 at *
        have B2 := Blk.full (d := lfcells false (.slice none 0 0) 0) HZ5.out rfl
        have hb2 := hid (below_fill (b := w.heap.size) (Nat.le_refl _) (lfcells false (.slice none 0 0) 0).toList 0 D5.out)
        obtain ⟨lz, kz, fz⟩ := HZ5.out
        go_wp2_with fail
        show bodyPost _ _ _ _ _ (setAll w5 w.heap.size 0 (lfcells false (.slice none 0 0) 0).toList)
        generalize setAll w5 w.heap.size 0 (lfcells false (.slice none 0 0) 0).toList = w9 at *
        obtain ⟨l7, k7, f7⟩ := B2
        refine bodyPost_ret (v := .tuple #[lfval false (.slice none 0 0) 0, .int .i64 16]) (by simp [results, Try.results81, go_sem, k7]) rfl ?_
        exact EB.out w9 hbad.out hb2.out
      · have hz2 : rl = 0 := by omega
        subst hz2
        have hre := hr0.out.2 rfl
        clear hz
        cases BB with
        | false =>
          have hbad := hid (show leafR l = none ∧ otherR l = false from ⟨hE2.out (.inl rfl), hoth.out⟩)
          rw [show nodeC false = 9 from rfl] at KC
          go_wp2_with fail
          refine KE.out.mono ?_
          rintro e w6 ⟨rfl, hw6⟩
          rw [hw6]
          clear hw6 w6
          go_wp2_with fail
          refine KF.out.mono ?_
          rintro e w6 ⟨rfl, hw6⟩
          rw [hw6]
          clear hw6 w6
          clear ln kn fn
          generalize (setAll w4 g 0 (lfcells true (.slice pv mm cv) nx).toList) = w5 at *
          obtain ⟨ln, kn, fn⟩ := HN5.out
          go_wp2_with fail
          refine KC.out.mono ?_
          rintro e w6 ⟨rfl, hb6⟩
          have HZ6 := hid (HZ5.out.more hb6)
          have D6 := hid (below2 D5.out hb6 D5.out.size)
          clear hb6 ln kn fn
          have B2 := Blk.full (d := lfcells false (.slice none 0 0) 0) HZ6.out rfl
          have hb2 := hid (below_fill (b := w.heap.size) (Nat.le_refl _) (lfcells false (.slice none 0 0) 0).toList 0 D6.out)
          obtain ⟨lz, kz, fz⟩ := HZ6.out
          go_wp2_with fail
          show bodyPost _ _ _ _ _ (setAll w6 w.heap.size 0 (lfcells false (.slice none 0 0) 0).toList)
          generalize setAll w6 w.heap.size 0 (lfcells false (.slice none 0 0) 0).toList = w9 at *
          obtain ⟨l7, k7, f7⟩ := B2
          refine bodyPost_ret (v := .tuple #[lfval false (.slice none 0 0) 0, .int .i64 16]) (by simp [results, Try.results81, go_sem, k7]) rfl ?_
          exact EB.out w9 hbad.out hb2.out
        | true =>
          have hfin := hid (hE.out rfl hre)
          rw [show nodeC true = 0 from rfl] at KC
          go_wp2_with fail
          refine KE.out.mono ?_
          rintro e w6 ⟨rfl, hw6⟩
          rw [hw6]
          clear hw6 w6
          go_wp2_with fail
          refine KF.out.mono ?_
          rintro e w6 ⟨rfl, hw6⟩
          rw [hw6]
          clear hw6 w6
          clear ln kn fn
          generalize (setAll w4 g 0 (lfcells true (.slice pv mm cv) nx).toList) = w5 at *
          obtain ⟨ln, kn, fn⟩ := HN5.out
          go_wp2_with fail
          refine KC.out.mono ?_
          rintro e w6 ⟨rfl, hb6⟩
          have HZ6 := hid (HZ5.out.more hb6)
          have D6 := hid (below2 D5.out hb6 D5.out.size)
          replace HN5 := hid (HN5.out.more hb6)
          have O6 := hid (O5.out.more hb6)
          clear hb6 ln kn fn
          have B2 := Blk.full (d := (lfcells true (.slice pv mm cv) nx)) HZ6.out rfl
          have hb2 := hid (below_fill (b := w.heap.size) (Nat.le_refl _) (lfcells true (.slice pv mm cv) nx).toList 0 D6.out)
          have SG := hid (sole_fill (b := w.heap.size) (lfcells true (.slice pv mm cv) nx).toList 0 w6)
          obtain ⟨lz, kz, fz⟩ := HZ6.out
          obtain ⟨ln, kn, fn⟩ := HN5.out
          go_wp2_with fail
          show bodyPost _ _ _ _ _ (setAll w6 w.heap.size 0 (lfcells true (.slice pv mm cv) nx).toList)
          generalize setAll w6 w.heap.size 0 (lfcells true (.slice pv mm cv) nx).toList = w9 at *
          obtain ⟨l7, k7, f7⟩ := B2
          refine bodyPost_ret (v := .tuple #[lfval true (.slice pv mm cv) nx, .int .i64 0]) (by simp [results, Try.results81, go_sem, k7]) rfl ?_
          exact hEG.out w9 hfin.out (own_base (O6.out.sole SG.out (fun k hk h => by have h' : k = w.heap.size := h; have := (O6.out.lt k hk).1; omega)) (by omega)) hb2.out
    · have hbad := hid (show leafR l = none ∧ otherR l = false from ⟨leafR_bad (fun L' q1 q2 q3 q4 => by
        rcases hmath.out with ⟨h1, h2, h3, _⟩ | ⟨_, h⟩
        · rw [h3, List.drop_drop, byteAt_drop] at hk
          rw [hk] at q3; cases q3
        · omega), hoth.out⟩)
      simp only [Value.slice.injEq] at hv
      obtain ⟨rfl, rfl, rfl⟩ := hv
      clear KE hk hl2 hrl KF hRV O5 c1 c2 hm ln kn fn
      obtain ⟨ln, kn, fn⟩ := N4K.out
      go_upto_region 10 with (fail)
      go_cut [38] (fun s wx => s = .bool true ∧ Blk wx w.heap.size (lfcells false (.slice none 0 0) 0) ∧ Below w.heap.size w wx)
      case first =>
        go_wp2_with fail
        go_meet
        case rel => exact ⟨rfl, HZ5.out, D5.out⟩
      case rest =>
        obtain ⟨rfl, BZ5, DD5⟩ := hcut
        clear ln kn fn HZ5 HN5 D5
        have B2 := Blk.full (d := lfcells false (.slice none 0 0) 0) BZ5 rfl
        have hb2 := hid (below_fill (b := w.heap.size) (Nat.le_refl _) (lfcells false (.slice none 0 0) 0).toList 0 DD5)
        obtain ⟨lz, kz, fz⟩ := BZ5
        go_wp2_with fail
        show bodyPost _ _ _ _ _ (setAll _ w.heap.size 0 (lfcells false (.slice none 0 0) 0).toList)
        generalize setAll _ w.heap.size 0 (lfcells false (.slice none 0 0) 0).toList = w9 at *
        obtain ⟨l7, k7, f7⟩ := B2
        refine bodyPost_ret (v := .tuple #[lfval false (.slice none 0 0) 0, .int .i64 16]) (by simp [results, Try.results81, go_sem, k7]) rfl ?_
        exact EB.out w9 hbad.out hb2.out
  · by_cases h0 : x = 0
    · subst h0
      have KL := hid (readOther_any q l1 b1 w3 R3)
      have hlf := hid (show leafR l = none from leafR_not (by
        rcases hmath.out with ⟨_, _, _, h⟩ | ⟨_, h⟩
        · exact .inl (by omega)
        · exact .inr (by omega)))
      clear R3 h1
      go_wp2_with fail
      refine KL.out.mono ?_
      rintro e w4 ⟨x0, x1, x2, x3, y0, y1, y2, y3, bad', rest, rfl, R4, S4, T4, fin⟩
      have Z4 := hid (Z3.out.sole S4 (fun h => by have h' : w.heap.size = q := h; omega))
      have N4 := hid (N3.out.sole S4 (fun h => by have h' : g = q := h; omega))
      have D4 := hid (D3.out.trans (S4.below (B := w.heap.size) D3.out.size fun k hk => by have h' : k = q := hk; omega))
      have hw34 := S4.size
      have hw3g := N3.out.lt
      clear KL S4 RR3 Z3 N3 D3
      obtain ⟨ln, kn, fn⟩ := N4.out
      have SF := sole_fill (b := g) (otcells x0 x1 x2 x3 y0 y1 y2 y3).toList 0 w4
      have HZ5 := hid (Z4.out.sole SF (fun h => by have h' : w.heap.size = g := h; omega))
      have R5 := R4.kept SF (fun k hk h => by have h' : k = g := h; omega)
      have HN5 := hid (show Blk (setAll w4 g 0 (otcells x0 x1 x2 x3 y0 y1 y2 y3).toList) g (otcells x0 x1 x2 x3 y0 y1 y2 y3) from Blk.full N4.out rfl)
      have D5 := hid (below_fill (b := g) (B := w.heap.size) (by omega) (otcells x0 x1 x2 x3 y0 y1 y2 y3).toList 0 D4.out)
      have KE := err_any q rest _ (setAll w4 g 0 (otcells x0 x1 x2 x3 y0 y1 y2 y3).toList) R5.1
      have KF := hid (left_any q rest _ (setAll w4 g 0 (otcells x0 x1 x2 x3 y0 y1 y2 y3).toList) R5.1)
      have KC : Calls Try.prog 74 #[otval x0 x1 x2 x3 y0 y1 y2 y3] (setAll w4 g 0 (otcells x0 x1 x2 x3 y0 y1 y2 y3).toList) fun e w' => e = .returned (.int .i64 (nodeC (otherB 0 0 (li4 x0 x1 x2 x3) (li4 y0 y1 y2 y3)))) ∧ Below (setAll w4 g 0 (otcells x0 x1 x2 x3 y0 y1 y2 y3).toList).heap.size (setAll w4 g 0 (otcells x0 x1 x2 x3 y0 y1 y2 y3).toList) w' :=
        ncheck_any false none 0 0 (fun _ => pt0) (fun i hi => absurd hi (Nat.not_lt_zero _)) 0 (li4 x0 x1 x2 x3) (li4 y0 y1 y2 y3) (Nat.le_refl _) (Nat.zero_le _) _ (.inl rfl)
      clear R4 SF R5 Z4 D4 N4
      cases bad' with
      | true =>
        have hbad := hid (show leafR l = none ∧ otherR l = false from ⟨hlf.out, otherR_not (by
          rcases T4 with ⟨h, _⟩ | ⟨_, h⟩
          · cases h
          · rcases hmath.out with ⟨h1, h2, h3, _⟩ | ⟨_, h4⟩
            · rcases h with h | h
              · rw [h1] at h; cases h
              · rw [h3, List.length_drop] at h; exact .inr (.inl (by omega))
            · exact .inr (.inl (by omega)))⟩)
        simp only [if_true] at KE
        replace KE := hid KE
        clear T4 fin KC
        go_wp2_with fail
        refine KE.out.mono ?_
        rintro e w6 ⟨rfl, hw6⟩
        rw [hw6]
        clear hw6 w6
        clear ln kn fn
        generalize (setAll w4 g 0 (otcells x0 x1 x2 x3 y0 y1 y2 y3).toList) = w5 at *
        have B2 := Blk.full (d := lfcells false (.slice none 0 0) 0) HZ5.out rfl
        have hb2 := hid (below_fill (b := w.heap.size) (Nat.le_refl _) (lfcells false (.slice none 0 0) 0).toList 0 D5.out)
        obtain ⟨lz, kz, fz⟩ := HZ5.out
        go_wp2_with fail
        show bodyPost _ _ _ _ _ (setAll w5 w.heap.size 0 (lfcells false (.slice none 0 0) 0).toList)
        generalize setAll w5 w.heap.size 0 (lfcells false (.slice none 0 0) 0).toList = w9 at *
        obtain ⟨l7, k7, f7⟩ := B2
        refine bodyPost_ret (v := .tuple #[lfval false (.slice none 0 0) 0, .int .i64 16]) (by simp [results, Try.results81, go_sem, k7]) rfl ?_
        exact EB.out w9 hbad.out hb2.out
      | false =>
        simp only [Bool.false_eq_true, if_false] at KE
        replace KE := hid KE
        obtain ⟨t1, t2, t3⟩ : b1 = false ∧ 12 ≤ l1.length ∧ rest = l1.drop 12 := by
          rcases T4 with ⟨_, h1, h2, h3⟩ | ⟨h, _⟩
          · exact ⟨h1, h2, h3⟩
          · cases h
        obtain ⟨t4, t5, t6⟩ : 1 ≤ l.length ∧ l1 = l.drop 1 ∧ byteAt l 0 = 0 := by
          rcases hmath.out with ⟨_, h2, h3, h4⟩ | ⟨h, _⟩
          · exact ⟨h2, h3, h4.symm⟩
          · rw [t1] at h; cases h
        have t7 : 13 ≤ l.length := by rw [t5, List.length_drop] at t2; omega
        obtain ⟨f0, f1, f2, f3, f4, f5, f6, f7⟩ := fin rfl
        simp only [t5, List.drop_drop] at f0 f1 f2 f3 f4 f5 f6 f7
        rw [byte_of l _ (by omega)] at f0 f1 f2 f3
        have hB : otherB 0 0 (li4 x0 x1 x2 x3) (li4 y0 y1 y2 y3) = otherB 0 0 (kidsR l) (cntsR l) := otherB_congr 0 0 _ _ _ _ (fun i hi => by
          match i, hi with
          | 0, _ => exact ⟨by show (x0 : Int) = _; rw [f0]; rfl, by show (y0 : Int) = _; rw [f4]; rfl⟩
          | 1, _ => exact ⟨by show (x1 : Int) = _; rw [f1]; rfl, by show (y1 : Int) = _; rw [f5]; rfl⟩
          | 2, _ => exact ⟨by show (x2 : Int) = _; rw [f2]; rfl, by show (y2 : Int) = _; rw [f6]; rfl⟩
          | 3, _ => exact ⟨by show (x3 : Int) = _; rw [f3]; rfl, by show (y3 : Int) = _; rw [f7]; rfl⟩)
        rw [hB] at KC
        have hEG : Hid (∀ w', l.length = 13 → otherB 0 0 (kidsR l) (cntsR l) = true → Below w.heap.size w w' → NdPost l w (.returned (.tuple #[otval x0 x1 x2 x3 y0 y1 y2 y3, .int .i64 0])) w') := hid (fun w' q1 q2 q3 => .inr (.inl ⟨hlf.out, by unfold otherR; rw [q1, t6, q2]; rfl, by rw [f0, f1, f2, f3, f4, f5, f6, f7]; rfl, q3⟩))
        have hE2 : Hid (l.length ≠ 13 ∨ otherB 0 0 (kidsR l) (cntsR l) = false → otherR l = false) := hid (fun h => otherR_not (.inr h))
        generalize otherB 0 0 (kidsR l) (cntsR l) = BB at *
        have hrl : rest.length + 13 = l.length := by rw [t3, t5, List.length_drop, List.length_drop]; omega
        generalize rest.length = rl at *
        replace KC := hid KC
        replace hrl := hid hrl
        have hrL : rl ≤ 140737488355328 := by have := hrl.out; omega
        clear f0 f1 f2 f3 f4 f5 f6 f7 hB fin T4 t1 t2 t3 t4 t5 t6 t7
        by_cases hz : 0 < (rl : Int)
        · have hz2 : 0 < rl := by omega
          have hbad := hid (show leafR l = none ∧ otherR l = false from ⟨hlf.out, hE2.out (.inl (by have := hrl.out; omega))⟩)
          clear KC
          go_wp2_with fail
          refine KE.out.mono ?_
          rintro e w6 ⟨rfl, hw6⟩
          rw [hw6]
          clear hw6 w6
          go_wp2_with fail
          refine KF.out.mono ?_
          rintro e w6 ⟨rfl, hw6⟩
          rw [hw6]
          clear hw6 w6
          clear ln kn fn
          generalize (setAll w4 g 0 (otcells x0 x1 x2 x3 y0 y1 y2 y3).toList) = w5 at *
          have B2 := Blk.full (d := lfcells false (.slice none 0 0) 0) HZ5.out rfl
          have hb2 := hid (below_fill (b := w.heap.size) (Nat.le_refl _) (lfcells false (.slice none 0 0) 0).toList 0 D5.out)
          obtain ⟨lz, kz, fz⟩ := HZ5.out
          go_wp2_with fail
          show bodyPost _ _ _ _ _ (setAll w5 w.heap.size 0 (lfcells false (.slice none 0 0) 0).toList)
          generalize setAll w5 w.heap.size 0 (lfcells false (.slice none 0 0) 0).toList = w9 at *
          obtain ⟨l7, k7, f7⟩ := B2
          refine bodyPost_ret (v := .tuple #[lfval false (.slice none 0 0) 0, .int .i64 16]) (by simp [results, Try.results81, go_sem, k7]) rfl ?_
          exact EB.out w9 hbad.out hb2.out
        · have hz2 : rl = 0 := by omega
          subst hz2
          clear hz
          cases BB with
          | false =>
            have hbad := hid (show leafR l = none ∧ otherR l = false from ⟨hlf.out, hE2.out (.inr rfl)⟩)
            rw [show nodeC false = 9 from rfl] at KC
            go_wp2_with fail
            refine KE.out.mono ?_
            rintro e w6 ⟨rfl, hw6⟩
            rw [hw6]
            clear hw6 w6
            go_wp2_with fail
            refine KF.out.mono ?_
            rintro e w6 ⟨rfl, hw6⟩
            rw [hw6]
            clear hw6 w6
            clear ln kn fn
            generalize (setAll w4 g 0 (otcells x0 x1 x2 x3 y0 y1 y2 y3).toList) = w5 at *
            obtain ⟨ln, kn, fn⟩ := HN5.out
            go_wp2_with fail
            refine KC.out.mono ?_
            rintro e w6 ⟨rfl, hb6⟩
            have HZ6 := hid (HZ5.out.more hb6)
            have D6 := hid (below2 D5.out hb6 D5.out.size)
            replace HN5 := hid (HN5.out.more hb6)
            clear hb6 ln kn fn
            have B2 := Blk.full (d := lfcells false (.slice none 0 0) 0) HZ6.out rfl
            have hb2 := hid (below_fill (b := w.heap.size) (Nat.le_refl _) (lfcells false (.slice none 0 0) 0).toList 0 D6.out)
            obtain ⟨lz, kz, fz⟩ := HZ6.out
            go_wp2_with fail
            show bodyPost _ _ _ _ _ (setAll w6 w.heap.size 0 (lfcells false (.slice none 0 0) 0).toList)
            generalize setAll w6 w.heap.size 0 (lfcells false (.slice none 0 0) 0).toList = w9 at *
            obtain ⟨l7, k7, f7⟩ := B2
            refine bodyPost_ret (v := .tuple #[lfval false (.slice none 0 0) 0, .int .i64 16]) (by simp [results, Try.results81, go_sem, k7]) rfl ?_
            exact EB.out w9 hbad.out hb2.out
          | true =>
            rw [show nodeC true = 0 from rfl] at KC
            go_wp2_with fail
            refine KE.out.mono ?_
            rintro e w6 ⟨rfl, hw6⟩
            rw [hw6]
            clear hw6 w6
            go_wp2_with fail
            refine KF.out.mono ?_
            rintro e w6 ⟨rfl, hw6⟩
            rw [hw6]
            clear hw6 w6
            clear ln kn fn
            generalize (setAll w4 g 0 (otcells x0 x1 x2 x3 y0 y1 y2 y3).toList) = w5 at *
            obtain ⟨ln, kn, fn⟩ := HN5.out
            go_wp2_with fail
            refine KC.out.mono ?_
            rintro e w6 ⟨rfl, hb6⟩
            have HZ6 := hid (HZ5.out.more hb6)
            have D6 := hid (below2 D5.out hb6 D5.out.size)
            replace HN5 := hid (HN5.out.more hb6)
            clear hb6 ln kn fn
            have B2 := Blk.full (d := (otcells x0 x1 x2 x3 y0 y1 y2 y3)) HZ6.out rfl
            have hb2 := hid (below_fill (b := w.heap.size) (Nat.le_refl _) (otcells x0 x1 x2 x3 y0 y1 y2 y3).toList 0 D6.out)
            have SG := hid (sole_fill (b := w.heap.size) (otcells x0 x1 x2 x3 y0 y1 y2 y3).toList 0 w6)
            obtain ⟨lz, kz, fz⟩ := HZ6.out
            obtain ⟨ln, kn, fn⟩ := HN5.out
            go_wp2_with fail
            show bodyPost _ _ _ _ _ (setAll w6 w.heap.size 0 (otcells x0 x1 x2 x3 y0 y1 y2 y3).toList)
            generalize setAll w6 w.heap.size 0 (otcells x0 x1 x2 x3 y0 y1 y2 y3).toList = w9 at *
            obtain ⟨l7, k7, f7⟩ := B2
            refine bodyPost_ret (v := .tuple #[otval x0 x1 x2 x3 y0 y1 y2 y3, .int .i64 0]) (by simp [results, Try.results81, go_sem, k7]) rfl ?_
            exact hEG.out w9 (by have := hrl.out; omega) (by first | trivial | rfl) hb2.out
    · have hx1 : ((x : Int) == 1) = false := by simp; omega
      have hx0 : ((x : Int) == 0) = false := by simp; omega
      have hbad := hid (show leafR l = none ∧ otherR l = false from ⟨leafR_not (by
        rcases hmath.out with ⟨_, _, _, h⟩ | ⟨_, h⟩
        · exact .inl (by omega)
        · exact .inr (by omega)), otherR_not (by
        rcases hmath.out with ⟨_, _, _, h⟩ | ⟨_, h⟩
        · exact .inl (by omega)
        · exact .inr (.inl (by omega)))⟩)
      clear R3 h1 h0
      have B2 := Blk.full (d := lfcells false (.slice none 0 0) 0) Z3.out rfl
      have hb2 := hid (below_fill (b := w.heap.size) (Nat.le_refl _) (lfcells false (.slice none 0 0) 0).toList 0 D3.out)
      obtain ⟨lz, kz, fz⟩ := Z3.out
      go_wp2_with fail
      show bodyPost _ _ _ _ _ (setAll w3 w.heap.size 0 (lfcells false (.slice none 0 0) 0).toList)
      generalize setAll w3 w.heap.size 0 (lfcells false (.slice none 0 0) 0).toList = w9 at *
      obtain ⟨l7, k7, f7⟩ := B2
      refine bodyPost_ret (v := .tuple #[lfval false (.slice none 0 0) 0, .int .i64 16]) (by simp [results, Try.results81, go_sem, k7]) rfl ?_
      exact EB.out w9 hbad.out hb2.out
end Go.Proofs.Ytcklmemnjchdcaa

/-
  The document's own: are two nodes alike?
-/




namespace Go.Proofs.Ytcklmemnjchdcaa
open Go.RowKit
set_option linter.unusedVariables false
set_option linter.unusedSimpArgs false

def eqP (i x y : Int) (d : ByteArray) (i' x' y' : Int) (d' : ByteArray) : Bool := decide (i = i') && (decide (x = x') && (decide (y = y') && (d.toList == d'.toList)))
@[go_sem high] theorem eql_pt (i x y i' x' y' : Int) (d d' : ByteArray) (w : World) : (binOp .eql 168 (.agg #[.int .i64 i, .int .u32 x, .int .u32 y, .string d]) (.agg #[.int .i64 i', .int .u32 x', .int .u32 y', .string d'])).run Try.prog w = .ok (.bool (eqP i x y d i' x' y' d')) w := by
  rw [run_eql_struct]
  by_cases h1 : i = i' <;> by_cases h2 : x = x' <;> by_cases h3 : y = y' <;> cases h4 : (d.toList == d'.toList) <;> simp [go_sem, eqP, h1, h2, h3, h4]
@[go_sem high] theorem neq_pt (i x y i' x' y' : Int) (d d' : ByteArray) (w : World) : (binOp .neq 168 (.agg #[.int .i64 i, .int .u32 x, .int .u32 y, .string d]) (.agg #[.int .i64 i', .int .u32 x', .int .u32 y', .string d'])).run Try.prog w = .ok (.bool (!eqP i x y d i' x' y' d')) w := by
  rw [run_neq_struct]
  by_cases h1 : i = i' <;> by_cases h2 : x = x' <;> by_cases h3 : y = y' <;> cases h4 : (d.toList == d'.toList) <;> simp [go_sem, eqP, h1, h2, h3, h4]
def ptEq (P Q : Pt) : Bool := eqP P.id P.x P.y P.d Q.id Q.x Q.y Q.d
def allP (f g : Nat → Pt) : Nat → Bool
  | 0 => true
  | k + 1 => allP f g k && ptEq (f k) (g k)
def nSame (lf lf' : Bool) (n n' : Nat) (f g : Nat → Pt) (nx nx' : Int) (k k' c c' : Nat → Int) : Bool :=
  (lf == lf') && ((nx == nx') && (eqA (k 0) (k 1) (k 2) (k 3) (k' 0) (k' 1) (k' 2) (k' 3) && (eqA (c 0) (c 1) (c 2) (c 3) (c' 0) (c' 1) (c' 2) (c' 3) && (decide (n = n') && allP f g n))))
end Go.Proofs.Ytcklmemnjchdcaa

/-
  Nodes and their octets: there and back.
-/


namespace Go.Proofs.Ytcklmemnjchdcaa
open Go.RowKit
set_option linter.unusedVariables false
set_option linter.unusedSimpArgs false

theorem leB_byte (l : List UInt8) (i : Nat) (h : i < l.length) : leB (byteAt l i) 1 = (l.drop i).take 1 := by
  rw [← byte_of l i h]
  exact numOf_bytes _ 1 (by rw [List.length_take, List.length_drop]; omega)
theorem numsB_get (g : Nat → Int) (s : Nat) : ∀ n i, i < n → ((numsB g s n).drop (s * i)).take s = leB (g i).toNat s
  | 0, i, h => absurd h (Nat.not_lt_zero _)
  | n + 1, i, h => by
    simp only [numsB]
    have hl := numsB_length g s n
    have hs := leB_length s (g n).toNat
    by_cases e : i = n
    · subst e
      rw [List.drop_append_of_le_length (by omega), List.drop_of_length_le (by omega), List.nil_append, List.take_of_length_le (by omega)]
    · have hm : s * i + s ≤ s * n := by
        rw [← Nat.mul_succ]; exact Nat.mul_le_mul_left s (by omega)
      rw [List.drop_append_of_le_length (by omega), List.take_append_of_le_length (by rw [List.length_drop]; omega)]
      exact numsB_get g s n i (by omega)
theorem kids_back (k c : Nat → Int) (i : Nat) (h : i < 4) (h0 : 0 ≤ k i) (h1 : k i ≤ 255) : kidsR (otherO k c) i = k i := by
  have hl1 := numsB_length k 1 4
  have hl2 := numsB_length c 2 4
  have hl : (otherO k c).length = 13 := by simp [otherO, numsB_length, leB_length]
  have hd : (otherO k c).drop 1 = numsB k 1 4 ++ numsB c 2 4 := by
    unfold otherO
    rw [List.nil_append, List.append_assoc, List.drop_append_of_le_length (by rw [leB_length]; omega), List.drop_of_length_le (by rw [leB_length]; omega), List.nil_append]
  have hg := numsB_get k 1 4 i h
  rw [Nat.one_mul] at hg
  unfold kidsR
  rw [← byte_of _ _ (by omega), ← List.drop_drop, hd, List.drop_append_of_le_length (by omega), List.take_append_of_le_length (by rw [List.length_drop]; omega), hg, numOf_leB]
  omega
theorem cnts_back (k c : Nat → Int) (i : Nat) (h : i < 4) (h0 : 0 ≤ c i) (h1 : c i ≤ 65535) : cntsR (otherO k c) i = c i := by
  have hl1 := numsB_length k 1 4
  have hl2 := numsB_length c 2 4
  have hd : (otherO k c).drop 5 = numsB c 2 4 := by
    have e : otherO k c = ((leB (0 : Int).toNat 1) ++ numsB k 1 4) ++ numsB c 2 4 := by simp [otherO]
    rw [e, List.drop_append_of_le_length (by rw [List.length_append, leB_length]; omega), List.drop_of_length_le (by rw [List.length_append, leB_length]; omega), List.nil_append]
  have hg := numsB_get c 2 4 i h
  unfold cntsR
  rw [← List.drop_drop, hd, hg, numOf_leB]
  omega
theorem other_back (k c : Nat → Int) (h : otherB 0 0 k c = true) : leafR (otherO k c) = none ∧ otherR (otherO k c) = true ∧ (∀ i, i < 4 → kidsR (otherO k c) i = k i ∧ cntsR (otherO k c) i = c i) := by
  obtain ⟨_, _, hq⟩ := otherB_parts h
  have hb : byteAt (otherO k c) 0 = 0 := by
    have e : otherO k c = 0 :: (numsB k 1 4 ++ numsB c 2 4) := by simp [otherO, leB]
    rw [e]; rfl
  have hl : (otherO k c).length = 13 := by simp [otherO, numsB_length, leB_length]
  have hi : ∀ i, i < 4 → kidsR (otherO k c) i = k i ∧ cntsR (otherO k c) i = c i := fun i h4 => by
    obtain ⟨q1, q2, q3, q4, _⟩ := hq i h4
    exact ⟨kids_back k c i h4 q1 q2, cnts_back k c i h4 q3 q4⟩
  refine ⟨leafR_not (.inl (by omega)), ?_, hi⟩
  unfold otherR
  rw [hl, hb, otherB_congr 0 0 _ _ k c hi, h]
  rfl
theorem leaf_put (l : List UInt8) (L : List Pt) (h : leafR l = some L) : leafB L.length (ptAt L) (byteAt l 1) zf zf = true ∧ leafO (byteAt l 1) L.length (ptAt L) = l ∧ ∀ i, i < L.length → (ptAt L i).ok := by
  obtain ⟨h1, h2, h3, h4⟩ := leafR_some h
  obtain ⟨k1, k2, k3⟩ := rdK_back _ _ _ _ h3
  refine ⟨h4, ?_, fun i hi => (k3 i (by omega)).1⟩
  have a0 := leB_byte l 0 (by omega)
  have a1 := leB_byte l 1 (by omega)
  have a2 := leB_byte l 2 (by omega)
  rw [h2, List.drop_zero] at a0
  unfold leafO lheadB
  rw [k1, show ((byteAt l 1 : Nat) : Int).toNat = byteAt l 1 from rfl, show ((byteAt l 2 : Nat) : Int).toNat = byteAt l 2 from rfl, show (1 : Int).toNat = 1 from rfl, a0, a1, a2]
  rw [List.append_nil] at k2
  rw [← k2, List.nil_append, List.append_assoc, List.append_assoc]
  have t : ∀ (a b : Nat), (l.drop a).take b ++ l.drop (a + b) = l.drop a := fun a b => by
    rw [← List.drop_drop]; exact List.take_append_drop b (l.drop a)
  rw [t 2 1, t 1 1, List.take_append_drop]
theorem allL_congr (f g : Nat → Pt) : ∀ n, (∀ i, i < n → f i = g i) → allL f n = allL g n
  | 0, _ => rfl
  | n + 1, h => by
    have hg : goodL f n = goodL g n := by
      unfold goodL
      rw [h n (by omega)]
      by_cases h0 : n = 0
      · simp [h0]
      · rw [h (n - 1) (by omega)]
    simp only [allL]
    rw [allL_congr f g n fun i hi => h i (by omega), hg]
theorem leaf_back (nx : Int) (n : Nat) (f : Nat → Pt) (k c : Nat → Int) (hf : ∀ i, i < n → (f i).ok) (h : leafB n f nx k c = true) : ∃ L, leafR (leafO nx n f) = some L ∧ L.length = n ∧ (∀ j, j < n → ptAt L j = f j) ∧ (byteAt (leafO nx n f) 1 : Int) = nx := by
  obtain ⟨h1, h2, h3, h4, h5, h6⟩ := leafB_parts h
  obtain ⟨L, k1, k2, k3⟩ := rdK_all f n fun i hi => ⟨hf i hi, goodL_may (h6 i hi)⟩
  have hh : lheadB nx n = [1, UInt8.ofNat nx.toNat, UInt8.ofNat n] := by simp [lheadB, leB]
  have e : leafO nx n f = 1 :: UInt8.ofNat nx.toNat :: UInt8.ofNat n :: ptsB f n := by unfold leafO; rw [hh]; rfl
  have b0 : byteAt (leafO nx n f) 0 = 1 := by rw [e]; rfl
  have b1 : byteAt (leafO nx n f) 1 = nx.toNat := by
    rw [e]
    show (UInt8.ofNat nx.toNat).toNat = _
    have := byte_ofNat nx.toNat
    omega
  have b2 : byteAt (leafO nx n f) 2 = n := by
    rw [e]
    show (UInt8.ofNat n).toNat = _
    have := byte_ofNat n
    omega
  have b1' : (byteAt (leafO nx n f) 1 : Int) = nx := by rw [b1]; omega
  have hd : (leafO nx n f).drop 3 = ptsB f n := by rw [e]; rfl
  refine ⟨L, leafR_ok (by rw [e]; simp) b0 (by rw [hd, b2]; exact k1) ?_, k2, k3, b1'⟩
  rw [b1', k2]
  unfold leafB
  rw [decide_eq_true h1, decide_eq_true h2, decide_eq_true h3, allL_congr (ptAt L) f n k3, (allL_iff f n).2 h6]
  rfl
end Go.Proofs.Ytcklmemnjchdcaa

namespace Go.Proofs.Ytcklmemnjchdcaa
open Go.RowKit
set_option linter.unusedVariables false
set_option linter.unusedSimpArgs false

theorem nodeO_length {lf : Bool} {n : Nat} {f : Nat → Pt} {nx : Int} {k c : Nat → Int} (hB : nodeB lf n f nx k c = true) : (nodeO lf n f nx k c).length ≤ 119 ∧ 3 ≤ (nodeO lf n f nx k c).length := by
  cases lf with
  | true =>
    obtain ⟨n4, _, _, _, _, hg⟩ := leafB_parts hB
    have := ptsB_length f n fun i hi => (goodL_may (hg i hi)).2.2
    show (lheadB nx n ++ ptsB f n).length ≤ 119 ∧ 3 ≤ (lheadB nx n ++ ptsB f n).length
    rw [List.length_append, lheadB_length]
    omega
  | false =>
    show (otherO k c).length ≤ 119 ∧ 3 ≤ (otherO k c).length
    simp [otherO, numsB_length, leB_length]
end Go.Proofs.Ytcklmemnjchdcaa
