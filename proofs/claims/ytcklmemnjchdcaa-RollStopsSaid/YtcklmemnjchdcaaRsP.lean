/-
  Layer 18: a part as the law holds it against the page; Room.
-/
import Derived.Test.YtcklmemnjchdcaaProg
import Derived.Test.YtcklmemnjchdcaaRsZ
import Derived.Test.YtcklmemnjchdcaaRsN
import Derived.LoopTactic
import Derived.Deep.RegionWith
import Derived.Deep.DeepCutAuto

/-
  What the functions of package layout come to: which geometries may be, and where segments and their places are.
-/



namespace Go.Proofs.Ytcklmemnjchdcaa
open Go.RowKit
set_option linter.unusedVariables false

abbrev geo (n z : Int) : Value := .agg #[.int .i64 n, .int .i64 z]
def okB (n z : Int) : Bool := decide (6 ≤ n) && decide (n ≤ 32) && decide (4 ≤ z) && decide (z ≤ 32)
def chkI (n z : Int) : Int := if okB n z = true then 0 else 4
def secI (n z : Int) : Int := if okB n z = true then 9 + n * z else 0
def segB (n z k : Int) : Bool := okB n z && decide (0 ≤ k) && decide (k < n)
def segI (n z k : Int) : Int := if segB n z k = true then 9 + k * z else 0
def adB (n z k o : Int) : Bool := segB n z k && decide (0 ≤ o) && decide (o < z)
def adI (n z k o : Int) : Int := if adB n z k o = true then 9 + k * z + o else 0

theorem ok_true {n z : Int} (h : okB n z = true) : 6 ≤ n ∧ n ≤ 32 ∧ 4 ≤ z ∧ z ≤ 32 := by
  simp only [okB, Bool.and_eq_true, decide_eq_true_eq] at h; omega
theorem ok_ways (n z : Int) : (okB n z = true ∧ ¬ n < 6 ∧ ¬ 32 < n ∧ ¬ z < 4 ∧ ¬ 32 < z) ∨ (okB n z = false ∧ n < 6) ∨ (okB n z = false ∧ ¬ n < 6 ∧ 32 < n) ∨ (okB n z = false ∧ ¬ n < 6 ∧ ¬ 32 < n ∧ z < 4) ∨ (okB n z = false ∧ ¬ n < 6 ∧ ¬ 32 < n ∧ ¬ z < 4 ∧ 32 < z) := by
  have h : okB n z = true ↔ (6 ≤ n ∧ n ≤ 32 ∧ 4 ≤ z ∧ z ≤ 32) := by simp only [okB, Bool.and_eq_true, decide_eq_true_eq]; omega
  cases hb : okB n z
  · have : ¬ (6 ≤ n ∧ n ≤ 32 ∧ 4 ≤ z ∧ z ≤ 32) := fun x => by rw [h.2 x] at hb; cases hb
    simp only [Bool.false_eq_true, false_and, true_and, false_or]
    omega
  · have := h.1 hb
    left
    refine ⟨rfl, ?_, ?_, ?_, ?_⟩ <;> omega

theorem lcheck_any (n z : Int) (w : World) :
    Calls Try.prog 18 #[geo n z] w fun e w' => e = .returned (.int .i64 (chkI n z)) ∧ Below w.heap.size w w' := by
  unfold chkI
  rcases ok_ways n z with ⟨e, h1, h2, h3, h4⟩ | ⟨e, h1⟩ | ⟨e, h1, h2⟩ | ⟨e, h1, h2, h3⟩ | ⟨e, h1, h2, h3, h4⟩
  all_goals
    rw [e]
    clear e
    go_enter Try.func18, Try.ntmps18
    go_wp2
    go_ret
    exact ⟨rfl, by go_grown⟩

theorem mul_in {k z : Int} (hk : 0 ≤ k) (hk' : k ≤ 32) (hz : 4 ≤ z) (hz' : z ≤ 32) : 0 ≤ k * z ∧ k * z ≤ 1024 := by
  exact ⟨Int.mul_nonneg hk (by omega), by have := Int.mul_le_mul hk' hz' (by omega) (by omega); omega⟩

theorem lsectors_any (n z : Int) (w : World) :
    Calls Try.prog 8 #[geo n z] w fun e w' => e = .returned (.int .i64 (secI n z)) ∧ Below w.heap.size w w' := by
  have K := fun w => lcheck_any n z w
  unfold chkI at K
  unfold secI
  cases h : okB n z
  · rw [h] at K
    have K := hid K
    go_enter Try.func8, Try.ntmps8
    go_wp2_with fail
    refine (K.out _).mono ?_
    rintro e w1 ⟨rfl, hb1⟩
    obtain ⟨B0, H⟩ := boxed1 hb1
    clear hb1
    go_wp2
    go_ret
    exact ⟨rfl, H⟩
  · have o := ok_true h
    rw [h] at K
    have K := hid K
    have b := mul_in (k := n) (z := z) (by omega) (by omega) (by omega) (by omega)
    have m1 : IntKind.i64.wrap (n * z) = n * z := IntWalk.i64_in _ (by omega)
    have m2 : IntKind.i64.wrap (9 + n * z) = 9 + n * z := IntWalk.i64_in _ (by omega)
    clear b o h
    go_enter Try.func8, Try.ntmps8
    go_wp2_with fail
    refine (K.out _).mono ?_
    rintro e w1 ⟨rfl, hb1⟩
    obtain ⟨B0, H⟩ := boxed1 hb1
    obtain ⟨l0, k0, f0⟩ := B0
    clear hb1
    go_wp2
    go_ret
    exact ⟨rfl, H⟩

theorem segment_any (n z k : Int) (w : World) :
    Calls Try.prog 37 #[geo n z, .int .i64 k] w fun e w' => e = .returned (.int .i64 (segI n z k)) ∧ Below w.heap.size w w' := by
  have K := fun w => lcheck_any n z w
  unfold chkI at K
  unfold segI segB
  cases h : okB n z
  · rw [h] at K
    have K := hid K
    go_enter Try.func37, Try.ntmps37
    go_wp2_with fail
    refine (K.out _).mono ?_
    rintro e w1 ⟨rfl, hb1⟩
    obtain ⟨B0, H⟩ := boxed1 hb1
    clear hb1
    go_wp2
    go_ret
    exact ⟨rfl, H⟩
  · have o := ok_true h
    rw [h] at K
    have K := hid K
    by_cases hin : 0 ≤ k ∧ k < n
    · have b := mul_in (k := k) (z := z) (by omega) (by omega) (by omega) (by omega)
      have m1 : IntKind.i64.wrap (k * z) = k * z := IntWalk.i64_in _ (by omega)
      have m2 : IntKind.i64.wrap (9 + k * z) = 9 + k * z := IntWalk.i64_in _ (by omega)
      have h1 : ¬ k < 0 := by omega
      have h2 : ¬ n ≤ k := by omega
      have d1 : decide (0 ≤ k) = true := decide_eq_true hin.1
      have d2 : decide (k < n) = true := decide_eq_true hin.2
      rw [d1, d2]
      clear b o h hin d1 d2
      go_enter Try.func37, Try.ntmps37
      go_wp2_with fail
      refine (K.out _).mono ?_
      rintro e w1 ⟨rfl, hb1⟩
      obtain ⟨B0, H⟩ := boxed1 hb1
      obtain ⟨l0, k0, f0⟩ := B0
      clear hb1
      go_wp2
      go_ret
      exact ⟨rfl, H⟩
    · have e : (true && decide (0 ≤ k) && decide (k < n)) = false := by
        simp only [Bool.true_and, Bool.and_eq_false_iff, decide_eq_false_iff_not]; omega
      rw [e]
      have ways : k < 0 ∨ (¬ k < 0 ∧ n ≤ k) := by omega
      clear o h hin e
      rcases ways with h1 | ⟨h1, h2⟩
      all_goals
        go_enter Try.func37, Try.ntmps37
        go_wp2_with fail
        refine (K.out _).mono ?_
        rintro e w1 ⟨rfl, hb1⟩
        obtain ⟨B0, H⟩ := boxed1 hb1
        obtain ⟨l0, k0, f0⟩ := B0
        clear hb1
        go_wp2
        go_ret
        exact ⟨rfl, H⟩

theorem address_any (n z k o : Int) (w : World) :
    Calls Try.prog 22 #[geo n z, .int .i64 k, .int .i64 o] w fun e w' => e = .returned (.tuple #[.int .i64 (adI n z k o), .bool (adB n z k o)]) ∧ Below w.heap.size w w' := by
  have K := fun w => segment_any n z k w
  unfold segI at K
  unfold adI adB
  cases h : segB n z k
  · rw [h] at K
    have K := hid K
    go_enter Try.func22, Try.ntmps22
    go_wp2_with fail
    refine (K.out _).mono ?_
    rintro e w1 ⟨rfl, hb1⟩
    obtain ⟨B0, H⟩ := boxed1 hb1
    clear hb1
    go_wp2
    go_ret2
    exact ⟨rfl, H⟩
  · have g : okB n z = true ∧ 0 ≤ k ∧ k < n := by
      unfold segB at h
      simpa only [Bool.and_eq_true, decide_eq_true_eq, and_assoc] using h
    have q := ok_true g.1
    have b := mul_in (k := k) (z := z) (by omega) (by omega) (by omega) (by omega)
    rw [h] at K
    have hf : 9 ≤ 9 + k * z ∧ 9 + k * z ≤ 1033 := by omega
    simp only [if_pos] at K
    have zz := q.2.2
    generalize 9 + k * z = f at *
    have K := hid K
    have f0 : (f == 0) = false := by simp; omega
    have f1 : f ≠ 0 := by omega
    clear b q g h
    by_cases hin : 0 ≤ o ∧ o < z
    · have h1 : ¬ o < 0 := by omega
      have h2 : ¬ z ≤ o := by omega
      have d1 : decide (0 ≤ o) = true := decide_eq_true hin.1
      have d2 : decide (o < z) = true := decide_eq_true hin.2
      have m1 : IntKind.i64.wrap (f + o) = f + o := IntWalk.i64_in _ (by omega)
      rw [d1, d2]
      clear hin d1 d2
      go_enter Try.func22, Try.ntmps22
      go_wp2_with fail
      refine (K.out _).mono ?_
      rintro e w1 ⟨rfl, hb1⟩
      obtain ⟨B0, H⟩ := boxed1 hb1
      obtain ⟨l0, k0, f0⟩ := B0
      clear hb1
      go_wp2
      go_ret2
      exact ⟨rfl, H⟩
    · have e : (true && decide (0 ≤ o) && decide (o < z)) = false := by
        simp only [Bool.true_and, Bool.and_eq_false_iff, decide_eq_false_iff_not]; omega
      rw [e]
      have ways : o < 0 ∨ (¬ o < 0 ∧ z ≤ o) := by omega
      clear hin e
      rcases ways with h1 | ⟨h1, h2⟩
      all_goals
        go_enter Try.func22, Try.ntmps22
        go_wp2_with fail
        refine (K.out _).mono ?_
        rintro e w1 ⟨rfl, hb1⟩
        obtain ⟨B0, H⟩ := boxed1 hb1
        obtain ⟨l0, k0, f0⟩ := B0
        clear hb1
        go_wp2
        go_ret2
        exact ⟨rfl, H⟩

end Go.Proofs.Ytcklmemnjchdcaa

/-
  Layer 18: where entries go, as data.
-/

namespace Go.Proofs.Ytcklmemnjchdcaa
open Go.RowKit
set_option linter.unusedVariables false
set_option linter.unusedSimpArgs false

/-- Entries as a row's elements. -/
def enT : RowT En := { ty := 70, sl := 36, sz := 2, bytes := 16, zero := .agg #[.int .i64 0, .int .i64 0], cells := ecells, dflt := ⟨0, 0⟩ }
theorem enOk : enT.Ok := ⟨Try.underlying36, by kernel_rfl, rfl, by decide, fun _ => rfl, fun x u hu => by
  simp [enT, ecells] at hu
  rcases hu with rfl | rfl <;> rfl⟩
def inT : RowT Int := { ty := 3, sl := 35, sz := 1, bytes := 8, zero := .int .i64 0, cells := fun x => [.int .i64 x], dflt := 0 }
theorem inOk : inT.Ok := ⟨Try.underlying35, by kernel_rfl, rfl, by decide, fun _ => rfl, fun x u hu => by
  simp [inT] at hu
  rcases hu with rfl; rfl⟩
abbrev penAt (L : List En) (i : Nat) : En := atR enT L i
abbrev inAt (L : List Int) (i : Nat) : Int := atR inT L i
theorem en_rowp {w : World} {q : Option Addr} {L : List En} (h : RowOf enT w q L) : RowP w q 2 L.length (fun i => ecells (penAt L i)) := h
theorem in_rowp {w : World} {q : Option Addr} {L : List Int} (h : RowOf inT w q L) : RowP w q 1 L.length (fun i => [.int .i64 (inAt L i)]) := h
theorem drop_at {α : Type} (T : RowT α) (L : List α) (k : Nat) (h : k < L.length) : L.drop k = atR T L k :: L.drop (k + 1) := by
  rw [atR_eq L k h]; exact List.drop_eq_getElem_cons h

/-- How many are written. -/
def wrN (L : List En) : Nat := L.countP (fun e => decide (e.k = 1))
theorem wrN_le (L : List En) : wrN L ≤ L.length := List.countP_le_length
theorem wrN_cons (x : En) (L : List En) : wrN (x :: L) = wrN L + if x.k = 1 then 1 else 0 := by
  unfold wrN
  rw [List.countP_cons]
  simp
theorem wrN_append (L M : List En) : wrN (L ++ M) = wrN L + wrN M := List.countP_append
theorem wrN_take (L : List En) (k : Nat) (h : k < L.length) : wrN (L.take (k + 1)) = wrN (L.take k) + if (penAt L k).k = 1 then 1 else 0 := by
  rw [List.take_add_one, List.getElem?_eq_getElem h, wrN_append, ← atR_eq (T := enT) L k h]
  show wrN (L.take k) + wrN [penAt L k] = _
  rw [wrN_cons]
  simp [wrN]

/-- How many go, one behind the other, if so many written ones may; and of one part. -/
def nxt (x : En) (left : Int) : Int := if x.k = 1 then left - 1 else left
theorem nxt_ways (x : En) (left : Int) : (x.k = 1 ∧ nxt x left = left - 1) ∨ (¬ x.k = 1 ∧ nxt x left = left) := by
  unfold nxt
  by_cases h : x.k = 1
  · exact .inl ⟨h, if_pos h⟩
  · exact .inr ⟨h, if_neg h⟩
def fitN : List En → Int → Nat
  | [], _ => 0
  | x :: l, left => if nxt x left < 0 then 0 else fitN l (nxt x left) + 1
def fit (L : List En) (left : Int) : Nat := min (fitN L left) 64
theorem fitN_le : ∀ (L : List En) (left : Int), fitN L left ≤ L.length
  | [], _ => Nat.le_refl _
  | x :: l, left => by
    unfold fitN
    split
    · exact Nat.zero_le _
    · exact Nat.succ_le_succ (fitN_le l _)
theorem fit_le (L : List En) (left : Int) : fit L left ≤ L.length := Nat.le_trans (Nat.min_le_left _ _) (fitN_le L left)
theorem fit_64 (L : List En) (left : Int) : fit L left ≤ 64 := Nat.min_le_right _ _
theorem fitN_step (L : List En) (left : Int) (k : Nat) (h : k < L.length) :
    fitN (L.drop k) (left - wrN (L.take k)) = if left - wrN (L.take (k + 1)) < 0 then 0 else fitN (L.drop (k + 1)) (left - wrN (L.take (k + 1))) + 1 := by
  rw [drop_at enT L k h, wrN_take L k h]
  show (if nxt (penAt L k) (left - wrN (L.take k)) < 0 then 0 else fitN _ (nxt (penAt L k) (left - wrN (L.take k))) + 1) = _
  have e : nxt (penAt L k) (left - wrN (L.take k)) = left - ((wrN (L.take k) + if (penAt L k).k = 1 then 1 else 0 : Nat) : Int) := by
    rcases nxt_ways (penAt L k) (left - wrN (L.take k)) with ⟨h1, h2⟩ | ⟨h1, h2⟩
    · rw [h2, if_pos h1]; omega
    · rw [h2, if_neg h1]; omega
  rw [e]
theorem fitN_wr : ∀ (L : List En) (left : Int) (k : Nat), 0 ≤ left → k ≤ fitN L left → (wrN (L.take k) : Int) ≤ left
  | [], left, k, h0, hk => by simp [wrN]; exact h0
  | x :: l, left, 0, h0, hk => by simp [wrN]; exact h0
  | x :: l, left, k + 1, h0, hk => by
    unfold fitN at hk
    split at hk
    · omega
    · rename_i hn
      have := fitN_wr l _ k (by omega) (Nat.le_of_succ_le_succ hk)
      rw [List.take_succ_cons, wrN_cons]
      rcases nxt_ways x left with ⟨h1, h2⟩ | ⟨h1, h2⟩
      · rw [if_pos h1]; omega
      · rw [if_neg h1]; omega
theorem fit_wr (L : List En) (left : Int) (h0 : 0 ≤ left) : (wrN (L.take (fit L left)) : Int) ≤ left := fitN_wr L left _ h0 (Nat.min_le_left _ _)
theorem fit_pos {L : List En} {left : Int} (h : L ≠ []) (h1 : 1 ≤ left) : 1 ≤ fit L left := by
  cases L with
  | nil => exact absurd rfl h
  | cons x l =>
    have : 1 ≤ fitN (x :: l) left := by
      unfold fitN
      split
      · rename_i hn; rcases nxt_ways x left with ⟨h1, h2⟩ | ⟨h1, h2⟩ <;> omega
      · omega
    unfold fit
    omega

/-- A place of the log. -/
structure Plc where
  seg : Int
  off : Int
  next : Int
/-- A part: where, whether it is the last, what. -/
structure PtD where
  pl : Plc
  last : Bool
  es : List En

/-- The segment goes on, or the next one begins. -/
def stepP (z : Int) (p : Plc) (fr : List Int) : Option (Plc × List Int) :=
  if z - p.off < 2 then
    match fr with
    | [] => none
    | x :: xs => some (⟨p.next, 0, x⟩, xs)
  else some (p, fr)
def partP (z : Int) (q : Plc) (l : List En) : PtD := ⟨q, decide (fit l (z - q.off - 1) = l.length), l.take (fit l (z - q.off - 1))⟩
def behindP (z : Int) (q : Plc) (l : List En) : Plc := ⟨q.seg, q.off + (1 + wrN (l.take (fit l (z - q.off - 1)))), q.next⟩
def planK (z : Int) : Nat → Plc → List Int → List En → Option (List PtD × Plc × List Int)
  | 0, p, fr, _ => some ([], p, fr)
  | k + 1, p, fr, l => if l = [] then some ([], p, fr) else
    match stepP z p fr with
    | none => none
    | some (q, f) => (planK z k (behindP z q l) f (l.drop (fit l (z - q.off - 1)))).map fun r => (partP z q l :: r.1, r.2)
/-- All of it. -/
def planP (z : Int) (p : Plc) (fr : List Int) (l : List En) : Option (List PtD × Plc × List Int) := planK z l.length p fr l

theorem planK_nil (z : Int) (p : Plc) (fr : List Int) : ∀ k, planK z k p fr [] = some ([], p, fr)
  | 0 => rfl
  | k + 1 => by simp [planK]
theorem planK_none {z : Int} {k : Nat} {p : Plc} {fr : List Int} {l : List En} (hl : l ≠ []) (hk : l.length ≤ k) (h : stepP z p fr = none) : planK z k p fr l = none := by
  cases k with
  | zero => exact absurd (List.eq_nil_of_length_eq_zero (by omega)) hl
  | succ k => simp [planK, hl, h]
theorem planK_step {z : Int} {k : Nat} {p q : Plc} {fr f : List Int} {l : List En} (hl : l ≠ []) (h : stepP z p fr = some (q, f)) :
    planK z (k + 1) p fr l = (planK z k (behindP z q l) f (l.drop (fit l (z - q.off - 1)))).map fun r => (partP z q l :: r.1, r.2) := by
  simp [planK, hl, h]

/-- A place, and free segments, that may be. -/
structure GoodP (n z : Int) (p : Plc) (fr : List Int) : Prop where
  n6 : 6 ≤ n
  n32 : n ≤ 32
  z4 : 4 ≤ z
  z32 : z ≤ 32
  s0 : 0 ≤ p.seg
  sn : p.seg < n
  o0 : 0 ≤ p.off
  oz : p.off ≤ z
  x0 : 0 ≤ p.next
  xn : p.next < n
  fr : ∀ x ∈ fr, 0 ≤ x ∧ x < n
theorem GoodP.step {n z : Int} {p q : Plc} {fr f : List Int} (G : GoodP n z p fr) (h : stepP z p fr = some (q, f)) : GoodP n z q f ∧ q.off + 2 ≤ z ∧ f.length ≤ fr.length := by
  unfold stepP at h
  split at h
  · cases fr with
    | nil => simp at h
    | cons x xs =>
      simp at h
      obtain ⟨rfl, rfl⟩ := h
      have hx := G.fr x (List.mem_cons_self)
      exact ⟨⟨G.n6, G.n32, G.z4, G.z32, G.x0, G.xn, by simp, by have := G.z4; simp; omega, hx.1, hx.2, fun y hy => G.fr y (List.mem_cons_of_mem _ hy)⟩, by have := G.z4; simp; omega, by simp⟩
  · rename_i h0
    simp at h
    obtain ⟨rfl, rfl⟩ := h
    exact ⟨G, by omega, Nat.le_refl _⟩
theorem GoodP.behind {n z : Int} {q : Plc} {f : List Int} (G : GoodP n z q f) (ho : q.off + 2 ≤ z) (l : List En) : GoodP n z (behindP z q l) f := by
  have h := fit_wr l (z - q.off - 1) (by omega)
  have h0 := G.o0
  exact ⟨G.n6, G.n32, G.z4, G.z32, G.s0, G.sn, by simp only [behindP]; omega, by simp only [behindP]; omega, G.x0, G.xn, G.fr⟩
end Go.Proofs.Ytcklmemnjchdcaa

/-
  Where a sector is: the search through the segments, and what it finds.
-/


namespace Go.Proofs.Ytcklmemnjchdcaa
open Go.RowKit
set_option linter.unusedVariables false

def whB (n z s : Int) : Bool := okB n z && decide (9 ≤ s) && decide (s < 9 + n * z)
def whQ (n z s : Int) : Int := if whB n z s = true then (s - 9) / z else 0
def whR (n z s : Int) : Int := if whB n z s = true then (s - 9) % z else 0

end Go.Proofs.Ytcklmemnjchdcaa

/-
  Package plan: what Parts calls.
-/


namespace Go.Proofs.Ytcklmemnjchdcaa
open Go.RowKit
set_option linter.unusedVariables false
set_option linter.unusedSimpArgs false

set_option maxRecDepth 100000 in
set_option maxHeartbeats 4000000 in
theorem written_any (nx : Int) (la : Bool) (p : Option Addr) (cap : Nat) (L : List En) (h1 : L.length ≤ cap) (h2 : cap ≤ maxLen) (w : World) (HR : RowOf enT w p L) :
    Calls Try.prog 28 #[smval nx la p L.length cap] w fun e w' => e = .returned (.int .i64 (wrN L : Int)) ∧ Below w.heap.size w w' := by
  have hb0 : Below w.heap.size w (w.alloc (.cells (smcells nx la p L.length cap) 83)) := (Below.refl _ _).alloc (Nat.le_refl _) _
  have hR0 := hid (en_rowp HR)
  have D0 := hid hb0
  unfold maxLen at h2
  clear HR hb0
  have hst := hid (fun k h => wrN_take L k h)
  have hle := hid (fun k => wrN_le (L.take k))
  have hfull : Hid (wrN (L.take L.length) = wrN L) := hid (by rw [List.take_length])
  have hz : Hid (wrN (L.take 0) = 0) := hid (by rw [List.take_zero]; rfl)
  obtain ⟨n, hn⟩ : ∃ n, L.length = n := ⟨_, rfl⟩
  rw [hn] at h1 hR0 hfull hst D0 ⊢
  have htk := hid (fun k => (List.length_take (i := k) (l := L)))
  clear hn
  go_enter Try.func28, Try.ntmps28
  go_wp2_with fail
  go_loopw [3, 9, 5] (fun c i zz wx => ∃ k : Nat, k ≤ n ∧ i = .int .i64 (k : Int) ∧ c = .int .i64 (wrN (L.take k) : Int) ∧ Below w.heap.size w wx) (fun _ i _ _ => n - (intOf i).toNat)
  case atStart => exact ⟨0, by omega, rfl, by rw [hz.out]; rfl, D0.out⟩
  case round =>
    obtain ⟨k, hk, rfl, rfl, hb⟩ := hrel
    by_cases hlt : k < n
    · obtain ⟨b, o, rfl, R0⟩ := hR0.out.row (by omega)
      have R := R0.more hb
      have z0 := R.at0 hlt (v := .int .i64 (penAt L k).k) rfl
      have z1 := R.at1 hlt (v := .int .i64 (penAt L k).i) rfl
      have hbG := hid (hb.alloc hb.size (.cells #[.int .i64 (penAt L k).k, .int .i64 (penAt L k).i] 70))
      have hl := hle.out k
      rw [htk.out] at hl
      have hs := hst.out k hlt
      clear R R0 hb
      by_cases hk1 : (penAt L k).k = 1
      · rw [if_pos hk1] at hs
        replace hs := hid hs
        rw [hk1] at z0 hbG
        replace hk1 := hid hk1
        generalize wrN (L.take k) = c at *
        have uc : IntKind.i64.wrap ((c : Int) + 1) = (c : Int) + 1 := IntWalk.i64_in _ (by omega)
        go_wp2_with fail
        go_roundw
        case rel => exact ⟨k + 1, by omega, by go_num, by rw [hs.out]; go_num, hbG.out⟩
        case measure => simp [intOf]; omega
      · rw [if_neg hk1] at hs
        replace hs := hid hs
        have hk1' : ((penAt L k).k == 1) = false := by simpa using hk1
        clear hk1
        go_wp2_with fail
        go_roundw
        case rel => exact ⟨k + 1, by omega, by go_num, by rw [hs.out]; rfl, hbG.out⟩
        case measure => simp [intOf]; omega
    · obtain rfl : k = n := by omega
      rw [hfull.out]
      replace hb := hid hb
      go_wp2
      go_ret
      exact ⟨rfl, hb.out⟩

set_option maxRecDepth 100000 in
set_option maxHeartbeats 2000000 in
theorem eclone_any (p : Option Addr) (cap : Nat) (L : List En) (hl : L.length ≤ 1000000) (w : World) (R : RowOf enT w p L) (hp : p = none → L = []) :
    Calls Try.prog 42 #[.slice p L.length cap] w fun e w' => ∃ v, e = .returned v ∧ RowOwn enT w' w.heap.size v L ∧ Below w.heap.size w w' := by
  rcases p with _ | x
  · obtain rfl := hp rfl
    have ke := fun w => Lib.run_eql_slice_nil_nil (P := Try.prog) w (t := 36) (e := 70) 0 cap Try.underlying36
    go_enter Try.func42, Try.ntmps42
    go_wp2_with fail
    go_ret
    exact ⟨_, rfl, RowOwn.nil _ _, Below.refl _ _⟩
  · have ke := fun w => Lib.run_eql_slice_some_nil (P := Try.prog) w (t := 36) (e := 70) x L.length cap Try.underlying36
    have OM : RowOwn enT (w.alloc (.cells #[] 70)) w.heap.size (.slice (some ⟨w.heap.size, 0, none⟩) 0 0) [] := World.ownsRow_made (size := 2) w #[] 0 (Nat.le_refl _) (Nat.zero_le _) rfl
    have hb0 : Below w.heap.size w (w.alloc (.cells #[] 70)) := Below.alloc (Below.refl _ _) (Nat.le_refl _) _
    obtain ⟨v', w', hr, O', gr, mv⟩ := append_row enOk w.heap.size 36 (w.alloc (.cells #[] 70)) _ [] OM (some x) cap L (RowOf.more R hb0) (by show (0 + L.length) * 16 ≤ _; omega) (by unfold maxLen; simp; omega) (by simp)
    have E : Hid (RowOwn enT w' w.heap.size v' L ∧ Below w.heap.size w w') := hid ⟨O', Below.grown hb0 gr (by simp) fun k hk => (OM.within k hk).1⟩
    clear R OM hb0 O' gr mv hp
    replace hl := hid hl
    go_enter Try.func42, Try.ntmps42
    go_wp2_with (at_builtin; go_loud (refine Lib.wpList_append_run _ rfl _ _ _ _ rfl _ _ rfl rfl _ _ hr ?_))
    go_ret
    exact ⟨_, rfl, E.out.1, E.out.2⟩
set_option maxRecDepth 100000 in
set_option maxHeartbeats 2000000 in
theorem iclone_any (p : Option Addr) (cap : Nat) (L : List Int) (hl : L.length ≤ 17592186044416) (w : World) (R : RowOf inT w p L) (hp : p = none → L = []) :
    Calls Try.prog 43 #[.slice p L.length cap] w fun e w' => ∃ v, e = .returned v ∧ RowOwn inT w' w.heap.size v L ∧ Below w.heap.size w w' := by
  rcases p with _ | x
  · obtain rfl := hp rfl
    have ke := fun w => Lib.run_eql_slice_nil_nil (P := Try.prog) w (t := 35) (e := 3) 0 cap Try.underlying35
    go_enter Try.func43, Try.ntmps43
    go_wp2_with fail
    go_ret
    exact ⟨_, rfl, RowOwn.nil _ _, Below.refl _ _⟩
  · have ke := fun w => Lib.run_eql_slice_some_nil (P := Try.prog) w (t := 35) (e := 3) x L.length cap Try.underlying35
    have OM : RowOwn inT (w.alloc (.cells #[] 3)) w.heap.size (.slice (some ⟨w.heap.size, 0, none⟩) 0 0) [] := World.ownsRow_made (size := 1) w #[] 0 (Nat.le_refl _) (Nat.zero_le _) rfl
    have hb0 : Below w.heap.size w (w.alloc (.cells #[] 3)) := Below.alloc (Below.refl _ _) (Nat.le_refl _) _
    obtain ⟨v', w', hr, O', gr, mv⟩ := append_row inOk w.heap.size 35 (w.alloc (.cells #[] 3)) _ [] OM (some x) cap L (RowOf.more R hb0) (by show (0 + L.length) * 8 ≤ _; omega) (by unfold maxLen; simp; omega) (by simp)
    have E : Hid (RowOwn inT w' w.heap.size v' L ∧ Below w.heap.size w w') := hid ⟨O', Below.grown hb0 gr (by simp) fun k hk => (OM.within k hk).1⟩
    clear R OM hb0 O' gr mv hp
    replace hl := hid hl
    go_enter Try.func43, Try.ntmps43
    go_wp2_with (at_builtin; go_loud (refine Lib.wpList_append_run _ rfl _ _ _ _ rfl _ _ rfl rfl _ _ hr ?_))
    go_ret
    exact ⟨_, rfl, E.out.1, E.out.2⟩
end Go.Proofs.Ytcklmemnjchdcaa

/-
  Package plan: how many entries a part takes; which entries, and which places, may not be.
-/

namespace Go.Proofs.Ytcklmemnjchdcaa
open Go.RowKit
set_option linter.unusedVariables false
set_option linter.unusedSimpArgs false

set_option maxRecDepth 100000 in
theorem fitc_any (B : Nat) (v : Int) (x : En) (h1 : -100000 ≤ v) (h2 : v ≤ 100000) (w : World) (HB : Blk w B #[.int .i64 v]) :
    Calls Try.prog 53 #[.agg #[.int .i64 x.k, .int .i64 x.i], .pointer (some ⟨B, 0, none⟩)] w fun e w' => e = .returned (.bool (decide (nxt x v < 0))) ∧ Blk w' B #[.int .i64 (nxt x v)] ∧ Sole (fun j => j = B) w w' := by
  have hlt := HB.lt
  have HB1 := HB.alloc (.cells #[.int .i64 x.k, .int .i64 x.i] 70)
  have S1 : Sole (fun j => j = B) w (w.alloc (.cells #[.int .i64 x.k, .int .i64 x.i] 70)) := Sole.alloc _ _
  rcases nxt_ways x v with ⟨g1, g2⟩ | ⟨g1, g2⟩
  · have hw : IntKind.i64.wrap (v - 1) = nxt x v := by rw [g2]; exact IntWalk.i64_in _ ⟨by omega, by omega⟩
    generalize nxt x v = u at *
    have B2 := HB.set 0 (.int .i64 u) (by simp)
    rw [show (#[Value.int .i64 v].setIfInBounds 0 (.int .i64 u)) = #[.int .i64 u] from rfl] at B2
    replace B2 := B2.alloc (.cells #[.int .i64 x.k, .int .i64 x.i] 70)
    have S2 : Sole (fun j => j = B) w ((w.setCell ⟨B, 0, none⟩ (.int .i64 u)).alloc (.cells #[.int .i64 x.k, .int .i64 x.i] 70)) := (Sole.setCell (S := fun j => j = B) (b := B) (o := 0) w (.int .i64 u) rfl).trans (Sole.alloc _ _)
    obtain ⟨l0, k0, f0⟩ := HB
    have E := hid (And.intro B2 S2)
    rw [g1] at E ⊢
    clear B2 S2 S1 HB1 g2 h1 h2
    go_enter Try.func53, Try.ntmps53
    go_wp2
    go_ret
    exact ⟨rfl, E.out.1, E.out.2⟩
  · have g1' : (x.k == 1) = false := by simpa using g1
    generalize nxt x v = u at *
    subst g2
    obtain ⟨l0, k0, f0⟩ := HB
    have E := hid (And.intro HB1 S1)
    clear S1 HB1 h1 h2 g1
    go_enter Try.func53, Try.ntmps53
    go_wp2
    go_ret
    exact ⟨rfl, E.out.1, E.out.2⟩

def ixI (F n : Nat) : Int := if F = n then -1 else F
set_option maxRecDepth 100000 in
set_option maxHeartbeats 2000000 in
theorem findex_any (B : Nat) (left : Int) (L : List En) (p : Option Addr) (cap : Nat) (h1 : L.length ≤ cap) (h2 : cap ≤ maxLen) (hl0 : 0 ≤ left) (hl1 : left ≤ 1000) (w : World) (HB : Blk w B #[.int .i64 left]) (HR : RowOf enT w p L) (hne : L.length ≠ 0 → ∀ b o, p = some ⟨b, o, none⟩ → b ≠ B) :
    Calls Try.prog 52 #[.slice p L.length cap, .func (.func 53) #[] #[.pointer (some ⟨B, 0, none⟩)]] w fun e w' => e = .returned (.int .i64 (ixI (fitN L left) L.length)) ∧ Sole (fun j => j = B) w w' := by
  have hR0 := hid (en_rowp HR)
  have hstep := hid (fun k h => fitN_step L left k h)
  have hwt := hid (fun k h => wrN_take L k h)
  have hnil : Hid (fitN (L.drop L.length) (left - wrN (L.take L.length)) = 0) := hid (by rw [List.drop_length]; rfl)
  obtain ⟨n, hn⟩ : ∃ n, L.length = n := ⟨_, rfl⟩
  rw [hn] at h1 hR0 hstep hwt hnil hne ⊢
  have h0 : Hid (fitN L left = 0 + fitN (L.drop 0) (left - wrN (L.take 0))) := hid (by simp [wrN])
  have hn63 : (n : Int) ≤ 9223372036854775807 := by unfold maxLen at h2; omega
  have HBh := hid HB
  have hw0 : Hid (wrN (L.take 0) = 0) := hid rfl
  generalize fitN L left = F at *
  clear HB HR hn
  go_enter Try.func52, Try.ntmps52
  go_wp2_with fail
  go_loopw [8] (fun i wr => ∃ k : Nat, k ≤ n ∧ i = .int .i64 (k : Int) ∧ F = k + fitN (L.drop k) (left - wrN (L.take k)) ∧ 0 ≤ left - (wrN (L.take k) : Int) ∧ Blk wr B #[.int .i64 (left - wrN (L.take k))] ∧ Sole (fun j => j = B) w wr) (fun i _ => n - (intOf i).toNat)
  case atStart => exact ⟨0, by omega, rfl, h0.out, by rw [hw0.out]; omega, by rw [hw0.out]; simpa using HBh.out, Sole.refl _ _⟩
  case round =>
    obtain ⟨k, hk, rfl, hF, hge, BB, SS⟩ := hrel
    have hFh := hid hF
    have SSh := hid SS
    by_cases hlt : k < n
    · have hst := hstep.out k hlt
      have hwk := hwt.out k hlt
      obtain ⟨b, o, rfl, R0⟩ := hR0.out.row (by omega)
      have R : Row wr b o 2 n (fun i => ecells (penAt L i)) := ⟨Nat.lt_of_lt_of_le R0.lt SS.size, fun i hi j v hv => (SS.cell R0.lt (hne (by omega) b o rfl)).trans (R0.cell i hi j v hv)⟩
      have z0 := R.at0 hlt (v := .int .i64 (penAt L k).k) rfl
      have z1 := R.at1 hlt (v := .int .i64 (penAt L k).i) rfl
      have hnx : nxt (penAt L k) (left - wrN (L.take k)) = left - (wrN (L.take (k + 1)) : Int) := by
        rw [hwk]
        rcases nxt_ways (penAt L k) (left - wrN (L.take k)) with ⟨g1, g2⟩ | ⟨g1, g2⟩
        · rw [g2, if_pos g1]; omega
        · rw [g2, if_neg g1]; omega
      have KC := hid (fitc_any B (left - wrN (L.take k)) (penAt L k) (by omega) (by omega) wr BB)
      rw [hnx] at KC
      have hlt1 : (k : Int) < (n : Int) := by omega
      have hk1 : IntKind.i64.wrap ((k : Int) + 1) = (k : Int) + 1 := IntWalk.i64_in _ ⟨by omega, by omega⟩
      clear R R0 BB SS hF hnx hwk
      by_cases hneg : left - (wrN (L.take (k + 1)) : Int) < 0
      · rw [decide_eq_true hneg] at KC
        have hFk : F = k := by have h := hFh.out; rw [hst, if_pos hneg] at h; omega
        have hFn : ¬ F = n := by omega
        have hres := hid (show ixI F n = (k : Int) by unfold ixI; rw [if_neg hFn, hFk])
        clear hst hFk hFn hneg
        replace hge := hid hge
        go_wp2_with fail
        refine KC.out.mono ?_
        rintro e w2 ⟨rfl, B2, S2⟩
        have S2h := hid (SSh.out.trans S2)
        clear B2 S2 KC z0 z1
        go_wp2_with fail
        go_ret
        exact ⟨by rw [hres.out]; rfl, S2h.out⟩
      · rw [decide_eq_false hneg] at KC
        have hF2 := hid (show F = (k + 1) + fitN (L.drop (k + 1)) (left - wrN (L.take (k + 1))) by have h := hFh.out; rw [hst, if_neg hneg] at h; omega)
        have hge2 := hid (show 0 ≤ left - (wrN (L.take (k + 1)) : Int) by omega)
        clear hst hneg
        replace hge := hid hge
        go_wp2_with fail
        refine KC.out.mono ?_
        rintro e w2 ⟨rfl, B2, S2⟩
        have S2h := hid (SSh.out.trans S2)
        have B2h := hid B2
        clear B2 S2 KC z0 z1
        go_wp2_with fail
        go_roundw
        case rel => exact ⟨k + 1, hlt, by go_num, hF2.out, hge2.out, B2h.out, S2h.out⟩
        case measure => simp [intOf]; omega
    · obtain rfl : k = n := by omega
      have hFk : F = k := by rw [hF, hnil.out]; rfl
      have hres := hid (show ixI F k = -1 by unfold ixI; rw [if_pos hFk])
      clear BB SS hF hge hFh hFk
      go_wp2_with fail
      go_ret
      exact ⟨by rw [hres.out]; rfl, SSh.out⟩

set_option maxRecDepth 100000 in
set_option maxHeartbeats 2000000 in
theorem fitting_any (left : Int) (L : List En) (p : Option Addr) (cap : Nat) (h1 : L.length ≤ cap) (h2 : cap ≤ maxLen) (hl0 : 0 ≤ left) (hl1 : left ≤ 1000) (w : World) (HR : RowOf enT w p L) :
    Calls Try.prog 41 #[.slice p L.length cap, .int .i64 left] w fun e w' => e = .returned (.int .i64 (fit L left : Int)) ∧ Below w.heap.size w w' := by
  have hmf : ∀ (fn : Fn) (first cap : Array Value) (w : World), (Instr.makeFunc fn first cap).run Try.prog w = .ok (.func fn first cap) w := fun _ _ _ _ => rfl
  have HB := Blk.new w #[.int .i64 left] 3
  have hb0 : Below w.heap.size w (w.alloc (.cells #[.int .i64 left] 3)) := (Below.refl _ _).alloc (Nat.le_refl _) _
  have hne : ∀ b o, p = some ⟨b, o, none⟩ → L.length ≠ 0 → b ≠ w.heap.size := fun b o e hn => by
    obtain ⟨b', o', e', r⟩ := (en_rowp HR).row hn
    rw [e] at e'; cases e'
    have := r.lt; omega
  have hfl := fitN_le L left
  have h64 := fit_64 L left
  have hfit : fit L left = min (fitN L left) 64 := rfl
  have KI := hid (findex_any w.heap.size left L p cap h1 h2 hl0 hl1 _ HB (RowOf.more HR hb0) (fun hn b o e => hne b o e hn))
  have hb0h := hid hb0
  obtain ⟨n, hnn⟩ : ∃ n, L.length = n := ⟨_, rfl⟩
  rw [hnn] at KI hfl h1 ⊢
  have hn63 : (n : Int) ≤ 9223372036854775807 := by unfold maxLen at h2; omega
  generalize fitN L left = F at *
  generalize fit L left = T at *
  clear HB hb0 hne HR hnn
  by_cases hF : F = n
  · rw [show ixI F n = -1 from if_pos hF] at KI
    have hmin : min (n : Int) 64 = (T : Int) := by omega
    clear hF hfl hfit
    go_enter Try.func41, Try.ntmps41
    go_wp2_with fail
    refine KI.out.mono ?_
    rintro e w2 ⟨rfl, S2⟩
    have D2 := hid (hb0h.out.trans (S2.below (by simp) (fun j hj => by omega)))
    clear S2 KI
    go_wp2_with fail
    go_ret
    exact ⟨rfl, D2.out⟩
  · rw [show ixI F n = (F : Int) from if_neg hF] at KI
    have hmin : min (F : Int) 64 = (T : Int) := by omega
    have hF0 : decide ((F : Int) < 0) = false := decide_eq_false (by omega)
    clear hF hfl hfit
    go_enter Try.func41, Try.ntmps41
    go_wp2_with fail
    refine KI.out.mono ?_
    rintro e w2 ⟨rfl, S2⟩
    have D2 := hid (hb0h.out.trans (S2.below (by simp) (fun j hj => by omega)))
    clear S2 KI
    go_wp2_with fail
    go_ret
    exact ⟨rfl, D2.out⟩
end Go.Proofs.Ytcklmemnjchdcaa

/-
  Package plan: which entries, and which places, may not be; Room.
-/

namespace Go.Proofs.Ytcklmemnjchdcaa
open Go.RowKit
set_option linter.unusedVariables false
set_option linter.unusedSimpArgs false

theorem pbCk_one (e : En) : bCk 0 1 (fun _ => e) = if goodE e then 0 else 12 := by
  unfold bCk
  rw [if_neg (by omega), if_neg (by omega)]
  simp [allG]
theorem prow_one {w : World} {b : Nat} {e : En} (h : Blk w b #[.int .i64 e.k, .int .i64 e.i]) : RowP w (some ⟨b, 0, none⟩) 2 1 (fun _ => ecells e) :=
  .inr ⟨b, 0, rfl, h.lt, fun i hi j v hv => by
    obtain rfl : i = 0 := by omega
    rw [show 0 + 0 * 2 + j = j by omega, h.cell j]
    match j, hv with
    | 0, hv => simpa [ecells] using hv
    | 1, hv => simpa [ecells] using hv⟩
theorem pcheck_one (b : Nat) (e : En) (w : World) (h : Blk w b #[.int .i64 e.k, .int .i64 e.i]) :
    Calls Try.prog 24 #[smval 0 false (some ⟨b, 0, none⟩) 1 1] w fun e' w' => e' = .returned (.int .i64 (if goodE e then 0 else 12)) ∧ Below w.heap.size w w' := by
  have := bcheck_any 0 false (some ⟨b, 0, none⟩) 1 1 (fun _ => e) (by omega) (by unfold maxLen; omega) w (prow_one h)
  rw [pbCk_one] at this
  exact this

set_option maxRecDepth 100000 in
theorem maynot_any (x : En) (w : World) :
    Calls Try.prog 40 #[.agg #[.int .i64 x.k, .int .i64 x.i]] w fun e w' => e = .returned (.bool (!goodE x)) ∧ Below w.heap.size w w' := by
  have B1 := Blk.new (w.alloc (.cells #[.int .i64 x.k, .int .i64 x.i] 70)) #[.int .i64 x.k, .int .i64 x.i] 70
  rw [World.size_alloc] at B1
  have KC := hid (pcheck_one _ x _ B1)
  have hb : Below w.heap.size w ((w.alloc (.cells #[.int .i64 x.k, .int .i64 x.i] 70)).alloc (.cells #[.int .i64 x.k, .int .i64 x.i] 70)) := ((Below.refl _ _).alloc (Nat.le_refl _) _).alloc (by simp) _
  have hbh := hid hb
  clear B1 hb
  generalize x.k = xk at *
  generalize x.i = xi at *
  cases hg : goodE x
  all_goals
    rw [hg] at KC
    clear hg
    simp only [Bool.false_eq_true, if_true, if_false] at KC
    go_enter Try.func40, Try.ntmps40
    go_wp2_with fail
    refine KC.out.mono ?_
    rintro e w2 ⟨rfl, hb2⟩
    have D2 := hid (below2 hbh.out hb2 hbh.out.size)
    clear hb2 KC
    go_wp2
    go_ret
    exact ⟨rfl, D2.out⟩

set_option maxRecDepth 100000 in
set_option maxHeartbeats 2000000 in
theorem eindex_any (L : List En) (p : Option Addr) (cap : Nat) (h1 : L.length ≤ cap) (h2 : cap ≤ maxLen) (w : World) (HR : RowOf enT w p L) :
    Calls Try.prog 52 #[.slice p L.length cap, .func (.func 40) #[] #[]] w fun e w' => ∃ r : Int, e = .returned (.int .i64 r) ∧ decide (0 ≤ r) = !L.all goodE ∧ Below w.heap.size w w' := by
  have hR0 := hid (en_rowp HR)
  have hall : Hid (∀ k, k < L.length → (L.take (k + 1)).all goodE = ((L.take k).all goodE && goodE (penAt L k))) := hid (fun k hk => by
    rw [List.take_add_one, List.getElem?_eq_getElem hk, ← atR_eq (T := enT) L k hk]
    simp [List.all_append])
  have hbad : Hid (∀ k, k < L.length → goodE (penAt L k) = false → L.all goodE = false) := hid (fun k hk hg => by
    rw [List.all_eq_false]
    exact ⟨_, atR_mem (T := enT) L k hk, by rw [hg]; simp⟩)
  have hfull : Hid ((L.take L.length).all goodE = L.all goodE) := hid (by rw [List.take_length])
  have h00 : Hid ((L.take 0).all goodE = true) := hid (by simp)
  obtain ⟨n, hn⟩ : ∃ n, L.length = n := ⟨_, rfl⟩
  rw [hn] at h1 hR0 hall hbad hfull ⊢
  have hn63 : (n : Int) ≤ 9223372036854775807 := by unfold maxLen at h2; omega
  generalize L.all goodE = G at *
  clear HR hn
  go_enter Try.func52, Try.ntmps52
  go_wp2_with fail
  go_loopw [8] (fun i wr => ∃ k : Nat, k ≤ n ∧ i = .int .i64 (k : Int) ∧ (L.take k).all goodE = true ∧ Below w.heap.size w wr) (fun i _ => n - (intOf i).toNat)
  case atStart => exact ⟨0, by omega, rfl, h00.out, Below.refl _ _⟩
  case round =>
    obtain ⟨k, hk, rfl, hg, hb⟩ := hrel
    have hbh := hid hb
    have hgh := hid hg
    by_cases hlt : k < n
    · obtain ⟨b, o, rfl, R0⟩ := hR0.out.row (by omega)
      have R := R0.more hb
      have z0 := R.at0 hlt (v := .int .i64 (penAt L k).k) rfl
      have z1 := R.at1 hlt (v := .int .i64 (penAt L k).i) rfl
      have KC := hid (maynot_any (penAt L k) wr)
      have hlt1 : (k : Int) < (n : Int) := by omega
      have hk1 : IntKind.i64.wrap ((k : Int) + 1) = (k : Int) + 1 := IntWalk.i64_in _ ⟨by omega, by omega⟩
      have hst := hid (hall.out k hlt)
      have hbd := hid (hbad.out k hlt)
      clear R R0 hb hg
      cases hgk : goodE (penAt L k)
      · have hG := hid (hbd.out hgk)
        rw [hgk] at KC
        clear hgk hst hbd
        go_wp2_with fail
        refine KC.out.mono ?_
        rintro e w2 ⟨rfl, hb2⟩
        have D2 := hid (below2 hbh.out hb2 hbh.out.size)
        clear hb2 KC z0 z1
        go_wp2_with fail
        go_ret
        exact ⟨_, rfl, by rw [hG.out]; simp, D2.out⟩
      · have hst2 : Hid ((L.take (k + 1)).all goodE = true) := hid (by rw [hst.out, hgh.out, hgk]; rfl)
        rw [hgk] at KC
        clear hgk hst hbd
        go_wp2_with fail
        refine KC.out.mono ?_
        rintro e w2 ⟨rfl, hb2⟩
        have D2 := hid (below2 hbh.out hb2 hbh.out.size)
        clear hb2 KC z0 z1
        go_wp2_with fail
        go_roundw
        case rel => exact ⟨k + 1, hlt, by go_num, hst2.out, D2.out⟩
        case measure => simp [intOf]; omega
    · obtain rfl : k = n := by omega
      have hG : Hid (G = true) := hid (by rw [← hfull.out]; exact hg)
      clear hg hb
      go_wp2_with fail
      go_ret
      exact ⟨_, rfl, by rw [hG.out]; rfl, hbh.out⟩

set_option maxRecDepth 100000 in
theorem econt_any (L : List En) (p : Option Addr) (cap : Nat) (h1 : L.length ≤ cap) (h2 : cap ≤ maxLen) (w : World) (HR : RowOf enT w p L) :
    Calls Try.prog 39 #[.slice p L.length cap, .func (.func 40) #[] #[]] w fun e w' => e = .returned (.bool (!L.all goodE)) ∧ Below w.heap.size w w' := by
  have KI := hid (eindex_any L p cap h1 h2 w HR)
  generalize L.length = n at *
  generalize (!L.all goodE) = G at *
  clear HR h1 h2
  go_enter Try.func39, Try.ntmps39
  go_wp2_with fail
  refine KI.out.mono ?_
  rintro e w2 ⟨r, rfl, hr, hb2⟩
  have D2 := hid hb2
  subst hr
  clear hb2 KI
  go_wp2
  go_ret
  exact ⟨rfl, D2.out⟩

set_option maxRecDepth 100000 in
theorem outside_any (n z k : Int) (b : Nat) (w : World) (HB : Blk w b #[.int .i64 n, .int .i64 z]) :
    Calls Try.prog 51 #[.int .i64 k, .pointer (some ⟨b, 0, none⟩)] w fun e w' => e = .returned (.bool (!segB n z k)) ∧ Below w.heap.size w w' := by
  have KS := hid (segment_any n z k w)
  obtain ⟨l0, k0, f0⟩ := HB
  unfold segI at KS
  cases hs : segB n z k
  · rw [hs] at KS
    simp only [Bool.false_eq_true, if_false] at KS
    clear hs
    go_enter Try.func51, Try.ntmps51
    go_wp2_with fail
    refine KS.out.mono ?_
    rintro e w2 ⟨rfl, hb2⟩
    have D2 := hid hb2
    clear hb2 KS
    go_wp2
    go_ret
    exact ⟨rfl, D2.out⟩
  · have hne : ((9 + k * z) == 0) = false := by
      have h := hs
      simp only [segB, Bool.and_eq_true, decide_eq_true_eq] at h
      obtain ⟨⟨h1, h2⟩, h3⟩ := h
      have o := ok_true h1
      have := Int.mul_nonneg h2 (show 0 ≤ z by omega)
      simp; omega
    rw [hs] at KS
    simp only [if_true] at KS
    generalize 9 + k * z = y at *
    clear hs
    go_enter Try.func51, Try.ntmps51
    go_wp2_with fail
    refine KS.out.mono ?_
    rintro e w2 ⟨rfl, hb2⟩
    have D2 := hid hb2
    clear hb2 KS
    go_wp2
    go_ret
    exact ⟨rfl, D2.out⟩

set_option maxRecDepth 100000 in
set_option maxHeartbeats 2000000 in
theorem iindex_any (n' z : Int) (bg : Nat) (L : List Int) (p : Option Addr) (cap : Nat) (h1 : L.length ≤ cap) (h2 : cap ≤ maxLen) (w : World) (HB : Blk w bg #[.int .i64 n', .int .i64 z]) (HR : RowOf inT w p L) :
    Calls Try.prog 69 #[.slice p L.length cap, .func (.func 51) #[] #[.pointer (some ⟨bg, 0, none⟩)]] w fun e w' => ∃ r : Int, e = .returned (.int .i64 r) ∧ decide (0 ≤ r) = !L.all (segB n' z) ∧ Below w.heap.size w w' := by
  have hR0 := hid (in_rowp HR)
  have hall : Hid (∀ k, k < L.length → (L.take (k + 1)).all (segB n' z) = ((L.take k).all (segB n' z) && segB n' z (inAt L k))) := hid (fun k hk => by
    rw [List.take_add_one, List.getElem?_eq_getElem hk, ← atR_eq (T := inT) L k hk]
    simp [List.all_append])
  have hbad : Hid (∀ k, k < L.length → segB n' z (inAt L k) = false → L.all (segB n' z) = false) := hid (fun k hk hg => by
    rw [List.all_eq_false]
    exact ⟨_, atR_mem (T := inT) L k hk, by rw [hg]; simp⟩)
  have hfull : Hid ((L.take L.length).all (segB n' z) = L.all (segB n' z)) := hid (by rw [List.take_length])
  have h00 : Hid ((L.take 0).all (segB n' z) = true) := hid (by simp)
  have HBh := hid HB
  obtain ⟨n, hn⟩ : ∃ n, L.length = n := ⟨_, rfl⟩
  rw [hn] at h1 hR0 hall hbad hfull ⊢
  have hn63 : (n : Int) ≤ 9223372036854775807 := by unfold maxLen at h2; omega
  generalize L.all (segB n' z) = G at *
  clear HR hn HB
  go_enter Try.func69, Try.ntmps69
  go_wp2_with fail
  go_loopw [8] (fun i wr => ∃ k : Nat, k ≤ n ∧ i = .int .i64 (k : Int) ∧ (L.take k).all (segB n' z) = true ∧ Below w.heap.size w wr) (fun i _ => n - (intOf i).toNat)
  case atStart => exact ⟨0, by omega, rfl, h00.out, Below.refl _ _⟩
  case round =>
    obtain ⟨k, hk, rfl, hg, hb⟩ := hrel
    have hbh := hid hb
    have hgh := hid hg
    by_cases hlt : k < n
    · obtain ⟨b, o, rfl, R0⟩ := hR0.out.row (by omega)
      have R := R0.more hb
      have z0 := R.at0 hlt (v := .int .i64 (inAt L k)) rfl
      rw [Nat.mul_one] at z0
      have KC := hid (outside_any n' z (inAt L k) bg wr (HBh.out.more hb))
      have hlt1 : (k : Int) < (n : Int) := by omega
      have hk1 : IntKind.i64.wrap ((k : Int) + 1) = (k : Int) + 1 := IntWalk.i64_in _ ⟨by omega, by omega⟩
      have hst := hid (hall.out k hlt)
      have hbd := hid (hbad.out k hlt)
      clear R R0 hb hg
      cases hgk : segB n' z (inAt L k)
      · have hG := hid (hbd.out hgk)
        rw [hgk] at KC
        clear hgk hst hbd
        generalize inAt L k = y at *
        go_wp2_with fail
        refine KC.out.mono ?_
        rintro e w2 ⟨rfl, hb2⟩
        have D2 := hid (below2 hbh.out hb2 hbh.out.size)
        clear hb2 KC z0
        go_wp2_with fail
        go_ret
        exact ⟨_, rfl, by rw [hG.out]; simp, D2.out⟩
      · have hst2 : Hid ((L.take (k + 1)).all (segB n' z) = true) := hid (by rw [hst.out, hgh.out, hgk]; rfl)
        rw [hgk] at KC
        clear hgk hst hbd
        generalize inAt L k = y at *
        go_wp2_with fail
        refine KC.out.mono ?_
        rintro e w2 ⟨rfl, hb2⟩
        have D2 := hid (below2 hbh.out hb2 hbh.out.size)
        clear hb2 KC z0
        go_wp2_with fail
        go_roundw
        case rel => exact ⟨k + 1, hlt, by go_num, hst2.out, D2.out⟩
        case measure => simp [intOf]; omega
    · obtain rfl : k = n := by omega
      have hG : Hid (G = true) := hid (by rw [← hfull.out]; exact hg)
      clear hg hb
      go_wp2_with fail
      go_ret
      exact ⟨_, rfl, by rw [hG.out]; rfl, hbh.out⟩

set_option maxRecDepth 100000 in
theorem icont_any (n' z : Int) (bg : Nat) (L : List Int) (p : Option Addr) (cap : Nat) (h1 : L.length ≤ cap) (h2 : cap ≤ maxLen) (w : World) (HB : Blk w bg #[.int .i64 n', .int .i64 z]) (HR : RowOf inT w p L) :
    Calls Try.prog 49 #[.slice p L.length cap, .func (.func 51) #[] #[.pointer (some ⟨bg, 0, none⟩)]] w fun e w' => e = .returned (.bool (!L.all (segB n' z))) ∧ Below w.heap.size w w' := by
  have KI := hid (iindex_any n' z bg L p cap h1 h2 w HB HR)
  generalize L.length = n at *
  generalize (!L.all (segB n' z)) = G at *
  clear HR h1 h2 HB
  go_enter Try.func49, Try.ntmps49
  go_wp2_with fail
  refine KI.out.mono ?_
  rintro e w2 ⟨r, rfl, hr, hb2⟩
  have D2 := hid hb2
  subst hr
  clear hb2 KI
  go_wp2
  go_ret
  exact ⟨rfl, D2.out⟩

/-- May the log go on there? -/
def placedB (n z : Int) (p : Plc) (fr : List Int) : Bool := okB n z && (segB n z p.seg && (segB n z p.next && (decide (0 ≤ p.off) && (decide (p.off ≤ z) && fr.all (segB n z)))))
abbrev plv (s o x : Int) : Value := .agg #[.int .i64 s, .int .i64 o, .int .i64 x]

set_option maxRecDepth 100000 in
set_option maxHeartbeats 8000000 in
theorem placed_any (n z s o x : Int) (L : List Int) (p : Option Addr) (cap : Nat) (h1 : L.length ≤ cap) (h2 : cap ≤ maxLen) (w : World) (HR : RowOf inT w p L) :
    Calls Try.prog 38 #[geo n z, plv s o x, .slice p L.length cap] w fun e w' => e = .returned (.bool (placedB n z ⟨s, o, x⟩ L)) ∧ Below w.heap.size w w' := by
  have hmf : ∀ (fn : Fn) (first cap : Array Value) (w : World), (Instr.makeFunc fn first cap).run Try.prog w = .ok (.func fn first cap) w := fun _ _ _ _ => rfl
  obtain ⟨B0, B1, Hb⟩ := @boxed2 w _ #[.int .i64 n, .int .i64 z] #[.int .i64 s, .int .i64 o, .int .i64 x] 25 30 (Below.refl _ _)
  generalize hW0 : (w.alloc (.cells #[.int .i64 n, .int .i64 z] 25)).alloc (.cells #[.int .i64 s, .int .i64 o, .int .i64 x] 30) = W0 at *
  have HB0 := hid B0
  have HB1 := hid B1
  have HH := hid Hb
  have KC := hid (fun w => lcheck_any n z w)
  have KO := hid (fun k b w HB => outside_any n z k b w HB)
  have KI := hid (fun b w' (HB : Blk w' b #[.int .i64 n, .int .i64 z]) (hb : Below w.heap.size w w') => icont_any n z b L p cap h1 h2 w' HB (RowOf.more HR hb))
  have hP := hid (show placedB n z ⟨s, o, x⟩ L = (okB n z && (segB n z s && (segB n z x && (decide (0 ≤ o) && (decide (o ≤ z) && L.all (segB n z)))))) from rfl)
  generalize placedB n z ⟨s, o, x⟩ L = PB at *
  generalize L.all (segB n z) = G at *
  generalize L.length = len at *
  unfold chkI at KC
  clear HR h1 h2 Hb B0 B1
  replace hW0 := hid hW0
  cases hok : okB n z
  · rw [hok] at KC hP
    simp only [Bool.false_eq_true, if_false] at KC
    clear hok
    go_enter Try.func38, Try.ntmps38
    go_wp2_with fail
    rw [hW0.out]
    refine (KC.out _).mono ?_
    rintro e w2 ⟨rfl, hb2⟩
    have D2 := hid (below2 HH.out hb2 HH.out.size)
    clear hb2 KC
    go_wp2
    go_ret
    exact ⟨by rw [hP.out]; rfl, D2.out⟩
  · rw [hok] at KC hP
    simp only [if_true] at KC
    clear hok
    cases hs : segB n z s
    · rw [hs] at hP
      have KS := hid (KO.out s)
      rw [hs] at KS
      clear hs
      go_enter Try.func38, Try.ntmps38
      go_wp2_with fail
      rw [hW0.out]
      refine (KC.out _).mono ?_
      rintro e w2 ⟨rfl, hb2⟩
      have C0 := hid (HB0.out.more hb2)
      have C1 := HB1.out.more hb2
      obtain ⟨l1, k1, f1⟩ := C1
      have D2 := hid (below2 HH.out hb2 HH.out.size)
      clear hb2 KC
      go_wp2_with fail
      refine (KS.out _ _ C0.out).mono ?_
      rintro e w3 ⟨rfl, hb3⟩
      have D3 := hid (below2 D2.out hb3 D2.out.size)
      clear hb3 l1 k1 f1
      go_wp2
      go_ret
      exact ⟨by rw [hP.out]; rfl, D3.out⟩
    · rw [hs] at hP
      have KS := hid (KO.out s)
      rw [hs] at KS
      clear hs
      cases hx : segB n z x
      · rw [hx] at hP
        have KX := hid (KO.out x)
        rw [hx] at KX
        clear hx
        go_enter Try.func38, Try.ntmps38
        go_wp2_with fail
        rw [hW0.out]
        refine (KC.out _).mono ?_
        rintro e w2 ⟨rfl, hb2⟩
        have C0 := hid (HB0.out.more hb2)
        have C1 := HB1.out.more hb2
        have C1h := hid C1
        obtain ⟨l1, k1, f1⟩ := C1
        have D2 := hid (below2 HH.out hb2 HH.out.size)
        clear hb2 KC
        go_wp2_with fail
        refine (KS.out _ _ C0.out).mono ?_
        rintro e w3 ⟨rfl, hb3⟩
        have C0' := hid (C0.out.more hb3)
        have C1' := C1h.out.more hb3
        have D3 := hid (below2 D2.out hb3 D2.out.size)
        clear hb3 l1 k1 f1
        obtain ⟨l1, k1, f1⟩ := C1'
        go_wp2_with fail
        refine (KX.out _ _ C0'.out).mono ?_
        rintro e w4 ⟨rfl, hb4⟩
        have D4 := hid (below2 D3.out hb4 D3.out.size)
        clear hb4 l1 k1 f1
        go_wp2
        go_ret
        exact ⟨by rw [hP.out]; rfl, D4.out⟩
      · rw [hx] at hP
        have KX := hid (KO.out x)
        rw [hx] at KX
        clear hx
        by_cases ho : 0 ≤ o
        · by_cases ho2 : o ≤ z
          · rw [decide_eq_true ho, decide_eq_true ho2] at hP
            go_enter Try.func38, Try.ntmps38
            go_wp2_with fail
            rw [hW0.out]
            refine (KC.out _).mono ?_
            rintro e w2 ⟨rfl, hb2⟩
            have C0 := hid (HB0.out.more hb2)
            have C1 := HB1.out.more hb2
            have C1h := hid C1
            obtain ⟨l1, k1, f1⟩ := C1
            have D2 := hid (below2 HH.out hb2 HH.out.size)
            clear hb2 KC
            go_wp2_with fail
            refine (KS.out _ _ C0.out).mono ?_
            rintro e w3 ⟨rfl, hb3⟩
            have C0' := hid (C0.out.more hb3)
            have C1' := C1h.out.more hb3
            have C1h' := hid C1'
            have D3 := hid (below2 D2.out hb3 D2.out.size)
            clear hb3 l1 k1 f1
            obtain ⟨l1, k1, f1⟩ := C1'
            go_wp2_with fail
            refine (KX.out _ _ C0'.out).mono ?_
            rintro e w4 ⟨rfl, hb4⟩
            have D4 := hid (below2 D3.out hb4 D3.out.size)
            have C0'' := C0'.out.more hb4
            have C0h := hid C0''
            have C1'' := C1h'.out.more hb4
            clear hb4 l1 k1 f1
            obtain ⟨l1, k1, f1⟩ := C1''
            obtain ⟨l0, k0, f0⟩ := C0''
            go_wp2_with fail
            refine (KI.out _ _ C0h.out D4.out).mono ?_
            rintro e w5 ⟨rfl, hb5⟩
            have D5 := hid (below2 D4.out hb5 D4.out.size)
            clear hb5 l1 k1 f1 l0 k0 f0
            go_wp2
            go_ret
            exact ⟨by rw [hP.out]; simp, D5.out⟩
          · rw [decide_eq_true ho, decide_eq_false ho2] at hP
            have ho2' : decide (o ≤ z) = false := decide_eq_false ho2
            clear ho2
            go_enter Try.func38, Try.ntmps38
            go_wp2_with fail
            rw [hW0.out]
            refine (KC.out _).mono ?_
            rintro e w2 ⟨rfl, hb2⟩
            have C0 := hid (HB0.out.more hb2)
            have C1 := HB1.out.more hb2
            have C1h := hid C1
            obtain ⟨l1, k1, f1⟩ := C1
            have D2 := hid (below2 HH.out hb2 HH.out.size)
            clear hb2 KC
            go_wp2_with fail
            refine (KS.out _ _ C0.out).mono ?_
            rintro e w3 ⟨rfl, hb3⟩
            have C0' := hid (C0.out.more hb3)
            have C1' := C1h.out.more hb3
            have C1h' := hid C1'
            have D3 := hid (below2 D2.out hb3 D2.out.size)
            clear hb3 l1 k1 f1
            obtain ⟨l1, k1, f1⟩ := C1'
            go_wp2_with fail
            refine (KX.out _ _ C0'.out).mono ?_
            rintro e w4 ⟨rfl, hb4⟩
            have D4 := hid (below2 D3.out hb4 D3.out.size)
            have C0'' := C0'.out.more hb4
            have C1'' := C1h'.out.more hb4
            clear hb4 l1 k1 f1
            obtain ⟨l1, k1, f1⟩ := C1''
            obtain ⟨l0, k0, f0⟩ := C0''
            go_wp2
            go_ret
            exact ⟨by rw [hP.out]; rfl, D4.out⟩
        · rw [decide_eq_false ho] at hP
          have ho' : decide (0 ≤ o) = false := decide_eq_false ho
          clear ho
          go_enter Try.func38, Try.ntmps38
          go_wp2_with fail
          rw [hW0.out]
          refine (KC.out _).mono ?_
          rintro e w2 ⟨rfl, hb2⟩
          have C0 := hid (HB0.out.more hb2)
          have C1 := HB1.out.more hb2
          have C1h := hid C1
          obtain ⟨l1, k1, f1⟩ := C1
          have D2 := hid (below2 HH.out hb2 HH.out.size)
          clear hb2 KC
          go_wp2_with fail
          refine (KS.out _ _ C0.out).mono ?_
          rintro e w3 ⟨rfl, hb3⟩
          have C0' := hid (C0.out.more hb3)
          have C1' := C1h.out.more hb3
          have C1h' := hid C1'
          have D3 := hid (below2 D2.out hb3 D2.out.size)
          clear hb3 l1 k1 f1
          obtain ⟨l1, k1, f1⟩ := C1'
          go_wp2_with fail
          refine (KX.out _ _ C0'.out).mono ?_
          rintro e w4 ⟨rfl, hb4⟩
          have D4 := hid (below2 D3.out hb4 D3.out.size)
          have C1'' := C1h'.out.more hb4
          clear hb4 l1 k1 f1
          obtain ⟨l1, k1, f1⟩ := C1''
          go_wp2
          go_ret
          exact ⟨by rw [hP.out]; rfl, D4.out⟩
end Go.Proofs.Ytcklmemnjchdcaa

/-
  Package plan: parts in a row of the call's own.
-/

namespace Go.Proofs.Ytcklmemnjchdcaa
open Go.RowKit
set_option linter.unusedVariables false
set_option linter.unusedSimpArgs false

/-- A part as it lies: its entries are in a row of their own. -/
structure PtV where
  pl : Plc
  last : Bool
  q : Option Addr
  cap : Nat
  es : List En
abbrev PtV.v (x : PtV) : Value := .slice x.q x.es.length x.cap
def PtV.data (x : PtV) : PtD := ⟨x.pl, x.last, x.es⟩
def ptcells (x : PtV) : List Value := [.int .i64 x.pl.seg, .int .i64 x.pl.off, .int .i64 x.pl.next, .int .i64 x.pl.next, .bool x.last, .slice x.q x.es.length x.cap]
def ptT : RowT PtV := { ty := 85, sl := 71, sz := 6, bytes := 64, zero := .agg #[.int .i64 0, .int .i64 0, .int .i64 0, .int .i64 0, .bool false, .slice none 0 0], cells := ptcells, dflt := ⟨⟨0, 0, 0⟩, false, none, 0, []⟩ }
theorem ptOk : ptT.Ok := ⟨Try.underlying71, by kernel_rfl, rfl, by decide, fun _ => rfl, fun x u hu => by
  simp [ptT, ptcells] at hu
  rcases hu with rfl | rfl | rfl | rfl | rfl | rfl <;> rfl⟩
abbrev prAt (L : List PtV) (i : Nat) : PtV := atR ptT L i

/-- Parts of the call's own, with their entries. -/
structure PartsOwn (w : World) (B : Nat) (v : Value) (V : List PtV) : Prop where
  row : RowOwn ptT w B v V
  es : ∀ x ∈ V, RowOwn enT w B x.v x.es
  apart : ∀ x ∈ V, ∀ k, x.v.ownBlock = some k → v.ownBlock ≠ some k

theorem PartsOwn.nil (w : World) (B : Nat) : PartsOwn w B (.slice none 0 0) [] := ⟨RowOwn.nil _ _, fun x h => (by cases h), fun x h => (by cases h)⟩
theorem PartsOwn.more {w w' : World} {B : Nat} {v : Value} {V : List PtV} (h : PartsOwn w B v V) (hb : Below w.heap.size w w') : PartsOwn w' B v V :=
  ⟨h.row.more hb, fun x hx => (h.es x hx).more hb, h.apart⟩
theorem PartsOwn.sole {S : Nat → Prop} {w w' : World} {B : Nat} {v : Value} {V : List PtV} (h : PartsOwn w B v V) (hs : Sole S w w') (hn : ∀ k, B ≤ k → ¬ S k) : PartsOwn w' B v V :=
  ⟨h.row.sole hs fun k hk => hn k (h.row.within k hk).1, fun x hx => (h.es x hx).sole hs fun k hk => hn k ((h.es x hx).within k hk).1, h.apart⟩
theorem PartsOwn.mono {w : World} {A B : Nat} {v : Value} {V : List PtV} (h : PartsOwn w B v V) (hA : A ≤ B) : PartsOwn w A v V :=
  ⟨h.row.mono hA, fun x hx => (h.es x hx).mono hA, h.apart⟩
/-- One more part: behind the append. -/
theorem PartsOwn.grow {w0 w1 w2 : World} {B : Nat} {v v' : Value} {V : List PtV} {x : PtV} {o : Obj} (h : PartsOwn w0 B v V) (hx : RowOwn enT w0 B x.v x.es) (hxa : ∀ k, x.v.ownBlock = some k → v.ownBlock ≠ some k)
    (hb : w1 = w0.alloc o) (O : RowOwn ptT w2 B v' (V ++ [x])) (G : w1.grownBy w2 v.ownBlock) (hat : v'.ownBlock = v.ownBlock ∨ v'.ownBlock = some w1.heap.size) : PartsOwn w2 B v' (V ++ [x]) := by
  subst hb
  have hs : Sole (fun k => v.ownBlock = some k) (w0.alloc o) w2 := Sole.grown G fun k hk => hk
  have all : ∀ y, y ∈ V ++ [x] → RowOwn enT w0 B y.v y.es ∧ ∀ k, y.v.ownBlock = some k → v.ownBlock ≠ some k := by
    intro y hy
    rcases List.mem_append.1 hy with hy | hy
    · exact ⟨h.es y hy, h.apart y hy⟩
    · rw [List.mem_singleton] at hy; subst hy; exact ⟨hx, hxa⟩
  refine ⟨O, fun y hy => ?_, fun y hy k hk => ?_⟩
  · exact ((all y hy).1.alloc o).sole hs fun k hk => (all y hy).2 k hk
  · rcases hat with e | e
    · rw [e]; exact (all y hy).2 k hk
    · rw [e]
      have := ((all y hy).1.within k hk).2
      intro e2
      have e3 := Option.some.inj e2
      rw [World.size_alloc] at e3
      omega

/-- A slice's value, its parts as they lie. -/
theorem rowOwn_slice {w : World} {B : Nat} {v : Value} {L : List En} (h : RowOwn enT w B v L) : ∃ q cap, v = .slice q L.length cap ∧ (q = none → L = []) := by
  rcases h.form with ⟨rfl, rfl⟩ | ⟨g, cap, rfl, _⟩
  · exact ⟨none, 0, rfl, fun _ => rfl⟩
  · exact ⟨_, cap, rfl, fun e => by cases e⟩
end Go.Proofs.Ytcklmemnjchdcaa

/-
  Package plan: Parts.
-/



namespace Go.Proofs.Ytcklmemnjchdcaa
open Go.RowKit
set_option linter.unusedVariables false
set_option linter.unusedSimpArgs false

abbrev plv0 : Value := plv 0 0 0
/-- What Parts hands back. -/
def PartsPost (n z : Int) (p : Plc) (F : List Int) (L : List En) (w : World) (e : Ending) (w' : World) : Prop :=
  Below w.heap.size w w' ∧
  ((placedB n z p F = false ∧ e = .returned (.tuple #[.slice none 0 0, plv0, .slice none 0 0, .int .i64 4])) ∨
   (placedB n z p F = true ∧ L.all goodE = false ∧ e = .returned (.tuple #[.slice none 0 0, plv0, .slice none 0 0, .int .i64 12])) ∨
   (placedB n z p F = true ∧ L.all goodE = true ∧ planP z p F L = none ∧ e = .returned (.tuple #[.slice none 0 0, plv0, .slice none 0 0, .int .i64 10])) ∨
   (placedB n z p F = true ∧ L.all goodE = true ∧ ∃ V q f v vf, planP z p F L = some (V.map PtV.data, q, f) ∧ e = .returned (.tuple #[v, plv q.seg q.off q.next, vf, .int .i64 0]) ∧ PartsOwn w' w.heap.size v V ∧ RowOwn inT w' w.heap.size vf f))

theorem goodP_of {n z : Int} {p : Plc} {F : List Int} (h : placedB n z p F = true) : GoodP n z p F := by
  simp only [placedB, Bool.and_eq_true, decide_eq_true_eq, segB, List.all_eq_true] at h
  obtain ⟨h1, ⟨⟨_, h2⟩, h3⟩, ⟨⟨_, h4⟩, h5⟩, h6, h7, h8⟩ := h
  have o := ok_true h1
  exact ⟨o.1, o.2.1, o.2.2.1, o.2.2.2, h2, h3, h6, h7, h4, h5, fun x hx => ⟨(h8 x hx).1.2, (h8 x hx).2⟩⟩

theorem psole_setAll {b : Nat} : ∀ (vs : List Value) (o : Nat) (w : World), Sole (fun j => j = b) w (setAll w b o vs)
  | [], o, w => Sole.refl _ _
  | v :: vs, o, w => (Sole.setCell (S := fun j => j = b) (b := b) (o := o) w v rfl).trans (psole_setAll vs (o + 1) _)

def slLen : Value → Nat
  | .slice _ n _ => n
  | _ => 0

set_option maxRecDepth 100000 in
set_option maxHeartbeats 16000000 in
theorem parts_any (n z s o x : Int) (fp : Option Addr) (fcap : Nat) (F : List Int) (lp : Option Addr) (lcap : Nat) (L : List En) (f1 : F.length ≤ fcap) (f2 : fcap ≤ maxLen) (f3 : F.length ≤ 17592186044416) (f4 : fp = none → F = []) (l1 : L.length ≤ lcap) (l2 : lcap ≤ maxLen) (l3 : L.length ≤ 1000) (w : World) (RF : RowOf inT w fp F) (RL : RowOf enT w lp L) :
    Calls Try.prog 19 #[geo n z, plv s o x, .slice fp F.length fcap, .slice lp L.length lcap] w (PartsPost n z ⟨s, o, x⟩ F L w) := by
  have hb0 : Below w.heap.size w (((w.alloc (.cells #[.int .i64 n, .int .i64 z] 25)).alloc (.cells #[.int .i64 s, .int .i64 o, .int .i64 x] 30)).alloc (.cells #[.int .i64 0, .int .i64 0, .int .i64 0] 30)) := (((Below.refl _ _).alloc (Nat.le_refl _) _).alloc (by simp) _).alloc (by simp; omega) _
  obtain ⟨B0, B1, B2, Hb⟩ := @boxed3 w _ #[.int .i64 n, .int .i64 z] #[.int .i64 s, .int .i64 o, .int .i64 x] #[.int .i64 0, .int .i64 0, .int .i64 0] 25 30 30 (Below.refl _ _)
  generalize hW0 : ((w.alloc (.cells #[.int .i64 n, .int .i64 z] 25)).alloc (.cells #[.int .i64 s, .int .i64 o, .int .i64 x] 30)).alloc (.cells #[.int .i64 0, .int .i64 0, .int .i64 0] 30) = W0 at *
  have hsz : Hid (W0.heap.size = w.heap.size + 1 + 1 + 1) := hid (by rw [← hW0]; simp)
  replace hW0 := hid hW0
  have HB0 := hid B0
  have HB1 := hid B1
  have HB2 := hid B2
  have HH := hid Hb
  have KP := hid (placed_any n z s o x F fp fcap f1 f2 W0 (RowOf.more RF Hb))
  have KC := hid (fun w' (hb : Below w.heap.size w w') => econt_any L lp lcap l1 l2 w' (RowOf.more RL hb))
  have RFh := hid RF
  have RLh := hid RL
  have hF0 : (F.length : Int) ≤ 9223372036854775807 := by unfold maxLen at f2; omega
  have hGP := hid (fun h => goodP_of (n := n) (z := z) (p := ⟨s, o, x⟩) (F := F) h)
  have E1 : Hid (∀ w', placedB n z ⟨s, o, x⟩ F = false → Below w.heap.size w w' → PartsPost n z ⟨s, o, x⟩ F L w (.returned (.tuple #[.slice none 0 0, plv0, .slice none 0 0, .int .i64 4])) w') := hid (fun w' h hb => ⟨hb, .inl ⟨h, rfl⟩⟩)
  have E2 : Hid (∀ w', placedB n z ⟨s, o, x⟩ F = true → L.all goodE = false → Below w.heap.size w w' → PartsPost n z ⟨s, o, x⟩ F L w (.returned (.tuple #[.slice none 0 0, plv0, .slice none 0 0, .int .i64 12])) w') := hid (fun w' h h' hb => ⟨hb, .inr (.inl ⟨h, h', rfl⟩)⟩)
  have E3 : Hid (∀ w', placedB n z ⟨s, o, x⟩ F = true → L.all goodE = true → planP z ⟨s, o, x⟩ F L = none → Below w.heap.size w w' → PartsPost n z ⟨s, o, x⟩ F L w (.returned (.tuple #[.slice none 0 0, plv0, .slice none 0 0, .int .i64 10])) w') := hid (fun w' h h' h'' hb => ⟨hb, .inr (.inr (.inl ⟨h, h', h'', rfl⟩))⟩)
  have E4 : Hid (∀ w' V q f v vf, placedB n z ⟨s, o, x⟩ F = true → L.all goodE = true → planP z ⟨s, o, x⟩ F L = some (V.map PtV.data, q, f) → PartsOwn w' w.heap.size v V → RowOwn inT w' w.heap.size vf f → Below w.heap.size w w' → PartsPost n z ⟨s, o, x⟩ F L w (.returned (.tuple #[v, plv q.seg q.off q.next, vf, .int .i64 0])) w') := hid (fun w' V q f v vf h h' h'' hp hf hb => ⟨hb, .inr (.inr (.inr ⟨h, h', V, q, f, v, vf, h'', rfl, hp, hf⟩))⟩)
  have hstart : Hid (planP z ⟨s, o, x⟩ F L = (planK z L.length ⟨s, o, x⟩ F L).map fun r => (([] : List PtV).map PtV.data ++ r.1, r.2)) := hid (by unfold planP; cases planK z L.length ⟨s, o, x⟩ F L <;> simp)
  generalize PartsPost n z ⟨s, o, x⟩ F L w = Post at *
  generalize planP z ⟨s, o, x⟩ F L = PP at *
  generalize placedB n z ⟨s, o, x⟩ F = pb at *
  generalize L.all goodE = gb at *
  clear RF RL hb0 B0 B1 B2 Hb
  go_enter Try.func19, Try.ntmps19
  go_wp2_with fail
  rw [hW0.out]
  refine KP.out.mono ?_
  rintro e w1 ⟨rfl, hb1⟩
  have C0 := hid (HB0.out.more hb1)
  have C1 := hid (HB1.out.more hb1)
  have C2 := hid (HB2.out.more hb1)
  have D1 := hid (below2 HH.out hb1 HH.out.size)
  have hs1 : Hid (w.heap.size + 1 + 1 + 1 ≤ w1.heap.size) := hid (by have h1 := hb1.size; have h2 := hsz.out; omega)
  clear hb1 KP HB0 HB1 HB2 HH hW0
  have EB : Hid (∀ W, Blk W (w.heap.size + 1 + 1) #[.int .i64 0, .int .i64 0, .int .i64 0] → Below w.heap.size w W → Blk (setAll W (w.heap.size + 1 + 1) 0 [.int .i64 0, .int .i64 0, .int .i64 0]) (w.heap.size + 1 + 1) #[.int .i64 0, .int .i64 0, .int .i64 0] ∧ Below w.heap.size w (setAll W (w.heap.size + 1 + 1) 0 [.int .i64 0, .int .i64 0, .int .i64 0])) := hid (fun W B hb => ⟨Blk.fill [.int .i64 0, .int .i64 0, .int .i64 0] 0 B (by simp), below_fill (by omega) [.int .i64 0, .int .i64 0, .int .i64 0] 0 hb⟩)
  cases pb
  · obtain ⟨m2, k2, g2⟩ := C2.out
    have hE := hid (EB.out w1 C2.out D1.out)
    go_wp2_with fail
    show bodyPost _ _ _ _ _ (setAll w1 (w.heap.size + 1 + 1) 0 [.int .i64 0, .int .i64 0, .int .i64 0])
    generalize setAll w1 (w.heap.size + 1 + 1) 0 _ = w7 at *
    obtain ⟨⟨l7, k7, f7⟩, D7⟩ := hE.out
    refine bodyPost_ret (v := .tuple #[.slice none 0 0, plv0, .slice none 0 0, .int .i64 4]) (by simp [results, Try.results19, go_sem, k7]) rfl ?_
    exact E1.out _ (by simp) D7
  · cases gb
    · obtain ⟨m2, k2, g2⟩ := C2.out
      go_wp2_with fail
      refine (KC.out _ D1.out).mono ?_
      rintro e w2 ⟨rfl, hb2⟩
      have C2' := C2.out.more hb2
      have D2 := hid (below2 D1.out hb2 D1.out.size)
      clear hb2 KC m2 k2 g2
      have hE := hid (EB.out w2 C2' D2.out)
      obtain ⟨m2, k2, g2⟩ := C2'
      go_wp2_with fail
      show bodyPost _ _ _ _ _ (setAll w2 (w.heap.size + 1 + 1) 0 [.int .i64 0, .int .i64 0, .int .i64 0])
      generalize setAll w2 (w.heap.size + 1 + 1) 0 _ = w7 at *
      obtain ⟨⟨l7, k7, f7⟩, D7⟩ := hE.out
      refine bodyPost_ret (v := .tuple #[.slice none 0 0, plv0, .slice none 0 0, .int .i64 12]) (by simp [results, Try.results19, go_sem, k7]) rfl ?_
      exact E2.out _ (by simp) (by simp) D7
    · go_wp2_with fail
      refine (KC.out _ D1.out).mono ?_
      rintro e w2 ⟨rfl, hb2⟩
      have F0 := hid (C0.out.more hb2)
      have F1 := hid (C1.out.more hb2)
      have F2 := hid (C2.out.more hb2)
      have D2 := hid (below2 D1.out hb2 D1.out.size)
      have hs2 : Hid (w.heap.size + 1 + 1 + 1 ≤ w2.heap.size) := hid (by have h1 := hb2.size; have h2 := hs1.out; omega)
      have hG := hid (hGP.out (by simp))
      clear hb2 KC C0 C1 C2 D1 hs1 hGP E1 E2
      go_wp2_with fail
      go_loopw [2, 3, 12] (fun s2 s3 s12 wr => ∃ (k : Nat) (q : Plc) (fr : List Int) (fq : Option Addr) (fc : Nat) (l : List En) (lq : Option Addr) (lc : Nat) (V : List PtV),
          s2 = .slice fq fr.length fc ∧ s3 = .slice lq l.length lc ∧ PartsOwn wr (w.heap.size + 1 + 1 + 1) s12 V ∧
          (fr.length ≤ fc ∧ fc ≤ maxLen ∧ fr.length ≤ F.length ∧ (fq = none → fr = []) ∧ RowOf inT w fq fr) ∧
          (l.length ≤ lc ∧ lc ≤ maxLen ∧ V.length + l.length ≤ L.length ∧ RowOf enT w lq l) ∧
          GoodP n z q fr ∧ (l.length ≤ k ∧ PP = (planK z k q fr l).map fun r => (V.map PtV.data ++ r.1, r.2)) ∧
          Blk wr w.heap.size #[.int .i64 n, .int .i64 z] ∧ Blk wr (w.heap.size + 1) #[.int .i64 q.seg, .int .i64 q.off, .int .i64 q.next] ∧ Blk wr (w.heap.size + 1 + 1) #[.int .i64 0, .int .i64 0, .int .i64 0] ∧ Below w.heap.size w wr)
        (fun _ s3 _ _ => slLen s3)
      case atStart => exact ⟨L.length, ⟨s, o, x⟩, F, fp, fcap, L, lp, lcap, [], rfl, rfl, PartsOwn.nil _ _, ⟨f1, f2, Nat.le_refl _, f4, RFh.out⟩, ⟨l1, l2, by simp, RLh.out⟩, hG.out, ⟨Nat.le_refl _, hstart.out⟩, F0.out, F1.out, F2.out, D2.out⟩
      case round =>
        obtain ⟨k, q, fr, fq, fc, l, lq, lc, V, rfl, rfl, HV, HF, HL, HG, HP, HB0, HB1, HB2, HD⟩ := hrel
        have HVh := hid HV
        have HFh := hid HF
        have HLh := hid HL
        have HGh := hid HG
        have HPh := hid HP
        have K0 := hid HB0
        have K1 := hid HB1
        have K2 := hid HB2
        have HDh := hid HD
        have hs3 : Hid (w.heap.size + 1 + 1 + 1 ≤ wr.heap.size) := hid (by have h := HB2.lt; omega)
        clear F0 F1 F2 D2 hs2 hG hstart RFh RLh
        obtain ⟨qs, qo, qx⟩ := q
        by_cases hl0 : l = []
        · subst hl0
          have hPP : PP = some (V.map PtV.data, ⟨qs, qo, qx⟩, fr) := by rw [HP.2, planK_nil]; simp
          have KI := hid (fun W (hb : Below w.heap.size w W) => iclone_any fq fc fr (by have := HF.2.2.1; omega) W (RowOf.more HF.2.2.2.2 hb) HF.2.2.2.1)
          have hfr63 : (fr.length : Int) ≤ 9223372036854775807 := by have h1 := HF.1; have h2 := HF.2.1; unfold maxLen at h2; omega
          obtain ⟨l1', k1, g1⟩ := HB1
          have hPPh := hid hPP
          clear hPP HP HL HF HV HG HB0 HB2 HD
          go_wp2_with fail
          have bel := (Below.refl w.heap.size wr).drew
          go_region_held3 (fun w' => w'.cell? ⟨w.heap.size + 1, 0, none⟩ = some (.int .i64 qs) ∧ w'.cell? ⟨w.heap.size + 1, 1, none⟩ = some (.int .i64 qo) ∧ w'.cell? ⟨w.heap.size + 1, 2, none⟩ = some (.int .i64 qx))
            (first | go_keep | (go_split_ands; exact ⟨by rw [hb5.cell (p := ⟨w.heap.size + 1, 0, none⟩) hb5lt]; first | assumption | go_keep, by rw [hb5.cell (p := ⟨w.heap.size + 1, 1, none⟩) hb5lt]; first | assumption | go_keep, by rw [hb5.cell (p := ⟨w.heap.size + 1, 2, none⟩) hb5lt]; first | assumption | go_keep⟩) | fail)
            (first
              | ((with_reducible refine (KI.out _ (HDh.out.trans bel)).mono ?_); rintro e w5 ⟨v5, rfl, O5, hb5⟩; have hb5lt : w.heap.size + 1 < wr.drew.heap.size := (by have h := hs3.out; simp; omega); obtain ⟨m5, k5, g5⟩ := K2.out.drew.more hb5)
              | fail)
          go_wp2_with fail
          have B5 := Blk.fill [.int .i64 qs, .int .i64 qo, .int .i64 qx] 0 (K2.out.drew.more hb5) (by simp)
          have D5 : Below w.heap.size w w5 := (HDh.out.trans bel).trans (hb5.mono (by have h := hs3.out; simp; omega))
          have D7 := below_fill (b := w.heap.size + 1 + 1) (by omega) [.int .i64 qs, .int .i64 qo, .int .i64 qx] 0 D5
          have V5 := (HVh.out.more (Below.refl wr.heap.size wr).drew).more hb5
          have S7 := psole_setAll (b := w.heap.size + 1 + 1) [.int .i64 qs, .int .i64 qo, .int .i64 qx] 0 w5
          have V7 := V5.sole S7 (fun k hk e => by omega)
          have O7 := O5.sole S7 (fun k hk e => by have h1 := (O5.within k hk).1; have h2 := hs3.out; simp at h1; omega)
          show bodyPost _ _ _ _ _ (setAll w5 (w.heap.size + 1 + 1) 0 [.int .i64 qs, .int .i64 qo, .int .i64 qx])
          generalize setAll w5 (w.heap.size + 1 + 1) 0 _ = w7 at *
          obtain ⟨l7, k7, f7⟩ := B5
          refine bodyPost_ret (v := .tuple #[_, plv qs qo qx, v5, .int .i64 0]) (by simp [results, Try.results19, go_sem, k7, fillC]; rfl) rfl ?_
          exact E4.out _ V ⟨qs, qo, qx⟩ fr _ _ (by simp) (by simp) hPPh.out (V7.mono (by omega)) (O7.mono (by have h := hs3.out; simp; omega)) D7
        · obtain ⟨lb, lo, rfl, RL0⟩ := (en_rowp HL.2.2.2).row (fun h => hl0 (List.eq_nil_of_length_eq_zero h))
          have hlp : 0 < l.length := by
            rcases Nat.eq_zero_or_pos l.length with h | h
            · exact absurd (List.eq_nil_of_length_eq_zero h) hl0
            · exact h
          have hl1000 : l.length ≤ 1000 := by have := HL.2.2.1; omega
          have hln0 : (0 : Int) < (l.length : Int) := by omega
          have hg := HG
          have hz := hg.z32
          have hz4 := hg.z4
          have ho0 := hg.o0
          have hoz := hg.oz
          simp only at ho0 hoz
          have hw1 : IntKind.i64.wrap (z - qo) = z - qo := IntWalk.i64_in _ ⟨by omega, by omega⟩
          obtain ⟨l1', k1, g1⟩ := HB1
          obtain ⟨l0', k0, g0⟩ := HB0
          have hl0h := hid hl0
          clear HP HL HF HV HG HB2 HD hg RL0 hl0
          go_upto_if 32 with (fail)
          go_cut [2] (fun s2 wx => ∃ (q' : Plc) (fr' : List Int) (fq' : Option Addr) (fc' : Nat), s2 = .slice fq' fr'.length fc' ∧ stepP z ⟨qs, qo, qx⟩ fr = some (q', fr') ∧ (fr'.length ≤ fc' ∧ fc' ≤ maxLen ∧ (fq' = none → fr' = []) ∧ RowOf inT w fq' fr') ∧
            Blk wx (w.heap.size + 1) #[.int .i64 q'.seg, .int .i64 q'.off, .int .i64 q'.next] ∧ Sole (fun j => j = w.heap.size + 1) wr wx)
          case first =>
            by_cases hsp : z - qo < 2
            · have hsph := hid hsp
              cases fr with
              | nil =>
                have hPP : PP = none := by
                  rw [HPh.out.2, planK_none hl0h.out HPh.out.1 (by unfold stepP; simp only; rw [if_pos hsp])]
                  rfl
                have hE := hid (EB.out wr K2.out HDh.out)
                have hPPh := hid hPP
                obtain ⟨m2, k2, g2⟩ := K2.out
                clear hPP
                go_wp2_with fail
                show bodyPost _ _ _ _ _ (setAll wr (w.heap.size + 1 + 1) 0 [.int .i64 0, .int .i64 0, .int .i64 0])
                generalize setAll wr (w.heap.size + 1 + 1) 0 _ = w7 at *
                obtain ⟨⟨l7, k7, f7⟩, D7⟩ := hE.out
                refine bodyPost_ret (v := .tuple #[.slice none 0 0, plv0, .slice none 0 0, .int .i64 10]) (by simp [results, Try.results19, go_sem, k7]) rfl ?_
                exact E3.out _ (by simp) (by simp) hPPh.out D7
              | cons y ys =>
                obtain ⟨fb, fo, rfl, RF0⟩ := (in_rowp HFh.out.2.2.2.2).row (by simp)
                have RF1 := RF0.more HDh.out
                have y0 := RF1.at0 (i := 0) (by simp) (v := .int .i64 y) rfl
                simp only [Nat.zero_mul, Nat.add_zero] at y0
                have hfc := HFh.out.1
                simp only [List.length_cons] at hfc
                have hfc1 : (1 : Int) ≤ (fc : Int) := by omega
                have hys1 : (1 : Int) ≤ (ys.length : Int) + 1 := by omega
                have hys0 : (0 : Int) < (ys.length : Int) + 1 := by omega
                have hysf : (ys.length : Int) + 1 ≤ (fc : Int) := by omega
                have hfcm : (fc : Int) ≤ 9223372036854775807 := by have h2 := HFh.out.2.1; unfold maxLen at h2; omega
                have hysz : ((ys.length : Int) + 1 == 0) = false := by simp; omega
                have hst : Hid (stepP z ⟨qs, qo, qx⟩ (y :: ys) = some (⟨qx, 0, y⟩, ys)) := hid (by unfold stepP; simp only; rw [if_pos hsp])
                have RT : ∀ a, RowOf inT w (if fc = 1 then a else some ⟨fb, fo + 1, none⟩) ys := fun a => by
                  by_cases h1 : fc = 1
                  · have : ys = [] := List.eq_nil_of_length_eq_zero (by omega)
                    subst this
                    exact .inl rfl
                  · rw [if_neg h1]
                    exact RowOf.drop (T := inT) HFh.out.2.2.2.2 1
                have RTh := hid RT
                clear RF0 RF1 RT
                simp only [List.length_cons]
                by_cases hf1 : fc = 1
                · subst hf1
                  have hy0 : ys.length = 0 := by omega
                  have hyn : ys = [] := List.eq_nil_of_length_eq_zero hy0
                  subst hyn
                  have RTh' := RTh.out none
                  rw [if_pos rfl] at RTh'
                  replace RTh' := hid RTh'
                  go_wp2_with fail
                  go_region
                  go_wp2_with fail
                  have BF := (Blk.fill [.int .i64 qx, .int .i64 0, .int .i64 y] 0 K1.out (by simp)).drew
                  have SF := (psole_setAll (b := w.heap.size + 1) [.int .i64 qx, .int .i64 0, .int .i64 y] 0 wr).drew
                  go_meet
                  case rel => exact ⟨⟨qx, 0, y⟩, [], _, 0, rfl, hst.out, ⟨by simp, by omega, fun _ => rfl, .inl rfl⟩, BF, SF⟩
                · have RTh' := RTh.out none
                  rw [if_neg hf1] at RTh'
                  replace RTh' := hid RTh'
                  go_wp2_with fail
                  go_region
                  go_wp2_with fail
                  have BF := (Blk.fill [.int .i64 qx, .int .i64 0, .int .i64 y] 0 K1.out (by simp)).drew
                  have SF := (psole_setAll (b := w.heap.size + 1) [.int .i64 qx, .int .i64 0, .int .i64 y] 0 wr).drew
                  go_meet
                  case rel => exact ⟨⟨qx, 0, y⟩, ys, _, fc - 1, rfl, hst.out, ⟨by omega, by unfold maxLen; omega, fun e => (by cases e), RTh'.out⟩, BF, SF⟩
            · have hst : Hid (stepP z ⟨qs, qo, qx⟩ fr = some (⟨qs, qo, qx⟩, fr)) := hid (by unfold stepP; simp only; rw [if_neg hsp])
              go_wp2_with fail
              go_meet
              case rel => exact ⟨⟨qs, qo, qx⟩, fr, fq, fc, rfl, hst.out, ⟨HFh.out.1, HFh.out.2.1, HFh.out.2.2.2.1, HFh.out.2.2.2.2⟩, K1.out, Sole.refl _ _⟩
          case rest =>
            obtain ⟨⟨ps, po, px⟩, fr', fq', fc', rfl, hst, HF', J1, SJ⟩ := hcut
            have hGs := HGh.out.step hst
            have hpo2 := hGs.2.1
            have hpo0 := hGs.1.o0
            have hg4 := hGs.1.z4
            have hg32 := hGs.1.z32
            have hfl := hGs.2.2
            simp only at hpo2 hpo0
            have hSJ := hid SJ
            have hsth := hid hst
            have HF'h := hid HF'
            have hG' := hid hGs.1
            have J1h := hid J1
            have J0 := K0.out.sole SJ (by omega)
            have J2 := hid (K2.out.sole SJ (by omega))
            have VJ := hid (HVh.out.sole SJ (fun k hk e => by omega))
            have DJ := hid (HDh.out.trans (SJ.below (by have h := hs3.out; omega) (fun j e => by omega)))
            have hsJ : Hid (w.heap.size + 1 + 1 + 1 ≤ wc.heap.size) := hid (by have h1 := hs3.out; have h2 := SJ.size; omega)
            have KF := hid (fitting_any (z - po - 1) l (some ⟨lb, lo, none⟩) lc HLh.out.1 HLh.out.2.1 (by omega) (by omega) wc (RowOf.more HLh.out.2.2.2 DJ.out))
            have hfit1 := fit_pos (L := l) (left := z - po - 1) hl0h.out (by omega)
            have hfitl := fit_le l (z - po - 1)
            have hfitw := fit_wr l (z - po - 1) (by omega)
            have hpart := hid (show partP z ⟨ps, po, px⟩ l = ⟨⟨ps, po, px⟩, decide (fit l (z - po - 1) = l.length), l.take (fit l (z - po - 1))⟩ from rfl)
            have hbeh := hid (show behindP z ⟨ps, po, px⟩ l = ⟨ps, po + (1 + wrN (l.take (fit l (z - po - 1)))), px⟩ from rfl)
            have hPP : PP = (planK z (k - 1) (behindP z ⟨ps, po, px⟩ l) fr' (l.drop (fit l (z - po - 1)))).map fun r => ((V.map PtV.data ++ [partP z ⟨ps, po, px⟩ l]) ++ r.1, r.2) := by
              have h := HPh.out.2
              obtain ⟨k', rfl⟩ : ∃ k', k = k' + 1 := ⟨k - 1, by have := HPh.out.1; omega⟩
              rw [planK_step hl0h.out hst] at h
              rw [h, Nat.add_sub_cancel]
              simp only [Option.map_map]
              congr 1
              funext r
              simp
            have hk1 : Hid (1 ≤ k ∧ l.length ≤ k) := hid ⟨by have := HPh.out.1; omega, HPh.out.1⟩
            have hPPh := hid hPP
            obtain ⟨N, hN⟩ : ∃ N, fit l (z - po - 1) = N := ⟨_, rfl⟩
            rw [hN] at KF hfit1 hfitl hfitw hpart hbeh hPPh
            have hw2 : IntKind.i64.wrap (z - po) = z - po := IntWalk.i64_in _ ⟨by omega, by omega⟩
            have hw3 : IntKind.i64.wrap (z - po - 1) = z - po - 1 := IntWalk.i64_in _ ⟨by omega, by omega⟩
            obtain ⟨j0, jk0, jf0⟩ := J0
            obtain ⟨j1, jk1, jf1⟩ := J1
            have J0h := hid (K0.out.sole SJ (by omega))
            have hfF : fr'.length ≤ F.length := by have := HFh.out.2.2.1; omega
            have hGB := hid (HGh.out.step hsth.out)
            have hGB := hid (hGB.out.1.behind hpo2 l)
            clear hPP hst HF' SJ hGs hN k0 k1 l0' l1' g0 g1 hw1 HVh HFh HGh HPh K0 K1 K2 HDh hs3
            go_wp2_with fail
            refine KF.out.mono ?_
            rintro e w5 ⟨rfl, hb5⟩
            have M0 := hid (J0h.out.more hb5)
            have M1 := hid (J1h.out.more hb5)
            have M2 := hid (J2.out.more hb5)
            have VM := hid (VJ.out.more hb5)
            have DM := hid (below2 DJ.out hb5 DJ.out.size)
            have hsM : Hid (w.heap.size + 1 + 1 + 1 ≤ w5.heap.size) := hid (by have h1 := hsJ.out; have h2 := hb5.size; omega)
            clear hb5 KF j0 jk0 jf0 j1 jk1 jf1 J0h J1h J2 VJ DJ hsJ hSJ
            go_wp2_with fail
            have hTl : (l.take N).length = N := by rw [List.length_take]; omega
            have KE : Hid (∀ W, Below w.heap.size w W → Calls Try.prog 42 #[.slice (some ⟨lb, lo, none⟩) N lc] W fun e w' => ∃ eq ec, e = .returned (.slice eq N ec) ∧ RowOwn enT w' W.heap.size (.slice eq N ec) (l.take N) ∧ Below W.heap.size W w') := hid (fun W hb => by
              have h := eclone_any (some ⟨lb, lo, none⟩) lc (l.take N) (by omega) W (RowOf.take (RowOf.more HLh.out.2.2.2 hb) N hfitl) (fun e => by cases e)
              rw [hTl] at h
              refine h.mono ?_
              rintro e w' ⟨v, rfl, O, hb'⟩
              obtain ⟨eq, ec, rfl, _⟩ := rowOwn_slice O
              rw [hTl] at O ⊢
              exact ⟨eq, ec, rfl, O, hb'⟩)
            have hTlh := hid hTl
            have hNlc : (N : Int) ≤ (lc : Int) := by have := HLh.out.1; omega
            have hN0 : (0 : Int) ≤ (N : Int) := by omega
            have hlc63 : (lc : Int) ≤ 9223372036854775807 := by have h2 := HLh.out.2.1; unfold maxLen at h2; omega
            have hdec : Hid (((N : Int) == (l.length : Int)) = decide (N = l.length)) := hid (by rw [Bool.eq_iff_iff]; simp; omega)
            obtain ⟨m1, mk1, mf1⟩ := M1.out
            have bel1 := DM.out.drew
            have bel2 := (DM.out.alloc DM.out.size (.cells #[.int .i64 0, .bool false, .slice none 0 0] 83)).drew
            have BA := (Blk.new w5 #[.int .i64 0, .bool false, .slice none 0 0] 83).drew
            have hlt5 : w.heap.size + 1 < w5.heap.size := by have := hsM.out; omega
            have hne5 : ¬ w.heap.size + 1 = w5.heap.size := by omega
            have hw5c : w5.cell? ⟨w.heap.size + 1, 2, none⟩ = some (.int .i64 px) := mk1 2
            have hne5' : ¬ w5.heap.size = w.heap.size + 1 := by omega
            go_cut [14] (fun s14 wx => ∃ (b : Nat) (eq : Option Addr) (ec : Nat), s14 = .pointer (some ⟨b, 0, none⟩) ∧ Blk wx b #[.int .i64 px, .bool (decide (N = l.length)), .slice eq N ec] ∧ RowOwn enT wx (w.heap.size + 1 + 1 + 1) (.slice eq N ec) (l.take N) ∧ (∀ j, (Value.slice eq N ec).ownBlock = some j → w5.heap.size ≤ j) ∧ w5.heap.size ≤ b ∧ Below w5.heap.size w5 wx)
            case first =>
              go_region_held3 (fun w' => w'.cell? ⟨w.heap.size + 1, 2, none⟩ = some (.int .i64 px))
                (first | go_keep | (rw [hb6.cell (p := ⟨w.heap.size + 1, 2, none⟩) (by simp; omega)]; first | assumption | go_keep) | exact (((Below.refl w6.heap.size w6).alloc (Nat.le_refl _) _).cell (p := ⟨w.heap.size + 1, 2, none⟩) hl6).trans ((hb6.cell (p := ⟨w.heap.size + 1, 2, none⟩) (by simp; omega)).trans hw5c) | fail)
                (first
                  | ((with_reducible refine (KE.out _ bel1).mono ?_); rintro e w6 ⟨eq6, ec6, rfl, O6, hb6⟩; have hbA : Below w5.heap.size w5 w6 := ((Below.refl w5.heap.size w5).drew).trans hb6; have hne6 : ¬ w.heap.size + 1 = w6.heap.size := (by have h := hbA.size; omega); have hne6' : ¬ w6.heap.size = w.heap.size + 1 := (by omega); have hl6 : w.heap.size + 1 < w6.heap.size := (by have h := hbA.size; omega))
                  | ((with_reducible refine (KE.out _ bel2).mono ?_); rintro e w6 ⟨eq6, ec6, rfl, O6, hb6⟩; obtain ⟨m6, k6, g6⟩ := BA.more hb6)
                  | fail)
              · go_wp2_with fail
                have BX := Blk.new w6 #[.int .i64 px, .bool ((N : Int) == (l.length : Int)), .slice eq6 N ec6] 83
                rw [hdec.out] at BX
                go_meet
                case rel =>
                  rw [hdec.out]
                  exact ⟨w6.heap.size, eq6, ec6, rfl, BX, (O6.mono (show w.heap.size + 1 + 1 + 1 ≤ w5.heap.size from hsM.out)).alloc _, fun j hj => (O6.within j hj).1, hbA.size, hbA.alloc hbA.size _⟩
              · go_wp2_with fail
                have BX := Blk.fill [.int .i64 px, .bool ((N : Int) == (l.length : Int)), .slice eq6 N ec6] 0 (BA.more hb6) (by simp)
                have S6 := psole_setAll (b := w5.heap.size) [.int .i64 px, .bool ((N : Int) == (l.length : Int)), .slice eq6 N ec6] 0 w6
                have D6 : Below w5.heap.size w5 w6 := ((Below.refl w5.heap.size w5).alloc (Nat.le_refl _) (.cells #[.int .i64 0, .bool false, .slice none 0 0] 83)).drew.trans (hb6.mono (by simp))
                have D7 := below_fill (b := w5.heap.size) (Nat.le_refl _) [.int .i64 px, .bool ((N : Int) == (l.length : Int)), .slice eq6 N ec6] 0 D6
                have hw6 : ∀ j, (Value.slice eq6 N ec6).ownBlock = some j → w5.heap.size + 1 ≤ j := fun j hj => by have h := (O6.within j hj).1; simpa using h
                have O7 := (O6.mono (show w.heap.size + 1 + 1 + 1 ≤ _ by simp; have h := hsM.out; omega)).sole S6 (fun j hj e => by have h := hw6 j hj; omega)
                rw [hdec.out] at BX D7 O7
                go_meet
                case rel =>
                  rw [hdec.out]
                  exact ⟨w5.heap.size, eq6, ec6, rfl, BX, O7, fun j hj => (by have h := hw6 j hj; omega), Nat.le_refl _, D7⟩
            case rest =>
              obtain ⟨b, eq, ec, rfl, BX, OX, OXf, hbb, BelX⟩ := hcut
              rename World => wx
              have hw5 := BelX.size
              have VX := VM.out.more BelX
              have N0 := M0.out.more BelX
              have N1 := M1.out.more BelX
              have N2 := M2.out.more BelX
              have DX := below2 DM.out BelX (by have := hsM.out; omega)
              have hcx : (#[.int .i64 ps, .int .i64 po, .int .i64 px, .int .i64 px, .bool (decide (N = l.length)), .slice eq N ec] : Array Value).toList = ptT.cells ⟨⟨ps, po, px⟩, decide (N = l.length), eq, ec, l.take N⟩ := by
                show _ = ptcells _
                unfold ptcells
                simp only [hTl]
              have hVl : V.length ≤ 1000 := by have := HLh.out.2.2.1; omega
              obtain ⟨v', w7, hr, O7, gr, at7⟩ := append_row ptOk (w.heap.size + 1 + 1 + 1) 71 (wx.alloc (.cells #[.int .i64 ps, .int .i64 po, .int .i64 px, .int .i64 px, .bool (decide (N = l.length)), .slice eq N ec] 85)) _ V (VX.row.alloc _) (some ⟨wx.heap.size, 0, none⟩) 1 [⟨⟨ps, po, px⟩, decide (N = l.length), eq, ec, l.take N⟩] (rowOf_one ptOk (Blk.new wx _ _) hcx) (by show (V.length + 1) * 64 ≤ _; omega) (by unfold maxLen; simp; omega) (by simp; have := hsM.out; omega)
              have hun := VM.out.row.within
              have V7 := hid (PartsOwn.grow VX (x := ⟨⟨ps, po, px⟩, decide (N = l.length), eq, ec, l.take N⟩) (by show RowOwn enT wx _ (.slice eq (l.take N).length ec) (l.take N); rw [hTl]; exact OX) (fun j hj e => by
                have h1 := OXf j (by have h : (Value.slice eq (l.take N).length ec).ownBlock = some j := hj; rw [hTl] at h; exact h)
                have h2 := (hun j e).2
                omega) rfl O7 gr at7)
              have S7 := Sole.grown (S := fun j => w.heap.size + 1 + 1 + 1 ≤ j ∧ j < w5.heap.size) gr (fun k hk => hun k hk)
              have P0 := hid ((N0.alloc (.cells #[.int .i64 ps, .int .i64 po, .int .i64 px, .int .i64 px, .bool (decide (N = l.length)), .slice eq N ec] 85)).sole S7 (by omega))
              have P1 := (N1.alloc (.cells #[.int .i64 ps, .int .i64 po, .int .i64 px, .int .i64 px, .bool (decide (N = l.length)), .slice eq N ec] 85)).sole S7 (by omega)
              have P2 := hid ((N2.alloc (.cells #[.int .i64 ps, .int .i64 po, .int .i64 px, .int .i64 px, .bool (decide (N = l.length)), .slice eq N ec] 85)).sole S7 (by omega))
              have PX := (BX.alloc (.cells #[.int .i64 ps, .int .i64 po, .int .i64 px, .int .i64 px, .bool (decide (N = l.length)), .slice eq N ec] 85)).sole S7 (by omega)
              have QX := (OX.alloc (.cells #[.int .i64 ps, .int .i64 po, .int .i64 px, .int .i64 px, .bool (decide (N = l.length)), .slice eq N ec] 85)).sole S7 (fun j hj => by have := OXf j hj; omega)
              have D7 := hid (Below.grown (DX.alloc (by have := hsM.out; omega) (.cells #[.int .i64 ps, .int .i64 po, .int .i64 px, .int .i64 px, .bool (decide (N = l.length)), .slice eq N ec] 85)) gr (by simp; have := hsM.out; omega) (fun k hk => by have := (hun k hk).1; omega))
              obtain ⟨eqp, ecp, hev, he1, he2, RQ⟩ := QX.open enOk
              rw [hTl] at hev he1
              have hev' : eqp = eq ∧ ecp = ec := by cases hev; exact ⟨rfl, rfl⟩
              obtain ⟨rfl, rfl⟩ := hev'
              have hRQ := hid RQ
              have KW := hid (fun (u : Later w7) => written_any px (decide (N = l.length)) eqp ecp (l.take N) (by rw [hTl]; exact he1) he2 u.val (RowOf.more RQ u.h))
              rw [hTl] at KW
              have hs7 : Hid (w.heap.size + 1 + 1 + 1 ≤ w7.heap.size) := hid (by have h1 := hsM.out; have h2 := gr.size; simp at h2; omega)
              have hdata : Hid ((V ++ [(⟨⟨ps, po, px⟩, decide (N = l.length), eqp, ecp, l.take N⟩ : PtV)]).map PtV.data = V.map PtV.data ++ [partP z ⟨ps, po, px⟩ l]) := hid (by rw [List.map_append, hpart.out]; rfl)
              have hwr0 : (0 : Int) ≤ (wrN (l.take N) : Int) := by omega
              generalize wrN (l.take N) = WR at *
              have hw4 : IntKind.i64.wrap (1 + (WR : Int)) = 1 + (WR : Int) := IntWalk.i64_in _ ⟨by omega, by omega⟩
              have hw5' : IntKind.i64.wrap (po + (1 + (WR : Int))) = po + (1 + (WR : Int)) := IntWalk.i64_in _ ⟨by omega, by omega⟩
              obtain ⟨n1, nk1, nf1⟩ := N1
              obtain ⟨bx, bk, bf⟩ := BX
              have P1h := hid P1
              have PXh := hid PX
              clear KE m1 mk1 mf1 bel1 bel2 BA hlt5 hne5 hw5c hne5' VX N0 N2 DX hcx O7 at7 hun S7 P1 PX QX RQ OX OXf BelX hbb hev hTl gr VM M0 M1 M2 DM hsM hw5 hw2 hw3
              go_wp2_with (at_builtin; refine Lib.wpList_append_run _ rfl _ _ _ _ rfl _ _ rfl rfl _ _ hr ?_)
              have q1 := fun u : Later w7 => u.blk P1h.out
              have qX := fun u : Later w7 => u.blk PXh.out
              refine wp_region_late 7 (by kernel_rfl) (by kernel_rfl) ?_
              simp only [List.take_succ_cons, List.take_zero, List.drop_succ_cons, List.drop_zero]
              iterate 7 (go_big_quiet_step ((go_at_call 28; (with_reducible exact late_call (KW.out _)))))
              refine wpQuiet_nil ?_
              intro w8 h8'
              have h8 := late_out h8'
              have R0 := P0.out.more h8
              have R1 := P1h.out.more h8
              have R2 := P2.out.more h8
              have VR := V7.out.more h8
              have DR := D7.out.trans (h8.mono D7.out.size)
              have S9 : Sole (fun j => j = w.heap.size + 1) w8 (w8.setCell ⟨w.heap.size + 1, 1, none⟩ (.int .i64 (po + (1 + (WR : Int))))) := Sole.setCell (S := fun j => j = w.heap.size + 1) (b := w.heap.size + 1) (o := 1) w8 _ rfl
              have T0 := hid (R0.sole S9 (by omega))
              have T1 : Hid (Blk (w8.setCell ⟨w.heap.size + 1, 1, none⟩ (.int .i64 (po + (1 + (WR : Int))))) (w.heap.size + 1) #[.int .i64 ps, .int .i64 (po + (1 + (WR : Int))), .int .i64 px]) := hid (R1.set 1 _ (by simp))
              have T2 := hid (R2.sole S9 (by omega))
              have VT := hid (VR.sole S9 (fun j hj e => by omega))
              have DT := hid (DR.trans (S9.below (by have := DR.size; omega) (fun j e => by omega)))
              obtain ⟨r1, rk1, rf1⟩ := R1
              have hdl : (l.drop N).length = l.length - N := List.length_drop
              have hNll : (N : Int) ≤ (l.length : Int) := by omega
              have hlllc : (l.length : Int) ≤ (lc : Int) := by have := HLh.out.1; omega
              have hdlh := hid hdl
              have hmeas : l.length - N < l.length := by omega
              clear h8' h8 q1 qX R0 R2 VR DR S9 P0 P1h P2 V7 D7 n1 nk1 nf1 bx bk bf KW hRQ PXh hdl
              by_cases hlcN : lc = N
              · have hdn : l.drop N = [] := List.eq_nil_of_length_eq_zero (by rw [hdlh.out]; omega)
                have hdnh := hid hdn
                have hlN := hid (show l.length - N = 0 by have := HLh.out.1; omega)
                clear hdn
                go_wp2_with fail
                go_roundw
                case rel =>
                  refine ⟨k - 1, ⟨ps, po + (1 + (WR : Int)), px⟩, fr', fq', fc', l.drop N, _, 0, V ++ [⟨⟨ps, po, px⟩, decide (N = l.length), _, _, l.take N⟩], rfl, by rw [hdlh.out, hlN.out], VT.out, ⟨HF'h.out.1, HF'h.out.2.1, hfF, HF'h.out.2.2.1, HF'h.out.2.2.2⟩, ⟨by rw [hdlh.out]; have := HLh.out.1; omega, by have := HLh.out.2.1; omega, by rw [hdlh.out, List.length_append]; have := HLh.out.2.2.1; simp; omega, by rw [hdnh.out]; exact .inl rfl⟩, ?_, ⟨by rw [hdlh.out]; have := hk1.out; omega, ?_⟩, T0.out, T1.out, T2.out, DT.out⟩
                  · have h := hGB.out; rw [hbeh.out] at h; exact h
                  · rw [hdata.out]; have h := hPPh.out; rw [hbeh.out] at h; exact h
                case measure => simp [slLen]; omega
              · have RD := hid (RowOf.drop (T := enT) HLh.out.2.2.2 N)
                go_wp2_with fail
                go_roundw
                case rel =>
                  refine ⟨k - 1, ⟨ps, po + (1 + (WR : Int)), px⟩, fr', fq', fc', l.drop N, _, lc - N, V ++ [⟨⟨ps, po, px⟩, decide (N = l.length), _, _, l.take N⟩], rfl, by rw [hdlh.out]; rfl, VT.out, ⟨HF'h.out.1, HF'h.out.2.1, hfF, HF'h.out.2.2.1, HF'h.out.2.2.2⟩, ⟨by rw [hdlh.out]; have := HLh.out.1; omega, by have := HLh.out.2.1; omega, by rw [hdlh.out, List.length_append]; have := HLh.out.2.2.1; simp; omega, RD.out⟩, ?_, ⟨by rw [hdlh.out]; have := hk1.out; omega, ?_⟩, T0.out, T1.out, T2.out, DT.out⟩
                  · have h := hGB.out; rw [hbeh.out] at h; exact h
                  · rw [hdata.out]; have h := hPPh.out; rw [hbeh.out] at h; exact h
                case measure => simp [slLen]; omega
end Go.Proofs.Ytcklmemnjchdcaa

/-
  Layer 18: the law's beginning; which beginnings may not be.
-/

namespace Go.Proofs.Ytcklmemnjchdcaa
open Go.RowKit
set_option linter.unusedVariables false
set_option linter.unusedSimpArgs false

/-- What is handed back where the log can go on, and all entries may be. -/
def PartsOk (z : Int) (p : Plc) (F : List Int) (L : List En) (w : World) (e : Ending) (w' : World) : Prop :=
  Below w.heap.size w w' ∧
  ((planP z p F L = none ∧ e = .returned (.tuple #[.slice none 0 0, plv0, .slice none 0 0, .int .i64 10])) ∨
   (∃ V q f v vf, planP z p F L = some (V.map PtV.data, q, f) ∧ e = .returned (.tuple #[v, plv q.seg q.off q.next, vf, .int .i64 0]) ∧ PartsOwn w' w.heap.size v V ∧ RowOwn inT w' w.heap.size vf f))
theorem PartsPost.ok {n z : Int} {p : Plc} {F : List Int} {L : List En} {w w' : World} {e : Ending} (h : PartsPost n z p F L w e w') (hp : placedB n z p F = true) (hg : L.all goodE = true) : PartsOk z p F L w e w' := by
  obtain ⟨hb, h | h | h | h⟩ := h
  · rw [hp] at h; exact absurd h.1 (by simp)
  · rw [hg] at h; exact absurd h.2.1 (by simp)
  · exact ⟨hb, .inl ⟨h.2.2.1, h.2.2.2⟩⟩
  · exact ⟨hb, .inr h.2.2⟩

end Go.Proofs.Ytcklmemnjchdcaa

namespace Go.Proofs.Ytcklmemnjchdcaa
open Go.RowKit
set_option linter.unusedVariables false
set_option linter.unusedSimpArgs false

def eqPlc (a b c a' b' c' : Int) : Bool := decide (a = a') && (decide (b = b') && decide (c = c'))
@[go_sem high] theorem eql_plc (a b c a' b' c' : Int) (w : World) : (binOp .eql 30 (.agg #[.int .i64 a, .int .i64 b, .int .i64 c]) (.agg #[.int .i64 a', .int .i64 b', .int .i64 c'])).run Try.prog w = .ok (.bool (eqPlc a b c a' b' c')) w := by
  by_cases h1 : a = a' <;> by_cases h2 : b = b' <;> by_cases h3 : c = c' <;> simp [go_sem, eqPlc, h1, h2, h3]
@[go_sem high] theorem neq_plc (a b c a' b' c' : Int) (w : World) : (binOp .neq 30 (.agg #[.int .i64 a, .int .i64 b, .int .i64 c]) (.agg #[.int .i64 a', .int .i64 b', .int .i64 c'])).run Try.prog w = .ok (.bool (!eqPlc a b c a' b' c')) w := by
  by_cases h1 : a = a' <;> by_cases h2 : b = b' <;> by_cases h3 : c = c' <;> simp [go_sem, eqPlc, h1, h2, h3]
def eqE2 (a b a' b' : Int) : Bool := decide (a = a') && decide (b = b')
@[go_sem high] theorem pneq_en (a b a' b' : Int) (w : World) : (binOp .neq 70 (.agg #[.int .i64 a, .int .i64 b]) (.agg #[.int .i64 a', .int .i64 b'])).run Try.prog w = .ok (.bool (!eqE2 a b a' b')) w := by
  by_cases h1 : a = a' <;> by_cases h2 : b = b' <;> simp [go_sem, eqE2, h1, h2]

abbrev ptagg (x : PtV) : Value := .agg #[.int .i64 x.pl.seg, .int .i64 x.pl.off, .int .i64 x.pl.next, .int .i64 x.pl.next, .bool x.last, .slice x.q x.es.length x.cap]

/-- How many written entries can go. -/
def roomI (n z : Int) (p : Plc) (F : List Int) : Int := if placedB n z p F = true then max (z - p.off - 1) 0 + F.length * (z - 1) else 0

end Go.Proofs.Ytcklmemnjchdcaa
