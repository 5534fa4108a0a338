/-
  Layer 18: where entries go, as data.
-/
import Derived.Test.YtibjccfillhfpaaEn
namespace Go.Proofs.Ytibjccfillhfpaa
open Go.RowKit
set_option linter.unusedVariables false
set_option linter.unusedSimpArgs false

/-- Entries as a row's elements. -/
def enT : RowT En := { ty := 34, sl := 27, sz := 2, bytes := 16, zero := .agg #[.int .i64 0, .int .i64 0], cells := ecells, dflt := ⟨0, 0⟩ }
theorem enOk : enT.Ok := ⟨Try.underlying27, by kernel_rfl, rfl, by decide, fun _ => rfl, fun x u hu => by
  simp [enT, ecells] at hu
  rcases hu with rfl | rfl <;> rfl⟩
def inT : RowT Int := { ty := 3, sl := 26, sz := 1, bytes := 8, zero := .int .i64 0, cells := fun x => [.int .i64 x], dflt := 0 }
theorem inOk : inT.Ok := ⟨Try.underlying26, by kernel_rfl, rfl, by decide, fun _ => rfl, fun x u hu => by
  simp [inT] at hu
  rcases hu with rfl; rfl⟩
abbrev enAt (L : List En) (i : Nat) : En := atR enT L i
abbrev inAt (L : List Int) (i : Nat) : Int := atR inT L i
theorem en_rowp {w : World} {q : Option Addr} {L : List En} (h : RowOf enT w q L) : RowP w q 2 L.length (fun i => ecells (enAt L i)) := h
theorem in_rowp {w : World} {q : Option Addr} {L : List Int} (h : RowOf inT w q L) : RowP w q 1 L.length (fun i => [.int .i64 (inAt L i)]) := h
theorem enAt_cons (x : En) (L : List En) (i : Nat) : enAt (x :: L) (i + 1) = enAt L i := rfl
theorem drop_at {α : Type} (T : RowT α) (L : List α) (k : Nat) (h : k < L.length) : L.drop k = atR T L k :: L.drop (k + 1) := by
  rw [atR_eq L k h]; exact List.drop_eq_getElem_cons h

/-- How many are written. -/
def wrN (L : List En) : Nat := L.countP (fun e => decide (e.k = 1))
theorem wrN_le (L : List En) : wrN L ≤ L.length := List.countP_le_length
theorem wrN_cons (x : En) (L : List En) : wrN (x :: L) = wrN L + if x.k = 1 then 1 else 0 := by
  unfold wrN
  rw [List.countP_cons]
  simp
theorem wrN_append (L M : List En) : wrN (L ++ M) = wrN L + wrN M := List.countP_append
theorem wrN_take (L : List En) (k : Nat) (h : k < L.length) : wrN (L.take (k + 1)) = wrN (L.take k) + if (enAt L k).k = 1 then 1 else 0 := by
  rw [List.take_add_one, List.getElem?_eq_getElem h, wrN_append, ← atR_eq (T := enT) L k h]
  show wrN (L.take k) + wrN [enAt L k] = _
  rw [wrN_cons]
  simp [wrN]

/-- How many go, one behind the other, if so many written ones may; and of one part. -/
def nxt (x : En) (left : Int) : Int := if x.k = 1 then left - 1 else left
theorem nxt_ways (x : En) (left : Int) : (x.k = 1 ∧ nxt x left = left - 1) ∨ (¬ x.k = 1 ∧ nxt x left = left) := by
  unfold nxt
  by_cases h : x.k = 1
  · exact .inl ⟨h, if_pos h⟩
  · exact .inr ⟨h, if_neg h⟩
def fitN : List En → Int → Nat
  | [], _ => 0
  | x :: l, left => if nxt x left < 0 then 0 else fitN l (nxt x left) + 1
def fit (L : List En) (left : Int) : Nat := min (fitN L left) 64
theorem fitN_le : ∀ (L : List En) (left : Int), fitN L left ≤ L.length
  | [], _ => Nat.le_refl _
  | x :: l, left => by
    unfold fitN
    split
    · exact Nat.zero_le _
    · exact Nat.succ_le_succ (fitN_le l _)
theorem fit_le (L : List En) (left : Int) : fit L left ≤ L.length := Nat.le_trans (Nat.min_le_left _ _) (fitN_le L left)
theorem fit_64 (L : List En) (left : Int) : fit L left ≤ 64 := Nat.min_le_right _ _
theorem fitN_step (L : List En) (left : Int) (k : Nat) (h : k < L.length) :
    fitN (L.drop k) (left - wrN (L.take k)) = if left - wrN (L.take (k + 1)) < 0 then 0 else fitN (L.drop (k + 1)) (left - wrN (L.take (k + 1))) + 1 := by
  rw [drop_at enT L k h, wrN_take L k h]
  show (if nxt (enAt L k) (left - wrN (L.take k)) < 0 then 0 else fitN _ (nxt (enAt L k) (left - wrN (L.take k))) + 1) = _
  have e : nxt (enAt L k) (left - wrN (L.take k)) = left - ((wrN (L.take k) + if (enAt L k).k = 1 then 1 else 0 : Nat) : Int) := by
    rcases nxt_ways (enAt L k) (left - wrN (L.take k)) with ⟨h1, h2⟩ | ⟨h1, h2⟩
    · rw [h2, if_pos h1]; omega
    · rw [h2, if_neg h1]; omega
  rw [e]
theorem fitN_wr : ∀ (L : List En) (left : Int) (k : Nat), 0 ≤ left → k ≤ fitN L left → (wrN (L.take k) : Int) ≤ left
  | [], left, k, h0, hk => by simp [wrN]; exact h0
  | x :: l, left, 0, h0, hk => by simp [wrN]; exact h0
  | x :: l, left, k + 1, h0, hk => by
    unfold fitN at hk
    split at hk
    · omega
    · rename_i hn
      have := fitN_wr l _ k (by omega) (Nat.le_of_succ_le_succ hk)
      rw [List.take_succ_cons, wrN_cons]
      rcases nxt_ways x left with ⟨h1, h2⟩ | ⟨h1, h2⟩
      · rw [if_pos h1]; omega
      · rw [if_neg h1]; omega
theorem fit_wr (L : List En) (left : Int) (h0 : 0 ≤ left) : (wrN (L.take (fit L left)) : Int) ≤ left := fitN_wr L left _ h0 (Nat.min_le_left _ _)
theorem fit_pos {L : List En} {left : Int} (h : L ≠ []) (h1 : 1 ≤ left) : 1 ≤ fit L left := by
  cases L with
  | nil => exact absurd rfl h
  | cons x l =>
    have : 1 ≤ fitN (x :: l) left := by
      unfold fitN
      split
      · rename_i hn; rcases nxt_ways x left with ⟨h1, h2⟩ | ⟨h1, h2⟩ <;> omega
      · omega
    unfold fit
    omega

/-- A place of the log. -/
structure Plc where
  seg : Int
  off : Int
  next : Int
/-- A part: where, whether it is the last, what. -/
structure PtD where
  pl : Plc
  last : Bool
  es : List En

/-- The segment goes on, or the next one begins. -/
def stepP (z : Int) (p : Plc) (fr : List Int) : Option (Plc × List Int) :=
  if z - p.off < 2 then
    match fr with
    | [] => none
    | x :: xs => some (⟨p.next, 0, x⟩, xs)
  else some (p, fr)
def partP (z : Int) (q : Plc) (l : List En) : PtD := ⟨q, decide (fit l (z - q.off - 1) = l.length), l.take (fit l (z - q.off - 1))⟩
def behindP (z : Int) (q : Plc) (l : List En) : Plc := ⟨q.seg, q.off + (1 + wrN (l.take (fit l (z - q.off - 1)))), q.next⟩
def planK (z : Int) : Nat → Plc → List Int → List En → Option (List PtD × Plc × List Int)
  | 0, p, fr, _ => some ([], p, fr)
  | k + 1, p, fr, l => if l = [] then some ([], p, fr) else
    match stepP z p fr with
    | none => none
    | some (q, f) => (planK z k (behindP z q l) f (l.drop (fit l (z - q.off - 1)))).map fun r => (partP z q l :: r.1, r.2)
/-- All of it. -/
def planP (z : Int) (p : Plc) (fr : List Int) (l : List En) : Option (List PtD × Plc × List Int) := planK z l.length p fr l

theorem planK_nil (z : Int) (p : Plc) (fr : List Int) : ∀ k, planK z k p fr [] = some ([], p, fr)
  | 0 => rfl
  | k + 1 => by simp [planK]
theorem planK_none {z : Int} {k : Nat} {p : Plc} {fr : List Int} {l : List En} (hl : l ≠ []) (hk : l.length ≤ k) (h : stepP z p fr = none) : planK z k p fr l = none := by
  cases k with
  | zero => exact absurd (List.eq_nil_of_length_eq_zero (by omega)) hl
  | succ k => simp [planK, hl, h]
theorem planK_step {z : Int} {k : Nat} {p q : Plc} {fr f : List Int} {l : List En} (hl : l ≠ []) (h : stepP z p fr = some (q, f)) :
    planK z (k + 1) p fr l = (planK z k (behindP z q l) f (l.drop (fit l (z - q.off - 1)))).map fun r => (partP z q l :: r.1, r.2) := by
  simp [planK, hl, h]

/-- A place, and free segments, that may be. -/
structure GoodP (n z : Int) (p : Plc) (fr : List Int) : Prop where
  n6 : 6 ≤ n
  n32 : n ≤ 32
  z4 : 4 ≤ z
  z32 : z ≤ 32
  s0 : 0 ≤ p.seg
  sn : p.seg < n
  o0 : 0 ≤ p.off
  oz : p.off ≤ z
  x0 : 0 ≤ p.next
  xn : p.next < n
  fr : ∀ x ∈ fr, 0 ≤ x ∧ x < n
theorem GoodP.step {n z : Int} {p q : Plc} {fr f : List Int} (G : GoodP n z p fr) (h : stepP z p fr = some (q, f)) : GoodP n z q f ∧ q.off + 2 ≤ z ∧ f.length ≤ fr.length := by
  unfold stepP at h
  split at h
  · cases fr with
    | nil => simp at h
    | cons x xs =>
      simp at h
      obtain ⟨rfl, rfl⟩ := h
      have hx := G.fr x (List.mem_cons_self)
      exact ⟨⟨G.n6, G.n32, G.z4, G.z32, G.x0, G.xn, by simp, by have := G.z4; simp; omega, hx.1, hx.2, fun y hy => G.fr y (List.mem_cons_of_mem _ hy)⟩, by have := G.z4; simp; omega, by simp⟩
  · rename_i h0
    simp at h
    obtain ⟨rfl, rfl⟩ := h
    exact ⟨G, by omega, Nat.le_refl _⟩
theorem GoodP.behind {n z : Int} {q : Plc} {f : List Int} (G : GoodP n z q f) (ho : q.off + 2 ≤ z) (l : List En) : GoodP n z (behindP z q l) f := by
  have h := fit_wr l (z - q.off - 1) (by omega)
  have h0 := G.o0
  exact ⟨G.n6, G.n32, G.z4, G.z32, G.s0, G.sn, by simp only [behindP]; omega, by simp only [behindP]; omega, G.x0, G.xn, G.fr⟩
end Go.Proofs.Ytibjccfillhfpaa
