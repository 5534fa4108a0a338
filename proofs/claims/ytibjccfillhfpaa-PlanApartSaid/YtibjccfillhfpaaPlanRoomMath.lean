/-
  Layer 18: how many written entries can go; a row made, and filled, entry by entry.
-/
import Derived.Test.YtibjccfillhfpaaPlanIs
import Derived.Laws.OwnMore
import Derived.OwnWalk
namespace Go.Proofs.Ytibjccfillhfpaa
open Go.RowKit
set_option linter.unusedVariables false
set_option linter.unusedSimpArgs false

def roomR (z : Int) (p : Plc) (fr : List Int) : Int := max (z - p.off - 1) 0 + fr.length * (z - 1)
theorem fitN_written : ∀ (l : List En) (left : Int), 0 ≤ left → (∀ e ∈ l, e.k = 1) → fitN l left = min l.length left.toNat
  | [], left, h0, h => by simp [fitN]
  | x :: l, left, h0, h => by
    have hx : nxt x left = left - 1 := by unfold nxt; rw [if_pos (h x List.mem_cons_self)]
    unfold fitN
    rw [hx]
    by_cases h1 : left - 1 < 0
    · rw [if_pos h1]; simp; omega
    · rw [if_neg h1, fitN_written l (left - 1) (by omega) (fun e he => h e (List.mem_cons_of_mem _ he))]
      simp only [List.length_cons]
      omega
theorem wrN_written (l : List En) (h : ∀ e ∈ l, e.k = 1) : wrN l = l.length := by
  unfold wrN
  rw [List.countP_eq_length]
  intro e he
  simp [h e he]

theorem room_plan {n z : Int} : ∀ (k : Nat) (p : Plc) (fr : List Int) (l : List En), GoodP n z p fr → l.length ≤ k → (∀ e ∈ l, e.k = 1) → (planK z k p fr l = none ↔ roomR z p fr < l.length)
  | 0, p, fr, l, G, hk, hw => by
    have : l = [] := List.eq_nil_of_length_eq_zero (by omega)
    subst this
    have h0 : 0 ≤ (fr.length : Int) * (z - 1) := Int.mul_nonneg (by omega) (by have := G.z4; omega)
    simp [planK, roomR]
    omega
  | k + 1, p, fr, l, G, hk, hw => by
    have hm : ∀ f : List Int, 0 ≤ (f.length : Int) * (z - 1) := fun f => Int.mul_nonneg (by omega) (by have := G.z4; omega)
    by_cases hl : l = []
    · subst hl
      have h0 := hm fr
      simp [planK, roomR]
      omega
    · have hlp : 0 < l.length := by
        rcases Nat.eq_zero_or_pos l.length with h | h
        · exact absurd (List.eq_nil_of_length_eq_zero h) hl
        · exact h
      cases hst : stepP z p fr with
      | none =>
        have hfr : fr = [] ∧ z - p.off < 2 := by
          unfold stepP at hst
          split at hst
          · rename_i h
            cases fr with
            | nil => exact ⟨rfl, h⟩
            | cons a b => simp at hst
          · simp at hst
        obtain ⟨rfl, h2⟩ := hfr
        rw [planK_none hl hk hst]
        have : roomR z p [] = 0 := by unfold roomR; simp; omega
        rw [this]
        simp
        omega
      | some r =>
        obtain ⟨q, f⟩ := r
        have hG := G.step hst
        have hroom : roomR z p fr = (z - q.off - 1) + f.length * (z - 1) := by
          have hq := hG.2.1
          unfold stepP at hst
          split at hst
          · rename_i h
            cases fr with
            | nil => simp at hst
            | cons a b =>
              simp at hst
              obtain ⟨rfl, rfl⟩ := hst
              unfold roomR
              simp only [List.length_cons]
              have e : ((b.length + 1 : Nat) : Int) * (z - 1) = (b.length : Int) * (z - 1) + (z - 1) := by
                rw [Int.natCast_add, Int.add_mul]; simp
              rw [e]
              omega
          · rename_i h
            simp at hst
            obtain ⟨rfl, rfl⟩ := hst
            unfold roomR
            omega
        have hq2 := hG.2.1
        have hq0 := hG.1.o0
        have h32 := G.z32
        have hfit : fit l (z - q.off - 1) = min l.length (z - q.off - 1).toNat := by
          unfold fit
          rw [fitN_written l _ (by omega) hw]
          omega
        rw [planK_step hl hst]
        have ih := room_plan k (behindP z q l) f (l.drop (fit l (z - q.off - 1))) (hG.1.behind hq2 l) (by rw [List.length_drop, hfit]; omega) (fun e he => hw e (List.mem_of_mem_drop he))
        have hmap : ∀ r : Option (List PtD × Plc × List Int), (r.map fun r => (partP z q l :: r.1, r.2)) = none ↔ r = none := fun r => by cases r <;> simp
        rw [hmap, ih]
        have hwr : (wrN (l.take (fit l (z - q.off - 1))) : Int) = fit l (z - q.off - 1) := by
          rw [wrN_written _ (fun e he => hw e (List.mem_of_mem_take he)), List.length_take]
          have := fit_le l (z - q.off - 1)
          omega
        have hb : roomR z (behindP z q l) f = max (z - q.off - 1 - fit l (z - q.off - 1) - 1) 0 + f.length * (z - 1) := by
          unfold roomR behindP
          simp only
          rw [hwr]
          omega
        rw [hb, hroom, List.length_drop]
        have h0 := hm f
        generalize (f.length : Int) * (z - 1) = Q at *
        rw [hfit]
        omega

theorem flatE_set : ∀ (L : List En) (i : Nat) (x : En), i < L.length → flatR enT (L.set i x) = ((flatR enT L).set (i * 2) (.int .i64 x.k)).set (i * 2 + 1) (.int .i64 x.i)
  | [], i, x, h => absurd h (Nat.not_lt_zero _)
  | q :: L, 0, x, h => by simp [flatR, enT, ecells]
  | q :: L, i + 1, x, h => by
    have ih := flatE_set L i x (by simpa using h)
    simp only [flatR, List.flatMap_cons, List.set_cons_succ] at ih ⊢
    rw [ih]
    have e : ∀ (k : Nat) (M : List Value) (v : Value), (enT.cells q ++ M).set ((i + 1) * 2 + k) v = enT.cells q ++ M.set (i * 2 + k) v := by
      intro k M v
      rw [List.set_append_right _ _ (by simp [enT, ecells]; omega)]
      congr 2
      simp [enT, ecells]; omega
    have e0 := e 0
    simp only [Nat.add_zero] at e0
    rw [e0, e]
theorem zero_ens (n : Nat) : (madeCells (Value.agg #[.int .i64 0, .int .i64 0]).cells (n * 2)).toList = flatR enT (List.replicate n ⟨0, 0⟩) := by
  apply List.ext_getElem?
  intro t
  by_cases h : t < n * 2
  · rw [flatR_at enOk (List.replicate n ⟨0, 0⟩) t (by rw [List.length_replicate]; exact h)]
    have hr : atR enT (List.replicate n ⟨0, 0⟩) (t / enT.sz) = ⟨0, 0⟩ := by
      rw [atR_eq _ _ (by rw [List.length_replicate]; show t / 2 < n; omega), List.getElem_replicate]
    rw [hr, Array.getElem?_toList]
    unfold madeCells
    rw [Array.getElem?_map, Array.getElem?_range, if_pos h]
    show _ = (ecells ⟨0, 0⟩)[t % 2]?
    have h4 : t % 2 = 0 ∨ t % 2 = 1 := by omega
    rcases h4 with h4 | h4 <;> simp [ecells, Value.cells, h4]
  · rw [List.getElem?_eq_none (by simp [size_madeCells]; omega), List.getElem?_eq_none (by rw [flatR_length enOk, List.length_replicate]; show n * 2 ≤ t; omega)]
theorem own_full {w : World} {base : Nat} {e : TypeId} {size g n : Nat} {xs : List Value} (h : w.ownsRow base e size (.slice (some ⟨g, 0, none⟩) n n) n xs) : ∃ c : Array Value, Blk w g c ∧ c.toList = xs := by
  rcases h.2 with ⟨hv, _⟩ | ⟨g', cap, cur, hv, hb, hg, h1, h2, h3, h4⟩
  · simp at hv
  · simp at hv
    obtain ⟨rfl, rfl⟩ := hv
    exact ⟨cur, ⟨(h.lt g rfl).2, fun o => by simp [World.cell?, hg], fun o => by simp [World.frozen?, hg]⟩, by rw [← h4, List.take_of_length_le (by simp; omega)]⟩
theorem rowOf_blk {α : Type} {T : RowT α} (K : T.Ok) {w : World} {b : Nat} {c : Array Value} {L : List α} (B : Blk w b c) (hc : c.toList = flatR T L) : RowOf T w (some ⟨b, 0, none⟩) L := by
  refine .inr ⟨b, 0, rfl, B.lt, fun i hi j v hv => ?_⟩
  rw [Nat.zero_add, B.cell, ← Array.getElem?_toList, hc]
  rw [atR_eq L i hi] at hv
  exact flatR_get K L i j hi v hv

/-- The row, filled up to the i-th one. -/
def fillE (i m : Nat) : List En := (List.range m).map fun j => if j < i then ⟨1, 1 + ((j % 255 : Nat) : Int)⟩ else ⟨0, 0⟩
theorem fillE_len (i m : Nat) : (fillE i m).length = m := by simp [fillE]
theorem fillE_zero (m : Nat) : fillE 0 m = List.replicate m ⟨0, 0⟩ := by
  apply List.ext_getElem
  · simp [fillE]
  · intro j h1 h2; simp [fillE]
theorem fillE_set (i m : Nat) (h : i < m) : (fillE i m).set i ⟨1, 1 + ((i % 255 : Nat) : Int)⟩ = fillE (i + 1) m := by
  apply List.ext_getElem
  · simp [fillE]
  · intro j h1 h2
    rw [List.getElem_set]
    by_cases e : i = j
    · subst e; rw [if_pos rfl]; simp [fillE]
    · rw [if_neg e]
      simp only [fillE, List.getElem_map, List.getElem_range]
      by_cases h3 : j < i
      · rw [if_pos h3, if_pos (by omega)]
      · rw [if_neg h3, if_neg (by omega)]
theorem fillE_all (m : Nat) : ∀ e ∈ fillE m m, e.k = 1 ∧ goodE e = true := by
  intro e he
  simp only [fillE, List.mem_map, List.mem_range] at he
  obtain ⟨j, hj, rfl⟩ := he
  rw [if_pos hj]
  refine ⟨rfl, ?_⟩
  simp only [goodE, Bool.and_eq_true, Bool.or_eq_true, decide_eq_true_eq]
  have : j % 255 < 255 := Nat.mod_lt _ (by omega)
  exact ⟨by simp, by omega, by omega⟩
end Go.Proofs.Ytibjccfillhfpaa
