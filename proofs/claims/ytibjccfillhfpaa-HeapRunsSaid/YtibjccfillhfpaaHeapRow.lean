/-
  Items in a row of the call's own: a list of them, the row that a walk reads, a store into it.
-/
import Derived.Test.YtibjccfillhfpaaHeapMath
import Derived.Test.YtibjccfillhfpaaSlices
import Derived.Test.YtibjccfillhfpaaSole
import Derived.Test.YtibjccfillhfpaaAidMore
import Derived.WalkKit
import Derived.Deep.RegionLaw
import Derived.Deep.RegionHeld3
import Derived.Deep.AppendLies
namespace Go.Proofs.Ytibjccfillhfpaa
open Go.RowKit
set_option linter.unusedVariables false
set_option linter.unusedSimpArgs false

theorem itTab : (Try.prog.info? 55).map (fun i => (i.zero, i.size, i.bytes)) = some (some (.agg #[.int .u64 0, .int .u64 0, .int .i64 0, .int .i64 0]), 4, 32) := by kernel_rfl

/-- The cells of items, one behind the other. -/
def flatI (L : List It) : List Value := L.flatMap icells
theorem flatI_append (L M : List It) : flatI (L ++ M) = flatI L ++ flatI M := by simp [flatI]
theorem flatI_one (q : It) : flatI [q] = icells q := by simp [flatI]
theorem flatI_length : ∀ L : List It, (flatI L).length = L.length * 4
  | [] => rfl
  | q :: L => by
    have h := flatI_length L
    simp only [flatI, List.flatMap_cons, List.length_append, List.length_cons] at h ⊢
    rw [h]
    simp [icells]
    omega
theorem flatI_get : ∀ (L : List It) (i j : Nat) (hi : i < L.length) (v : Value), (icells L[i])[j]? = some v → (flatI L)[i * 4 + j]? = some v
  | [], i, j, hi, v, h => absurd hi (Nat.not_lt_zero _)
  | q :: L, 0, j, hi, v, h => by
    have hj : j < (icells q).length := (List.getElem?_eq_some_iff.1 h).1
    simp only [flatI, List.flatMap_cons, Nat.zero_mul, Nat.zero_add]
    rw [List.getElem?_append_left hj]
    exact h
  | q :: L, i + 1, j, hi, v, h => by
    have ih := flatI_get L i j (by simpa using hi) v (by simpa using h)
    simp only [flatI, List.flatMap_cons]
    rw [List.getElem?_append_right (by simp [icells]; omega)]
    rw [show (i + 1) * 4 + j - (icells q).length = i * 4 + j by simp [icells]; omega]
    exact ih
theorem flatI_set : ∀ (L : List It) (i : Nat) (x : It), i < L.length → flatI (L.set i x) = ((((flatI L).set (i * 4) (.int .u64 x.h)).set (i * 4 + 1) (.int .u64 x.l)).set (i * 4 + 2) (.int .i64 x.o)).set (i * 4 + 3) (.int .i64 x.i)
  | [], i, x, h => absurd h (Nat.not_lt_zero _)
  | q :: L, 0, x, h => by simp [flatI, icells]
  | q :: L, i + 1, x, h => by
    have ih := flatI_set L i x (by simpa using h)
    simp only [flatI, List.flatMap_cons, List.set_cons_succ] at ih ⊢
    rw [ih]
    have e : ∀ (k : Nat) (M : List Value) (v : Value), (icells q ++ M).set ((i + 1) * 4 + k) v = icells q ++ M.set (i * 4 + k) v := by
      intro k M v
      rw [List.set_append_right _ _ (by simp [icells]; omega)]
      congr 2
      simp [icells]; omega
    have e0 := e 0
    simp only [Nat.add_zero] at e0
    rw [e0, e, e, e]
theorem itAt_eq (L : List It) (i : Nat) (hi : i < L.length) : itAt L i = L[i] := by simp [itAt, List.getD, hi]

/-- A row of the call's own holds these items. -/
def ItsOwn (w : World) (base : Nat) (v : Value) (L : List It) : Prop := w.ownsRow base 55 4 v L.length (flatI L)
theorem ItsOwn.nil (w : World) (base : Nat) : ItsOwn w base (.slice none 0 0) [] := World.ownsRow_nil _ _ _ _
theorem ItsOwn.more {w w' : World} {base : Nat} {v : Value} {L : List It} (h : ItsOwn w base v L) (hb : Below w.heap.size w w') : ItsOwn w' base v L :=
  own_sole h (Sole.made (S := fun _ => False) hb) fun _ _ x => x
theorem ItsOwn.sole {S : Nat → Prop} {w w' : World} {base : Nat} {v : Value} {L : List It} (h : ItsOwn w base v L) (hs : Sole S w w') (hn : ∀ k, v.ownBlock = some k → ¬ S k) : ItsOwn w' base v L := own_sole h hs hn
theorem ItsOwn.open {w : World} {base : Nat} {v : Value} {L : List It} (h : ItsOwn w base v L) :
    ∃ p cap, v = .slice p L.length cap ∧ L.length ≤ cap ∧ cap ≤ maxLen ∧ RowP w p 4 L.length (fun i => icells (itAt L i)) := by
  rcases h.2 with ⟨rfl, h0⟩ | ⟨g, cap, cur, rfl, hb, hg, h1, h2, h3, h4⟩
  · exact ⟨none, 0, by rw [h0], by omega, Nat.zero_le _, .inl h0⟩
  · refine ⟨_, cap, rfl, h1, h2, .inr ⟨g, 0, rfl, (h.lt g rfl).2, fun i hi j u hu => ?_⟩⟩
    rw [itAt_eq L i hi] at hu
    have hf := flatI_get L i j hi u hu
    have := h.cells (g := g) rfl (i * 4 + j) u hf
    rw [Nat.zero_add]
    unfold Addr.add at this
    split at this
    · rename_i e
      simpa [e] using this
    · simpa using this
/-- A row that is not empty: its block. -/
theorem ItsOwn.blk {w : World} {base : Nat} {v : Value} {L : List It} (h : ItsOwn w base v L) (hn : 0 < L.length) :
    ∃ g cap, v = .slice (some ⟨g, 0, none⟩) L.length cap ∧ base ≤ g ∧ g < w.heap.size ∧ L.length ≤ cap ∧ cap ≤ maxLen ∧ Row w g 0 4 L.length (fun i => icells (itAt L i)) ∧ ∀ o, w.frozen? ⟨g, o, none⟩ = false := by
  obtain ⟨p, cap, e, h1, h2, R⟩ := h.open
  rcases h.2 with ⟨_, h0⟩ | ⟨g, cap', cur, e', hb, hg, h3, h4, h5, h6⟩
  · omega
  · rw [e'] at e
    cases e
    obtain ⟨b, o, e2, R2⟩ := R.row (by omega)
    cases e2
    exact ⟨g, cap, e', hb, (h.lt g (by rw [e']; rfl)).2, h1, h2, R2, fun o => by simp [World.frozen?, hg]⟩
theorem own_setC {w : World} {base g cap size : Nat} {e : TypeId} {n : Nat} {xs : List Value} (h : w.ownsRow base e size (.slice (some ⟨g, 0, none⟩) n cap) n xs) (j : Nat) (v : Value) : (w.setCell ⟨g, j, none⟩ v).ownsRow base e size (.slice (some ⟨g, 0, none⟩) n cap) n (xs.set j v) := by
  refine ⟨by rw [List.length_set]; exact h.1, .inr ?_⟩
  rcases h.2 with ⟨hv, _⟩ | ⟨g', cap', cur, hv, hb, hg, h1, h2, h3, h4⟩
  · cases hv
  · cases hv
    refine ⟨g, cap, cur.setIfInBounds j v, rfl, hb, Lib.heap_setCell_same hg v, h1, h2, by simpa using h3, ?_⟩
    rw [Array.toList_setIfInBounds, ← h4, List.take_set]
/-- An item stored. -/
theorem ItsOwn.put {w : World} {base g n cap : Nat} {L : List It} (h : ItsOwn w base (.slice (some ⟨g, 0, none⟩) n cap) L) (hn : L.length = n) (i : Nat) (hi : i < L.length) (x : It) :
    ItsOwn ((((w.setCell ⟨g, i * 4, none⟩ (.int .u64 x.h)).setCell ⟨g, i * 4 + 1, none⟩ (.int .u64 x.l)).setCell ⟨g, i * 4 + 2, none⟩ (.int .i64 x.o)).setCell ⟨g, i * 4 + 3, none⟩ (.int .i64 x.i)) base (.slice (some ⟨g, 0, none⟩) n cap) (L.set i x) := by
  unfold ItsOwn at *
  rw [List.length_set, hn, flatI_set L i x hi]
  rw [hn] at h
  exact own_setC (own_setC (own_setC (own_setC h _ _) _ _) _ _) _ _
/-- The last one off. -/
theorem ItsOwn.drop {w : World} {base : Nat} {p : Option Addr} {cap m : Nat} {K : List It} (hL : K.length = m + 1) (h : ItsOwn w base (.slice p (m + 1) cap) K) : ItsOwn w base (.slice p m cap) K.dropLast := by
  unfold ItsOwn at *
  obtain ⟨hx, h2⟩ := h
  rw [hL] at hx h2
  rcases h2 with ⟨e, h0⟩ | ⟨g, cap', cur, e, hb, hg, h3, h4, h5, h6⟩
  · omega
  · cases e
    have hl : K.dropLast.length = m := by rw [List.length_dropLast, hL]; rfl
    have hne : K ≠ [] := by intro e; rw [e] at hL; simp at hL
    have hf : flatI K = flatI K.dropLast ++ icells (K.getLast hne) := by
      rw [← flatI_one, ← flatI_append, List.dropLast_concat_getLast]
    have hfl : (flatI K.dropLast).length = m * 4 := by rw [flatI_length, hl]
    refine ⟨by rw [hl]; exact hfl, .inr ⟨g, cap, cur, by rw [hl], hb, hg, by omega, h4, h5, ?_⟩⟩
    rw [hl]
    have e2 : cur.toList.take (m * 4) = (cur.toList.take ((m + 1) * 4)).take (m * 4) := by rw [List.take_take]; congr 1; omega
    rw [e2, h6, hf, List.take_left' hfl]

/-- A heap at block h: a slice of its own, and what lies in it. -/
structure HeapS (w : World) (h B : Nat) (v : Value) (L : List It) : Prop where
  box : Blk w h #[v]
  own : ItsOwn w B v L
  ne : ∀ k, v.ownBlock = some k → k ≠ h
theorem HeapS.sole {S : Nat → Prop} {w w' : World} {h B : Nat} {v : Value} {L : List It} (H : HeapS w h B v L) (hs : Sole S w w') (h1 : ¬ S h) (h2 : ∀ k, v.ownBlock = some k → ¬ S k) : HeapS w' h B v L :=
  ⟨H.box.sole hs h1, H.own.sole hs h2, H.ne⟩
theorem HeapS.more {w w' : World} {h B : Nat} {v : Value} {L : List It} (H : HeapS w h B v L) (hb : Below w.heap.size w w') : HeapS w' h B v L :=
  ⟨H.box.more hb, H.own.more hb, H.ne⟩
end Go.Proofs.Ytibjccfillhfpaa
