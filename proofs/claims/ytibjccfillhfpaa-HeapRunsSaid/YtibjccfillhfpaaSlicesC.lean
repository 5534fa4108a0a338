/-
  A slice that comes in, of elements of any type: a row of cells, each element's cells as that type asks.
-/
import Derived.Test.YtibjccfillhfpaaSlices
namespace Go.Proofs.Ytibjccfillhfpaa
open Go.ChangeShapes Go.WideShapes Go.ChangeAt Go.RowKit Go.Joins Go.Deep
set_option linter.unusedVariables false

section
variable {H : Type} {enc : TypeId × Value → H} {P : Program} {w : World} {base : Nat} {spare : Nat → Bool} {held : Bool}
theorem sl_cells {t e : TypeId} {C : Nat} {v : Value} {d : DataW H} {p : List MemPlace} {r : Reach} {b0 : Nat} (ht : P.underlying t = some (.slice e))
    (hC : P.cellsOf e = C) (hpos : 0 < C) (hval : Value.okWide P w r b0 t v) (h : DataW.Trod enc P w base spare held t v d p) :
    ∃ (n : Nat) (G : Nat → List Value), (∃ p cap, v = .slice p n cap ∧ n ≤ cap ∧ cap ≤ maxLen ∧ (n = 0 ∨ ∃ b o, p = some ⟨b, o, none⟩ ∧ b < w.heap.size ∧ ∀ i, i < n → ∀ j u, (G i)[j]? = some u → w.cell? ⟨b, o + i * C + j, none⟩ = some u)) ∧
      ∀ i, i < n → (G i).length = C ∧ ∃ m y, DataW.trod enc P w base spare held m e (G i) = some y := by
  obtain ⟨fuel, hf⟩ := h
  obtain ⟨a0, len, cap, rfl⟩ := okWide_slice ht hval
  rcases open_slice ht hf with ⟨hcs, _⟩ | ⟨a, len', cap', m, n, D, Pl, hcs, hb, hl, hm, hmm, hx, hi⟩
  · simp [Value.cells] at hcs
    obtain ⟨rfl, rfl, rfl⟩ := hcs
    exact ⟨0, fun _ => [], ⟨none, 0, rfl, by omega, by unfold maxLen; omega, .inl rfl⟩, fun i hi => absurd hi (Nat.not_lt_zero _)⟩
  · simp [Value.cells] at hcs
    obtain ⟨rfl, rfl, rfl⟩ := hcs
    have hlm : len ≤ m := by rw [hmm]; split <;> omega
    by_cases h0 : len = 0
    · subst h0
      exact ⟨0, fun _ => [], ⟨some a, cap, rfl, by omega, hm, .inl rfl⟩, fun i hi => absurd hi (Nat.not_lt_zero _)⟩
    · have hex : ∀ i, i < len → ∃ cs : List Value, cs.length = C ∧ (∀ j, j < C → w.cell? ((a.add (i * C)).add j) = cs[j]?) ∧ ∃ m y, DataW.trod enc P w base spare held m e cs = some y := by
        intro i h1
        obtain ⟨cs', hc, ht'⟩ := hi i (by omega)
        rw [hC] at hc
        obtain ⟨_, hcl, hat⟩ := World.cells?_some hc
        exact ⟨cs', hcl, fun j hj => hat j hj, _, _, ht'⟩
      have hexG : ∃ G : Nat → List Value, ∀ i, i < len → (G i).length = C ∧ (∀ j, j < C → w.cell? ((a.add (i * C)).add j) = (G i)[j]?) ∧ ∃ m y, DataW.trod enc P w base spare held m e (G i) = some y :=
        ⟨fun i => Classical.epsilon fun cs : List Value => cs.length = C ∧ (∀ j, j < C → w.cell? ((a.add (i * C)).add j) = cs[j]?) ∧ ∃ m y, DataW.trod enc P w base spare held m e cs = some y, fun i h1 => Classical.epsilon_spec (hex i h1)⟩
      obtain ⟨G, hG⟩ := hexG
      have c0 : w.cell? (a.add 0) = some ((G 0)[0]'(by rw [(hG 0 (by omega)).1]; exact hpos)) := by
        have h := (hG 0 (by omega)).2.1 0 hpos
        rw [List.getElem?_eq_getElem (by rw [(hG 0 (by omega)).1]; exact hpos)] at h
        rw [← h, Nat.zero_mul]
        simp [Addr.add]
      have hsp : a.spot = none := by
        have := World.cell?_spot c0
        simpa [Addr.add] using this
      obtain ⟨b, o, sp⟩ := a
      simp only at hsp
      subst hsp
      have hadd : ∀ o' k, Addr.add ⟨b, o', none⟩ k = ⟨b, o' + k, none⟩ := by
        intro o' k
        unfold Addr.add
        split
        · subst k; rfl
        · rfl
      refine ⟨len, G, ⟨_, cap, rfl, hl, hm, .inr ⟨b, o, rfl, ?_, fun i h1 j u hu => ?_⟩⟩, fun i h1 => ⟨(hG i h1).1, (hG i h1).2.2⟩⟩
      · have := cell_lt c0
        rwa [hadd] at this
      · have hj : j < C := by
          have := (List.getElem?_eq_some_iff.1 hu).1
          rwa [(hG i h1).1] at this
        have := (hG i h1).2.1 j hj
        rw [hadd, hadd, hu] at this
        exact this
end
end Go.Proofs.Ytibjccfillhfpaa
