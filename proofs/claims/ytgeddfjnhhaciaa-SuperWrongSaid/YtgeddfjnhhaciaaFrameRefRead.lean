/-
  The document's own sectors: Read.
-/
import Derived.Test.YtgeddfjnhhaciaaFrameRefSound
namespace Go.Proofs.Ytgeddfjnhhaciaa
open Go.RowKit
set_option linter.unusedVariables false
set_option linter.unusedSimpArgs false

theorem Octs.low {B : Nat} {w w' : World} {b o : Nat} {l : List UInt8} (h : Octs w (some ⟨b, o, none⟩) l) (hb : Below B w w') (hlt : b < B) : Octs w' (some ⟨b, o, none⟩) l := by
  refine h.imp id ?_
  rintro ⟨b', o', e, lt, hc⟩
  cases e
  exact ⟨b, o, rfl, Nat.lt_of_lt_of_le lt hb.size, fun i hi => (hb.cell (p := ⟨b, _, none⟩) hlt).trans (hc i hi)⟩
theorem stay3 {w : World} {b g i : Nat} {x y z : Value} (h : b ≠ g) : ((((w.setCell ⟨g, 0, none⟩ x).setCell ⟨g, 1, none⟩ y).setCell ⟨g, 2, none⟩ z).drew).cell? ⟨b, i, none⟩ = w.cell? ⟨b, i, none⟩ := by
  have e : ∀ (w : World) (o : Nat) (v : Value), (w.setCell ⟨g, o, none⟩ v).cell? ⟨b, i, none⟩ = w.cell? ⟨b, i, none⟩ := fun w o v =>
    World.cell?_of_block (a := ⟨b, i, none⟩) (Below.heap_setCell _ _ _ _ h)
  exact ((e _ _ _).trans (e _ _ _)).trans (e _ _ _)
theorem one_at (l : List UInt8) (i : Nat) (h : i < l.length) : numOf ((l.drop i).take 1) = byteAt l i := by
  rw [List.drop_eq_getElem_cons h, byteAt_get l i h, List.take_succ_cons, List.take_zero]
  simp [numOf]
theorem good_iff (l : List UInt8) (hlen : l.length = 256) (hs : soundB l = true) :
    goodB l = true ↔ byteAt l 0 = 67 ∧ byteAt l 1 = 82 ∧ txtN l ≤ 238 ∧ ∀ j, 14 + txtN l ≤ j → j < 252 → byteAt l j = 0 := by
  have b0 := byteAt_get l 0 (by omega)
  have b1 := byteAt_get l 1 (by omega)
  have t2 : l.take 2 = [67, 82] ↔ byteAt l 0 = 67 ∧ byteAt l 1 = 82 := by
    rw [b0, b1]
    have : l.take 2 = [l[0], l[1]] := by
      rw [show (2 : Nat) = 0 + 1 + 1 from rfl, List.take_succ_eq_append_getElem (by omega), List.take_succ_eq_append_getElem (by omega)]
      rfl
    rw [this]
    simp only [List.cons.injEq, and_true, ← UInt8.toNat_inj]
    rfl
  have z : ((l.take 252).drop (14 + txtN l)).all (· == 0) = true ↔ ∀ j, 14 + txtN l ≤ j → j < 252 → byteAt l j = 0 := by
    rw [List.all_eq_true]
    constructor
    · intro h j h1 h2
      have hm : l[j]'(by omega) ∈ (l.take 252).drop (14 + txtN l) := by
        rw [List.mem_iff_getElem]
        refine ⟨j - (14 + txtN l), by rw [List.length_drop, List.length_take]; omega, ?_⟩
        rw [List.getElem_drop, List.getElem_take]
        congr 1
        omega
      have := h _ hm
      rw [byteAt_get l j (by omega)]
      simp at this
      rw [this]; rfl
    · intro h x hx
      obtain ⟨i, hi, rfl⟩ := List.getElem_of_mem hx
      rw [List.length_drop, List.length_take] at hi
      have := h (14 + txtN l + i) (by omega) (by omega)
      rw [byteAt_get l _ (by omega)] at this
      rw [List.getElem_drop, List.getElem_take]
      simp only [beq_iff_eq]
      exact UInt8.toNat_inj.1 this
  unfold goodB
  rw [hs]
  simp only [Bool.true_and, Bool.and_eq_true, decide_eq_true_eq]
  rw [t2, z]
  exact and_assoc
def ReadPost (l : List UInt8) (w : World) (e : Ending) (w' : World) : Prop :=
  ∃ v, e = .returned (.tuple #[.int .i64 (openK l), sval (openS l), v, .bool (goodB l)]) ∧ OctV w' v (openT l) ∧ Below w.heap.size w w'

end Go.Proofs.Ytgeddfjnhhaciaa
