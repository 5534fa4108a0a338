/-
  append(s, t...) of octets: s a row of the call's own, t any octets; where the new row lies.
-/
import Derived.Test.YtcklmemnjchdcaaOct
import Derived.Test.YtcklmemnjchdcaaLittleZeros
namespace Go.Proofs.Ytcklmemnjchdcaa
open Go.RowKit
set_option linter.unusedVariables false
set_option linter.unusedSimpArgs false

/-- The row is where it was, or new. -/
def Moved (w : World) (v v' : Value) : Prop := v'.ownBlock = v.ownBlock ∨ ∃ g, v'.ownBlock = some g ∧ w.heap.size ≤ g

theorem Moved.refl (w : World) (v : Value) : Moved w v v := .inl rfl
theorem Moved.trans {w w1 : World} {v v1 v2 : Value} (h : Moved w v v1) (k : Moved w1 v1 v2) (hs : w.heap.size ≤ w1.heap.size) : Moved w v v2 := by
  rcases k with k | ⟨g, k, hg⟩
  · rcases h with h | ⟨g, h, hg⟩
    · exact .inl (k.trans h)
    · exact .inr ⟨g, k.trans h, hg⟩
  · exact .inr ⟨g, k, by omega⟩

theorem append_octs (base : Nat) (ty : TypeId) (w : World) (v : Value) (n : Nat) (xs : List Value) (hown : w.ownsRow base 5 1 v n xs) (a : Option Addr) (c : Nat) (l : List UInt8) (hl : Octs w a l) (hn : n + l.length ≤ 140737488355328) (hbase : base ≤ w.heap.size) :
    ∃ v' w', (Builtin.append_ #[51, 51] ty #[v, .slice a l.length c]).run Try.prog w = .ok v' w' ∧ w'.ownsRow base 5 1 v' (n + l.length) (xs ++ Lib.byteCells l) ∧ w.grownBy w' v.ownBlock ∧ Moved w v v' := by
  obtain ⟨i, hi, hz, hs, hby⟩ := info_parts u8Info
  have ht := Try.underlying51
  by_cases h0 : l = []
  · subst h0
    refine ⟨v, w, ?_, by simpa [Lib.byteCells] using hown, ⟨rfl, rfl, rfl, Nat.le_refl _, fun _ _ _ => rfl⟩, .inl rfl⟩
    rcases hown.2 with ⟨rfl, rfl⟩ | ⟨g, cap, cur, rfl, hbg, hg, hnc, hcm, hcs, htake⟩
    · cases a <;> simp [Builtin.append_, run_underlying ht, sizeOf, typeInfo, hi, hs, Builtin.lenOf, Builtin.firstCells, loadCells, loadCellsFrom, storeCells]
    · cases a <;> simp [Builtin.append_, run_underlying ht, sizeOf, typeInfo, hi, hs, Builtin.lenOf, Builtin.firstCells, loadCells, loadCellsFrom, storeCells, hnc]
  · obtain ⟨b, o, rfl, lt, hc⟩ := hl.row h0
    have hp : 0 < l.length := List.length_pos_iff.2 h0
    have hnews : ∀ j u, (Lib.byteCells l)[j]? = some u → w.cell? ((⟨b, o, none⟩ : Addr).add j) = some u := by
      intro j u hu
      have hj : j < l.length := by
        have := (List.getElem?_eq_some_iff.1 hu).1
        rwa [Lib.byteCells_length] at this
      have e : (⟨b, o, none⟩ : Addr).add j = ⟨b, o + j, none⟩ := by
        unfold Addr.add
        split
        · subst j; rfl
        · rfl
      rw [e, hc j hj, ← hu]
      simp [Lib.byteCells, hj]
    have hlen : (Lib.byteCells l).length = l.length * 1 := by rw [Lib.byteCells_length, Nat.mul_one]
    obtain ⟨v', w', hr, O, G, N⟩ := run_append_own (P := Try.prog) w base 51 ty 5 i (.int .u8 0) 1 1 ht hi hz hs hby rfl (by omega) v n xs hown ⟨b, o, none⟩ l.length c (Lib.byteCells l) hlen hnews (Lib.byteCells_one l) (by unfold maxLen; omega) (by omega) hbase
    refine ⟨v', w', hr, O, G, ?_⟩
    rcases hown.2 with ⟨rfl, rfl⟩ | ⟨g, cap, cur, rfl, hbg, hg, hnc, hcm, hcs, htake⟩
    · have hx0 : xs = [] := List.eq_nil_of_length_eq_zero (by simpa using hown.1)
      have h2 := run_append_nil (P := Try.prog) w 51 ty 5 i (.int .u8 0) ht hi hz ⟨b, o, none⟩ l.length c (Lib.byteCells l) (by rw [hs]; exact hlen) hnews hp (by omega) (by rw [hby]; omega)
      rw [h2] at hr
      cases hr
      exact .inr ⟨_, rfl, Nat.le_refl _⟩
    · by_cases hroom : n + l.length ≤ cap
      · have h2 := run_append_room (P := Try.prog) w 51 ty 5 i ht hi g n cap cur hg ⟨b, o, none⟩ l.length c (Lib.byteCells l) (by rw [hs]; exact hlen) hnews (Lib.byteCells_one l) hroom (by rw [hs, hlen, hcs]; omega)
        rw [h2] at hr
        cases hr
        exact .inl rfl
      · have h2 := run_append_grow (P := Try.prog) w 51 ty 5 i (.int .u8 0) ht hi hz ⟨g, 0, none⟩ n cap xs (by rw [hs]; exact hown.1) (hown.cells (g := g) rfl) ⟨b, o, none⟩ l.length c (Lib.byteCells l) (by rw [hs]; exact hlen) hnews (by omega) (by omega) (growslice_fits (by omega) (by rw [hby]; omega))
        rw [h2] at hr
        cases hr
        exact .inr ⟨_, rfl, Nat.le_refl _⟩

/-- The same of zeros. -/
theorem append_zeros_new (base : Nat) (ty : TypeId) (w : World) (v : Value) (n : Nat) (xs : List Value) (hown : w.ownsRow base 5 1 v n xs) (m : Nat) (hm : n + m ≤ 1000000) (hbase : base ≤ w.heap.size) :
    ∃ v' w', (Builtin.append_ #[51, 3] ty #[v, .int .i64 m]).run Try.prog w = .ok v' w' ∧ w'.ownsRow base 5 1 v' (n + m) (xs ++ List.replicate m (.int .u8 0)) ∧ w.grownBy w' v.ownBlock ∧ Moved w v v' := by
  obtain ⟨v', w', hr, O, G, N⟩ := append_zeros_own base ty w v n xs hown m hm hbase
  exact ⟨v', w', hr, O, G, N⟩
/-- The value of a slice of the call's own: these octets. -/
def Fresh (w w' : World) (v : Value) (l : List UInt8) : Prop := ∃ a cap, v = .slice a l.length cap ∧ w'.ownsRow w.heap.size 5 1 (.slice a l.length cap) l.length (Lib.byteCells l) ∧ Below w.heap.size w w'

/-- The text of octets, wherever. -/
theorem conv_octs {w : World} {a : Option Addr} {l : List UInt8} (h : Octs w a l) (cap : Nat) : (convert 51 9 (.slice a l.length cap)).run Try.prog w = .ok (.string (textOf l)) w := by
  by_cases h0 : l = []
  · subst h0
    rw [List.length_nil, run_convert_bytes_string (P := Try.prog) w _ _ _ a 0 cap Try.underlying51 Try.underlying5 Try.underlying9]
    rcases a with _ | x
    · simp [Conv.bytesToString]; rfl
    · simp [Conv.bytesToString]; rfl
  · obtain ⟨b, o, rfl, _, _⟩ := h.row h0
    exact h.text _ _ _ cap Try.underlying51 Try.underlying5 Try.underlying9 (fun x hx => by cases hx; rfl)

end Go.Proofs.Ytcklmemnjchdcaa
