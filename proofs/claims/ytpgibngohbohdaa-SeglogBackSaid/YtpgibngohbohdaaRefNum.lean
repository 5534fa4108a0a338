/-
  The document's own numbers as octets, and back.
-/
import Derived.Test.YtpgibngohbohdaaOctClone
import Derived.Test.YtpgibngohbohdaaLittleNum
namespace Go.Proofs.Ytpgibngohbohdaa
open Go.RowKit
set_option linter.unusedVariables false
set_option linter.unusedSimpArgs false

/-- append(s, b): one octet more. -/
theorem push_octet (base : Nat) (ty : TypeId) (w : World) (v : Value) (l : List UInt8) (hown : w.ownsRow base 5 1 v l.length (Lib.byteCells l)) (c : UInt8) (hn : l.length ≤ 10000000000) (hbase : base ≤ w.heap.size) :
    ∃ v' w', (Builtin.append_ #[35, 35] ty #[v, .slice (some ⟨w.heap.size, 0, none⟩) 1 1]).run Try.prog (w.alloc (.cells #[.int .u8 (c.toNat : Int)] 5)) = .ok v' w' ∧ w'.ownsRow base 5 1 v' (l ++ [c]).length (Lib.byteCells (l ++ [c])) ∧ Sole (fun k => v.ownBlock = some k) w w' ∧ Moved w v v' := by
  have hb := Below.alloc (Below.refl w.heap.size w) (Nat.le_refl _) (.cells #[.int .u8 (c.toNat : Int)] 5)
  have O1 := hown.alloc (.cells #[.int .u8 (c.toNat : Int)] 5)
  have hc : Octs (w.alloc (.cells #[.int .u8 (c.toNat : Int)] 5)) (some ⟨w.heap.size, 0, none⟩) [c] := by
    refine .inr ⟨w.heap.size, 0, rfl, by simp, fun i hi => ?_⟩
    have : i = 0 := by simpa using hi
    subst this
    have := (Blk.new w #[.int .u8 (c.toNat : Int)] 5).cell 0
    simp [this]
  obtain ⟨v', w', hr, O, gr, mv⟩ := append_octs base ty _ v l.length _ O1 _ 1 [c] hc (by simp; omega) (by simp; omega)
  refine ⟨v', w', hr, ?_, (Sole.made hb).trans (Sole.grown gr fun k hk => hk), ?_⟩
  · rw [List.length_append, Lib.byteCells_append]; exact O
  · rcases mv with h | ⟨g, h, hg⟩
    · exact .inl h
    · exact .inr ⟨g, h, by simp at hg; omega⟩

theorem neg_tdiv (q : Int) (h1 : -9223372036854775808 ≤ q) (h2 : q ≤ 0) : -9223372036854775808 ≤ q.tdiv 256 ∧ q.tdiv 256 ≤ 0 := by
  have e : q.tdiv 256 = -((-q) / 256) := by
    have := Int.neg_tdiv (-q) 256
    rw [Int.neg_neg] at this
    rw [this, Int.tdiv_eq_ediv_of_nonneg (by omega)]
  omega
theorem neg_octet (m : Int) : ((UInt8.ofNat (m % 256).toNat).toNat : Int) = m % 256 := by
  rw [byte_ofNat]; omega
theorem numOf_drop (l : List UInt8) (j : Nat) (h : j < l.length) : numOf (l.drop j) = numOf (l.drop (j + 1)) * 256 + l[j].toNat := by
  rw [List.drop_eq_getElem_cons h]
  simp only [numOf]
  omega
end Go.Proofs.Ytpgibngohbohdaa
