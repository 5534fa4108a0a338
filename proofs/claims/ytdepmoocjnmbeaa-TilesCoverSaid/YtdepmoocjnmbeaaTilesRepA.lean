/-
  slices.Replace of one cell by some.
-/
import Derived.Test.YtdepmoocjnmbeaaTilesRepO
import Derived.Test.YtdepmoocjnmbeaaTilesRepG
namespace Go.Proofs.Ytdepmoocjnmbeaa
open Go.RowKit
set_option linter.unusedVariables false

theorem replace_any (g c : Nat) (gv cv n i m : Nat) (L K : List Cl) (hn : L.length = n) (hm : K.length = m) (base basev : Nat) (w : World) (hbase : base ≤ w.heap.size) (O : RowOwn clT w base (.slice (some ⟨g, 0, none⟩) n c) L) (OK : RowOwn clT w basev (.slice (some ⟨gv, 0, none⟩) m cv) K) (hgv : g ≠ gv)
    (hi : i < n) (hK : 1 ≤ m) (hb : n + m ≤ 1000) :
    Calls Try.prog 23 #[.slice (some ⟨g, 0, none⟩) n c, .int .i64 i, .int .i64 ((i : Int) + 1), .slice (some ⟨gv, 0, none⟩) m cv] w fun e w' =>
      ∃ q d, e = .returned (.slice q (n - 1 + m) d) ∧ RowOwn clT w' base (.slice q (n - 1 + m) d) (L.take i ++ K ++ L.drop (i + 1)) ∧ Sole (fun k => k = g) w w' ∧ (∀ j, (Value.slice q (n - 1 + m) d).ownBlock = some j → j = g ∨ w.heap.size ≤ j) := by
  by_cases hl : i + 1 = n
  · rw [show n - 1 + m = i + m by omega]
    have R : RowOf clT w (some ⟨gv, 0, none⟩) K := by
      obtain ⟨p, cc, e, _, _, r⟩ := RowOwn.open clOk OK
      simp only [Value.slice.injEq] at e
      rw [← e.1] at r
      exact r
    exact replace_last g c _ cv n i m L K hn hm base w hbase O R hl hK hb
  · by_cases hg : c + 1 < n + m
    · exact replace_grow g c gv cv n i m L K hn hm base basev w hbase O OK hgv (by omega) hK hb hg
    · by_cases h1 : m = 1
      · subst h1
        rw [show n - 1 + 1 = n by omega]
        exact replace_same g c gv cv n i L K hn hm base basev w hbase O OK hgv (by omega) (by omega)
      · exact replace_more g c gv cv n i m L K hn hm base basev w hbase O OK hgv (by omega) (by omega) hb (by omega)
end Go.Proofs.Ytdepmoocjnmbeaa
