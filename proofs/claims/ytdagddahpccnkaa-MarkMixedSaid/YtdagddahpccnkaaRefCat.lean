/-
  The document's own: two rows of octets as one.
-/
import Derived.Test.YtdagddahpccnkaaOctClone
namespace Go.Proofs.Ytdagddahpccnkaa
open Go.RowKit
set_option linter.unusedVariables false
set_option linter.unusedSimpArgs false

set_option maxRecDepth 100000 in
set_option maxHeartbeats 2000000 in
theorem refCat_any (l1 l2 : List UInt8) (a1 a2 : Option Addr) (c1 c2 : Nat) (w : World) (O1 : Octs w a1 l1) (O2 : Octs w a2 l2) (hl : l1.length + l2.length ≤ 140737488355328) :
    Calls Try.prog 22 #[.slice a1 l1.length c1, .slice a2 l2.length c2] w fun e w' => ∃ v, e = .returned v ∧ Fresh w w' v (l1 ++ l2) := by
  have OM := World.ownsRow_made (size := 1) (e := 5) (base := w.heap.size) w #[] 0 (Nat.le_refl _) (Nat.zero_le _) rfl
  have hb0 : Below w.heap.size w (w.alloc (.cells #[] 5)) := Below.alloc (Below.refl _ _) (Nat.le_refl _) _
  obtain ⟨v1, w1, hr1, R1, gr1, mv1⟩ := append_octs w.heap.size 33 (w.alloc (.cells #[] 5)) _ 0 [] OM a1 c1 l1 (O1.more hb0) (by omega) (by simp)
  have hb1 := Below.grown hb0 gr1 (by simp) fun k hk => (OM.lt k hk).1
  rw [Nat.zero_add, List.nil_append] at R1
  obtain ⟨v2, w2, hr2, R2, gr2, mv2⟩ := append_octs w.heap.size 33 w1 v1 l1.length _ R1 a2 c2 l2 (O2.more hb1) hl hb1.size
  have hb2 := Below.grown hb1 gr2 hb1.size fun k hk => (R1.lt k hk).1
  have E : Hid (Fresh w w2 v2 (l1 ++ l2)) := hid (by
    have hlen : (l1 ++ l2).length = l1.length + l2.length := List.length_append
    rw [← hlen, ← Lib.byteCells_append] at R2
    rcases R2.2 with ⟨hv, hn⟩ | ⟨g, cap', cur, hv, _⟩
    · exact ⟨none, 0, by rw [hn]; exact hv, by rw [hn] at R2 ⊢; exact hv ▸ R2, hb2⟩
    · exact ⟨some ⟨g, 0, none⟩, cap', hv, hv ▸ R2, hb2⟩)
  clear O1 O2 OM hb0 gr1 mv1 hb1 R1 R2 gr2 mv2 hb2
  replace hl := hid hl
  go_enter Try.func22, Try.ntmps22
  go_wp2_with (first | (at_builtin; refine Lib.wpList_append_run _ rfl _ _ _ _ rfl _ _ rfl rfl _ _ hr1 ?_) | (at_builtin; refine Lib.wpList_append_run _ rfl _ _ _ _ rfl _ _ rfl rfl _ _ hr2 ?_))
  go_ret
  exact ⟨_, rfl, E.out⟩
end Go.Proofs.Ytdagddahpccnkaa
