/-
  slices.Clone of octets.
-/
import Derived.Test.YtpgibngohbohdaaOctAppend
import Derived.Test.YtpgibngohbohdaaAidMore
import Derived.WalkKit
namespace Go.Proofs.Ytpgibngohbohdaa
open Go.RowKit
set_option linter.unusedVariables false
set_option linter.unusedSimpArgs false

set_option maxRecDepth 100000 in
set_option maxHeartbeats 2000000 in
theorem clone_any (l : List UInt8) (a : Option Addr) (cap : Nat) (w : World) (O : Octs w a l) (hl : l.length ≤ 140737488355328) :
    Calls Try.prog 101 #[.slice a l.length cap] w fun e w' => ∃ v, e = .returned v ∧ Fresh w w' v l := by
  rcases a with _ | x
  · obtain rfl : l = [] := by
      rcases O with h | ⟨b, o, e, _⟩
      · exact h
      · cases e
    have ke := fun w => Lib.run_eql_slice_nil_nil (P := Try.prog) w (t := 35) (e := 5) 0 cap Try.underlying35
    go_enter Try.func101, Try.ntmps101
    go_wp2_with fail
    go_ret
    exact ⟨_, rfl, none, 0, rfl, World.ownsRow_nil _ _ _ _, Below.refl _ _⟩
  · have ke := fun w => Lib.run_eql_slice_some_nil (P := Try.prog) w (t := 35) (e := 5) x l.length cap Try.underlying35
    have OM := World.ownsRow_made (size := 1) (e := 5) (base := w.heap.size) w #[] 0 (Nat.le_refl _) (Nat.zero_le _) rfl
    have hb0 : Below w.heap.size w (w.alloc (.cells #[] 5)) := Below.alloc (Below.refl _ _) (Nat.le_refl _) _
    obtain ⟨v', w', hr, O', gr, mv⟩ := append_octs w.heap.size 35 (w.alloc (.cells #[] 5)) _ 0 [] OM (some x) cap l (O.more hb0) (by omega) (by simp)
    have E : Hid (Fresh w w' v' l) := hid (by
      rw [Nat.zero_add, List.nil_append] at O'
      have hb := Below.grown hb0 gr (by simp) fun k hk => (OM.lt k hk).1
      rcases O'.2 with ⟨hv, hn⟩ | ⟨g, cap', cur, hv, _⟩
      · exact ⟨none, 0, by rw [hn]; exact hv, by rw [hn] at O' ⊢; exact hv ▸ O', hb⟩
      · exact ⟨some ⟨g, 0, none⟩, cap', hv, hv ▸ O', hb⟩)
    clear O OM hb0 O' gr mv
    replace hl := hid hl
    go_enter Try.func101, Try.ntmps101
    go_wp2_with (at_builtin; refine Lib.wpList_append_run _ rfl _ _ _ _ rfl _ _ rfl rfl _ _ hr ?_)
    go_ret
    exact ⟨_, rfl, E.out⟩
end Go.Proofs.Ytpgibngohbohdaa
