/-
  bytes.Clone, and bytes.Equal.
-/
import Derived.Test.YtcklmemnjchdcaaOctAppend
import Derived.Test.YtcklmemnjchdcaaAidMore
import Derived.WalkKit
namespace Go.Proofs.Ytcklmemnjchdcaa
open Go.RowKit
set_option linter.unusedVariables false
set_option linter.unusedSimpArgs false

set_option maxRecDepth 100000 in
set_option maxHeartbeats 2000000 in
theorem bclone_any (l : List UInt8) (a : Option Addr) (cap : Nat) (w : World) (O : Octs w a l) (hl : l.length ≤ 140737488355328) :
    Calls Try.prog 31 #[.slice a l.length cap] w fun e w' => ∃ v, e = .returned v ∧ Fresh w w' v l := by
  rcases a with _ | x
  · obtain rfl : l = [] := by
      rcases O with h | ⟨b, o, e, _⟩
      · exact h
      · cases e
    have ke := fun w => Lib.run_eql_slice_nil_nil (P := Try.prog) w (t := 51) (e := 5) 0 cap Try.underlying51
    go_enter Try.func31, Try.ntmps31
    go_wp2_with fail
    go_ret
    exact ⟨_, rfl, none, 0, rfl, World.ownsRow_nil _ _ _ _, Below.refl _ _⟩
  · have ke := fun w => Lib.run_eql_slice_some_nil (P := Try.prog) w (t := 51) (e := 5) x l.length cap Try.underlying51
    have OM := World.ownsRow_made (size := 1) (e := 5) (base := w.heap.size) w #[] 0 (Nat.le_refl _) (Nat.zero_le _) rfl
    have hb0 : Below w.heap.size w (w.alloc (.cells #[] 5)) := Below.alloc (Below.refl _ _) (Nat.le_refl _) _
    obtain ⟨v', w', hr, O', gr, mv⟩ := append_octs w.heap.size 51 (w.alloc (.cells #[] 5)) _ 0 [] OM (some x) cap l (O.more hb0) (by omega) (by simp)
    have E : Hid (Fresh w w' v' l) := hid (by
      rw [Nat.zero_add, List.nil_append] at O'
      have hb := Below.grown hb0 gr (by simp) fun k hk => (OM.lt k hk).1
      rcases O'.2 with ⟨hv, hn⟩ | ⟨g, cap', cur, hv, _⟩
      · exact ⟨none, 0, by rw [hn]; exact hv, by rw [hn] at O' ⊢; exact hv ▸ O', hb⟩
      · exact ⟨some ⟨g, 0, none⟩, cap', hv, hv ▸ O', hb⟩)
    clear O OM hb0 O' gr mv
    replace hl := hid hl
    go_enter Try.func31, Try.ntmps31
    go_wp2_with (at_builtin; refine Lib.wpList_append_run _ rfl _ _ _ _ rfl _ _ rfl rfl _ _ hr ?_)
    go_ret
    exact ⟨_, rfl, E.out⟩
set_option maxRecDepth 100000 in
theorem bequal_any (l m : List UInt8) (a c : Option Addr) (ca cc : Nat) (w : World) (A : Octs w a l) (C : Octs w c m) :
    Calls Try.prog 98 #[.slice a l.length ca, .slice c m.length cc] w fun e w' => e = .returned (.bool (decide (l = m))) ∧ w' = w := by
  have h1 := conv_octs A ca
  have h2 := conv_octs C cc
  have hd : ((textOf l).toList == (textOf m).toList) = decide (l = m) := by
    rw [Bool.eq_iff_iff, beq_iff_eq, ByteArray.toList_eq, ByteArray.toList_eq, decide_eq_true_eq]
  obtain ⟨q, hq⟩ : ∃ q, decide (l = m) = q := ⟨_, rfl⟩
  rw [hq] at hd ⊢
  clear hq A C
  generalize textOf l = s at *
  generalize textOf m = t at *
  generalize l.length = n1 at *
  generalize m.length = n2 at *
  go_enter Try.func98, Try.ntmps98
  go_wp2_with fail
  go_ret
  exact ⟨rfl, rfl⟩
end Go.Proofs.Ytcklmemnjchdcaa
