/-
  slices.Clone of octets.
-/
import Derived.Test.YtdagddahpccnkaaOctAppend
import Derived.Test.YtdagddahpccnkaaAidMore
import Derived.WalkKit
namespace Go.Proofs.Ytdagddahpccnkaa
open Go.RowKit
set_option linter.unusedVariables false
set_option linter.unusedSimpArgs false

/-- The value of a slice of the call's own: these octets. -/
def Fresh (w w' : World) (v : Value) (l : List UInt8) : Prop := ∃ a cap, v = .slice a l.length cap ∧ w'.ownsRow w.heap.size 5 1 (.slice a l.length cap) l.length (Lib.byteCells l) ∧ Below w.heap.size w w'

set_option maxRecDepth 100000 in
set_option maxHeartbeats 2000000 in
theorem clone_any (l : List UInt8) (a : Option Addr) (cap : Nat) (w : World) (O : Octs w a l) (hl : l.length ≤ 140737488355328) :
    Calls Try.prog 37 #[.slice a l.length cap] w fun e w' => ∃ v, e = .returned v ∧ Fresh w w' v l := by
  rcases a with _ | x
  · obtain rfl : l = [] := by
      rcases O with h | ⟨b, o, e, _⟩
      · exact h
      · cases e
    have ke := fun w => Lib.run_eql_slice_nil_nil (P := Try.prog) w (t := 33) (e := 5) 0 cap Try.underlying33
    go_enter Try.func37, Try.ntmps37
    go_wp2_with fail
    go_ret
    exact ⟨_, rfl, none, 0, rfl, World.ownsRow_nil _ _ _ _, Below.refl _ _⟩
  · have ke := fun w => Lib.run_eql_slice_some_nil (P := Try.prog) w (t := 33) (e := 5) x l.length cap Try.underlying33
    have OM := World.ownsRow_made (size := 1) (e := 5) (base := w.heap.size) w #[] 0 (Nat.le_refl _) (Nat.zero_le _) rfl
    have hb0 : Below w.heap.size w (w.alloc (.cells #[] 5)) := Below.alloc (Below.refl _ _) (Nat.le_refl _) _
    obtain ⟨v', w', hr, O', gr, mv⟩ := append_octs w.heap.size 33 (w.alloc (.cells #[] 5)) _ 0 [] OM (some x) cap l (O.more hb0) (by omega) (by simp)
    have E : Hid (Fresh w w' v' l) := hid (by
      rw [Nat.zero_add, List.nil_append] at O'
      have hb := Below.grown hb0 gr (by simp) fun k hk => (OM.lt k hk).1
      rcases O'.2 with ⟨hv, hn⟩ | ⟨g, cap', cur, hv, _⟩
      · exact ⟨none, 0, by rw [hn]; exact hv, by rw [hn] at O' ⊢; exact hv ▸ O', hb⟩
      · exact ⟨some ⟨g, 0, none⟩, cap', hv, hv ▸ O', hb⟩)
    clear O OM hb0 O' gr mv
    replace hl := hid hl
    go_enter Try.func37, Try.ntmps37
    go_wp2_with (at_builtin; refine Lib.wpList_append_run _ rfl _ _ _ _ rfl _ _ rfl rfl _ _ hr ?_)
    go_ret
    exact ⟨_, rfl, E.out⟩
/-- The text of octets, wherever. -/
theorem conv_octs {w : World} {a : Option Addr} {l : List UInt8} (h : Octs w a l) (cap : Nat) : (convert 33 9 (.slice a l.length cap)).run Try.prog w = .ok (.string (textOf l)) w := by
  by_cases h0 : l = []
  · subst h0
    rw [List.length_nil, run_convert_bytes_string (P := Try.prog) w _ _ _ a 0 cap Try.underlying33 Try.underlying5 Try.underlying9]
    rcases a with _ | x
    · simp [Conv.bytesToString]; rfl
    · simp [Conv.bytesToString]; rfl
  · obtain ⟨b, o, rfl, _, _⟩ := h.row h0
    exact h.text _ _ _ cap Try.underlying33 Try.underlying5 Try.underlying9 (fun x hx => by cases hx; rfl)

end Go.Proofs.Ytdagddahpccnkaa
