/-
  Layer 46: the law's own word: is a place within the window of two others?
-/
import Derived.Test.YtjenhnigdgkkoaaTrackStr
namespace Go.Proofs.Ytjenhnigdgkkoaa
open Go.RowKit
set_option linter.unusedVariables false
set_option linter.unusedSimpArgs false

set_option maxRecDepth 100000 in
set_option maxHeartbeats 4000000 in
theorem between46 (P A B : Pt) (w : World) : Calls Try.prog 27 #[ptv P, ptv A, ptv B] w fun e w' => e = .returned (.bool (wit (p2 P) (p2 A) (p2 B))) ∧ Below w.heap.size w w' := by
  have hw : wit (p2 P) (p2 A) (p2 B) = ((decide (min A.x B.x ≤ P.x) && decide (P.x ≤ max A.x B.x)) && (decide (min A.y B.y ≤ P.y) && decide (P.y ≤ max A.y B.y))) := rfl
  obtain ⟨pi, px, py, pd⟩ := P
  obtain ⟨ai, ax, ay, ad⟩ := A
  obtain ⟨bi, bx, by', bd⟩ := B
  unfold ptv
  simp only at *
  obtain ⟨B0, B1, B2, H⟩ := @boxed3 w _ #[.int .i64 pi, .int .u32 px, .int .u32 py, .string pd] #[.int .i64 ai, .int .u32 ax, .int .u32 ay, .string ad] #[.int .i64 bi, .int .u32 bx, .int .u32 by', .string bd] 25 25 25 (Below.refl _ _)
  have HH := hid H
  obtain ⟨l0, k0, f0⟩ := B0
  obtain ⟨l1, k1, f1⟩ := B1
  obtain ⟨l2, k2, f2⟩ := B2
  clear H
  rw [hw]
  clear hw
  generalize hmx : min ax bx = mx at *
  generalize hMx : max ax bx = Mx at *
  generalize hmy : min ay by' = my at *
  generalize hMy : max ay by' = My at *
  have e1 : mx ≤ px ∨ ¬ mx ≤ px := Classical.em _
  have e2 : px ≤ Mx ∨ ¬ px ≤ Mx := Classical.em _
  have e3 : my ≤ py ∨ ¬ my ≤ py := Classical.em _
  have e4 : py ≤ My ∨ ¬ py ≤ My := Classical.em _
  rcases e1 with e1 | e1
  · rcases e2 with e2 | e2
    · rcases e3 with e3 | e3
      · rcases e4 with e4 | e4
        all_goals
          go_enter Try.func27, Try.ntmps27
          go_wp2_with fail
          go_ret
          exact ⟨by simp [e1, e2, e3, e4], HH.out⟩
      · go_enter Try.func27, Try.ntmps27
        go_wp2_with fail
        go_ret
        refine ⟨?_, HH.out⟩
        simp
        intros
        omega
    · go_enter Try.func27, Try.ntmps27
      go_wp2_with fail
      go_ret
      refine ⟨?_, HH.out⟩
      simp
      intros
      omega
  · go_enter Try.func27, Try.ntmps27
    go_wp2_with fail
    go_ret
    refine ⟨?_, HH.out⟩
    simp
    intros
    omega
end Go.Proofs.Ytjenhnigdgkkoaa
