/-
  Layer 6: the law's own way to say whether a window has a place.
-/
import Derived.Test.YtohdhbamdeenlaaRect
namespace Go.Proofs.Ytohdhbamdeenlaa
open Go.RowKit
set_option linter.unusedVariables false

theorem lawhas_any (a b c d x y : Int) (w : World) :
    Calls Try.prog 47 #[rct a b c d, .int .u32 x, .int .u32 y] w fun e w' => e = .returned (.bool (hasB a b c d x y)) ∧ Below w.heap.size w w' := by
  rcases has_ways a b c d x y with ⟨h1, h2, h3, h4, e⟩ | ⟨h1, e⟩ | ⟨h1, h2, e⟩ | ⟨h1, h2, h3, e⟩ | ⟨h1, h2, h3, h4, e⟩
  all_goals
    rw [e]
    clear e
    go_enter Try.func47, Try.ntmps47
    go_wp2
    go_ret
    exact ⟨rfl, by go_grown⟩
end Go.Proofs.Ytohdhbamdeenlaa
