/-
  Layer 18: where entries go, part by part, and how far the log is behind them, is as the page says; or why they can't.
-/
import Derived.Test.YtibjccfillhfpaaPlanTellsA
import Derived.Test.YtibjccfillhfpaaPlanTellsB
import Derived.Test.YtibjccfillhfpaaPlanTellsC
namespace Go.Proofs.Ytibjccfillhfpaa
open Go.RowKit
set_option linter.unusedVariables false

theorem planTells (n z s o x : Int) (fp : Option Addr) (fcap : Nat) (F : List Int) (lp : Option Addr) (lcap : Nat) (L0 : List En) (f1 : F.length ≤ fcap) (f2 : fcap ≤ maxLen) (f3 : F.length ≤ 17592186044416) (f4 : fp = none → F = []) (l1 : L0.length ≤ lcap) (l2 : lcap ≤ maxLen) (w : World) (RF : RowOf inT w fp F) (RL0 : RowOf enT w lp L0) :
    Calls Try.prog 3 #[geo n z, plv s o x, .slice fp F.length fcap, .slice lp L0.length lcap] w fun e w' => e = .returned (.bool true) ∧ Below w.heap.size w w' := by
  cases h1 : placedB n z ⟨s, o, x⟩ F with
  | false => exact planTellsA n z s o x fp fcap F lp lcap L0 f1 f2 f3 f4 l1 l2 w RF RL0 (.inl h1)
  | true =>
    cases h2 : (L0.take 200).all goodE with
    | false => exact planTellsA n z s o x fp fcap F lp lcap L0 f1 f2 f3 f4 l1 l2 w RF RL0 (.inr h2)
    | true =>
      by_cases h3 : planP z ⟨s, o, x⟩ F (L0.take 200) = none
      · exact planTellsB n z s o x fp fcap F lp lcap L0 f1 f2 f3 f4 l1 l2 w RF RL0 ⟨h1, h2, h3⟩
      · exact planTellsC n z s o x fp fcap F lp lcap L0 f1 f2 f3 f4 l1 l2 w RF RL0 ⟨h1, h2, h3⟩
end Go.Proofs.Ytibjccfillhfpaa
