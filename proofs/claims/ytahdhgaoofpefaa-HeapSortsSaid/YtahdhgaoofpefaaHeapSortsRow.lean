/-
  HeapSorts answers true for any items, and changes nothing that was there: sorted, each is ahead of, or like, the next one; none is lost; which of two is ahead is as the page says. For every input, without a condition.
-/
import Derived.Test.YtahdhgaoofpefaaHeapSorts
import Derived.Test.YtahdhgaoofpefaaHeapArg
import Derived.Test.YtahdhgaoofpefaaLift
import Derived.Test.YtahdhgaoofpefaaOpen
namespace Go.Proofs.Ytahdhgaoofpefaa
open Go.ChangeShapes Go.WideShapes Go.ChangeAt Go.RowKit
set_option linter.unusedVariables false
set_option maxRecDepth 100000

theorem heapSorts_lifted (os : Os) (started : os.Started) (H : Type) (enc : TypeId × Value → H) :
    ReturnsInHanded {} Try.checked os 7 .any (Rows.heapSortsSpec.pre6 enc Try.prog Try.f7 [] false) (Rows.heapSortsSpec.post enc Try.prog Try.f7 false true false false) :=
  lift (C := Try.checked) (s := Rows.heapSortsSpec) own (by kernel_rfl) Try.func7 laidOut rfl rfl Try.underlying4 (by kernel_rfl)
    (fun H ds hd => by match ds, hd with | [d1, d2, d3], _ => rfl) os started H enc
    (ChangeSpec.witness6 (enc := enc) (C := Try.checked) false ⟨#[], #[.slice none 0 0, .agg #[.int .u64 0, .int .u64 0, .int .i64 0, .int .i64 0], .agg #[.int .u64 0, .int .u64 0, .int .i64 0, .int .i64 0]], []⟩ 8 (by kernel_rfl) (by kernel_rfl) (by kernel_rfl) (by kernel_rfl))
    (fun W base args ds ps hval0 hA0 => by
      have hval : ∀ (j : Nat) t v, Try.f7.params[j]? = some t → args[j]? = some v → Value.okWide Try.prog W .any base t v := hval0
      have hA : DataW.TrodAll enc Try.prog W 0 (fun _ => true) true Try.f7.params.toList args.toList ds ps := hA0
      rw [Try.params7] at hA hval
      obtain ⟨v0, s0, d0, e0, p0, q0, g0, h0, r0⟩ := args_cons hA
      obtain ⟨v1, s1, d1, e1, p1, q1, rfl, h1, r1⟩ := args_cons r0
      obtain ⟨v2, s2, d2, e2, p2, q2, rfl, h2, r2⟩ := args_cons r1
      obtain ⟨rfl, _, _⟩ := trodAll_nil r2
      obtain rfl : args = #[v0, v1, v2] := by cases args; simp_all
      obtain ⟨n, f, q, cap, rfl, c1, c2, HR⟩ := its_of (hval 0 42 v0 rfl rfl) h0
      obtain ⟨a, rfl⟩ := it_of (hval 1 52 v1 rfl rfl) h1
      obtain ⟨b, rfl⟩ := it_of (hval 2 52 v2 rfl rfl) h2
      exact heapSorts q n cap f c1 c2 a b W HR)

theorem heapSorts_holds : Rows.HeapSortsSaid :=
  OpenClaim.holds_of_wide 7 Try.f7 rfl rfl rfl rfl rfl rfl rfl ⟨rfl, rfl, rfl, rfl, rfl⟩ rfl rfl rfl rfl rfl (by kernel_rfl) Try.func7 (by kernel_rfl)
    (of_decide_eq_true (by kernel_rfl)) (by unfold Func.isWrapper; rw [if_neg (of_decide_eq_false (by kernel_rfl))]; exact ⟨rfl, rfl⟩)
    (fun os started H enc _ => heapSorts_lifted os started H enc)
#print axioms heapSorts_holds
end Go.Proofs.Ytahdhgaoofpefaa
