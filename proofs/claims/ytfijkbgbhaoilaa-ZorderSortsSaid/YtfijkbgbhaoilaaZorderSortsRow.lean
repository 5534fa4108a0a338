/-
  ZorderSorts answers true for any points, and changes nothing that was there: sorted, points rise by place in one row, then Id, then Data; none is lost. For every input, without a condition.
-/
import Derived.Test.YtfijkbgbhaoilaaZorderSorts
import Derived.Test.YtfijkbgbhaoilaaPtsArg
import Derived.Test.YtfijkbgbhaoilaaOctArg
import Derived.Test.YtfijkbgbhaoilaaLiftSized
namespace Go.Proofs.Ytfijkbgbhaoilaa
open Go.ChangeShapes Go.WideShapes Go.ChangeAt Go.RowKit
set_option linter.unusedVariables false
set_option maxRecDepth 100000

theorem zorderSorts_lifted (os : Os) (started : os.Started) (H : Type) (enc : TypeId × Value → H) :
    ReturnsInHanded {} Try.checked os 3 .any (Rows.zorderSortsSpec.pre6 enc Try.prog Try.f3 [] false) (Rows.zorderSortsSpec.post enc Try.prog Try.f3 false true false false) :=
  lift_sized (C := Try.checked) (s := Rows.zorderSortsSpec) own (by kernel_rfl) Try.func3 laidOut rfl rfl Try.underlying4 (by kernel_rfl)
    (fun H ds hd => by match ds, hd with | [d1, d2], _ => rfl) os started H enc
    (ChangeSpec.witness6 (enc := enc) (C := Try.checked) false ⟨#[], #[.slice none 0 0, .slice none 0 0], []⟩ 8 (by kernel_rfl) (by kernel_rfl) (by kernel_rfl) (by kernel_rfl))
    (fun W base args ds ps hval0 hA0 hsz0 => by
      have hval : ∀ (j : Nat) t v, Try.f3.params[j]? = some t → args[j]? = some v → Value.okWide Try.prog W .any base t v := hval0
      have hA : DataW.TrodAll enc Try.prog W 0 (fun _ => true) true Try.f3.params.toList args.toList ds ps := hA0
      have hsz : (DataW.weightsEach Try.prog (Try.f3.params.toList ++ Rows.zorderSortsSpec.plain.varTypes Try.prog) (ds ++ [])).all (· ≤ reachBytes) = true := hsz0
      rw [Try.params3] at hA hval hsz
      obtain ⟨v0, s0, d0, e0, p0, q0, g0, rfl, h0, r0⟩ := args_consd hA
      obtain ⟨v1, s1, d1, e1, p1, q1, rfl, rfl, h1, r1⟩ := args_consd r0
      obtain ⟨rfl, rfl, _⟩ := trodAll_nil r1
      obtain rfl : args = #[v0, v1] := by cases args; simp_all
      obtain ⟨n, f, q, cap, rfl, n1, n2, nok, Rn, nd⟩ := ptsd_of (hval 0 22 v0 rfl rfl) h0
      have nr := pts_reach hsz (j := 0) rfl rfl nd
      obtain ⟨m, g, r, dap, rfl, m1, m2, mok, Rm, md⟩ := ptsd_of (hval 1 22 v1 rfl rfl) h1
      have mr := pts_reach hsz (j := 1) rfl rfl md
      exact zorderSorts q n cap f nok nr n1 n2 r m dap g mok m1 m2 W Rn Rm)

theorem zorderSorts_holds : Rows.ZorderSortsSaid :=
  OpenClaim.holds_of_wide 3 Try.f3 rfl rfl rfl rfl rfl rfl rfl ⟨rfl, rfl, rfl, rfl, rfl⟩ rfl rfl rfl rfl rfl (by kernel_rfl) Try.func3 (by kernel_rfl)
    (of_decide_eq_true (by kernel_rfl)) (by unfold Func.isWrapper; rw [if_neg (of_decide_eq_false (by kernel_rfl))]; exact ⟨rfl, rfl⟩)
    (fun os started H enc _ => zorderSorts_lifted os started H enc)
#print axioms zorderSorts_holds
end Go.Proofs.Ytfijkbgbhaoilaa
