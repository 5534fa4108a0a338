/-
  ZorderTells answers true for any places, and changes nothing that was there: both are joined bit by bit, and split again; of two places the least cell with both is told. For every input, without a condition.
-/
import Derived.Test.YtohdhbamdeenlaaZorderTellsWalk
import Derived.Test.YtohdhbamdeenlaaOpen
namespace Go.Proofs.Ytohdhbamdeenlaa
open Go.ChangeShapes Go.WideShapes Go.ChangeAt Go.RowKit
set_option linter.unusedVariables false
set_option maxRecDepth 100000

open Go.Joins Go.Deep in
theorem open_u64 {H : Type} {enc : TypeId × Value → H} {P : Program} {w : World} {base : Nat} {spare : Nat → Bool} {held : Bool} {r : Reach} {b0 : Nat} {t : TypeId} {v : Value} {d : DataW H} {ps : List MemPlace} (ht : P.underlying t = some (.int .u64)) (hval : Value.okWide P w r b0 t v) (hd : DataW.Trod enc P w base spare held t v d ps) :
    ∃ n : Int, v = .int .u64 n ∧ 0 ≤ n ∧ n ≤ 18446744073709551615 := by
  obtain ⟨n, rfl, _, _, hw⟩ := open_int ht hval hd
  exact ⟨n, rfl, bounds_u64 hw⟩

theorem zorderTells_lifted (os : Os) (started : os.Started) (H : Type) (enc : TypeId × Value → H) :
    ReturnsInHanded {} Try.checked os 9 .any (Rows.zorderTellsSpec.pre6 enc Try.prog Try.f9 [] false) (Rows.zorderTellsSpec.post enc Try.prog Try.f9 false true false false) :=
  lift (C := Try.checked) (s := Rows.zorderTellsSpec) own (by kernel_rfl) Try.func9 laidOut rfl rfl Try.underlying4 (by kernel_rfl)
    (fun H ds hd => by match ds, hd with | [d1, d2, d3, d4], _ => rfl) os started H enc
    (ChangeSpec.witness6 (enc := enc) (C := Try.checked) false ⟨#[], #[.int .u32 0, .int .u32 0, .int .u64 0, .int .u64 0], []⟩ 8 (by kernel_rfl) (by kernel_rfl) (by kernel_rfl) (by kernel_rfl))
    (fun W base args ds ps hval0 hA0 => by
      have hval : ∀ (j : Nat) t v, Try.f9.params[j]? = some t → args[j]? = some v → Value.okWide Try.prog W .any base t v := hval0
      have hA : DataW.TrodAll enc Try.prog W 0 (fun _ => true) true Try.f9.params.toList args.toList ds ps := hA0
      rw [Try.params9] at hA hval
      obtain ⟨v0, s0, d0, e0, p0, q0, g0, h0, r0⟩ := args_cons hA
      obtain ⟨v1, s1, d1, e1, p1, q1, rfl, h1, r1⟩ := args_cons r0
      obtain ⟨v2, s2, d2, e2, p2, q2, rfl, h2, r2⟩ := args_cons r1
      obtain ⟨v3, s3, d3, e3, p3, q3, rfl, h3, r3⟩ := args_cons r2
      obtain ⟨rfl, _, _⟩ := trodAll_nil r3
      obtain rfl : args = #[v0, v1, v2, v3] := by cases args; simp_all
      obtain ⟨x, rfl, hx, hx'⟩ := open_u32 Try.underlying54 (hval 0 54 v0 rfl rfl) h0
      obtain ⟨y, rfl, hy, hy'⟩ := open_u32 Try.underlying54 (hval 1 54 v1 rfl rfl) h1
      obtain ⟨z, rfl, hz, hz'⟩ := open_u64 Try.underlying73 (hval 2 73 v2 rfl rfl) h2
      obtain ⟨a, rfl, ha, ha'⟩ := open_u64 Try.underlying73 (hval 3 73 v3 rfl rfl) h3
      exact zorderTells x y z a hx hx' hy hy' hz hz' ha ha' W)

theorem zorderTells_holds : Rows.ZorderTellsSaid :=
  OpenClaim.holds_of_wide 9 Try.f9 rfl rfl rfl rfl rfl rfl rfl ⟨rfl, rfl, rfl, rfl, rfl⟩ rfl rfl rfl rfl rfl (by kernel_rfl) Try.func9 (by kernel_rfl)
    (of_decide_eq_true (by kernel_rfl)) (by unfold Func.isWrapper; rw [if_neg (of_decide_eq_false (by kernel_rfl))]; exact ⟨rfl, rfl⟩)
    (fun os started H enc _ => zorderTells_lifted os started H enc)
#print axioms zorderTells_holds
end Go.Proofs.Ytohdhbamdeenlaa
