/-
  CrcTables answers true for any number and any octets, and changes nothing that was there: with any table a sum goes octet by octet. For every input, without a condition.
-/
import Derived.Test.YtohdhbamdeenlaaCrcTables
import Derived.Test.YtohdhbamdeenlaaSlices
namespace Go.Proofs.Ytohdhbamdeenlaa
open Go.ChangeShapes Go.WideShapes Go.ChangeAt Go.RowKit
set_option linter.unusedVariables false
set_option maxRecDepth 100000

theorem crcTables_lifted (os : Os) (started : os.Started) (H : Type) (enc : TypeId × Value → H) :
    ReturnsInHanded {} Try.checked os 7 .any (Rows.crcTablesSpec.pre6 enc Try.prog Try.f7 [] false) (Rows.crcTablesSpec.post enc Try.prog Try.f7 false true false false) :=
  lift (C := Try.checked) (s := Rows.crcTablesSpec) own (by kernel_rfl) Try.func7 laidOut rfl rfl Try.underlying4 (by kernel_rfl)
    (fun H ds hd => by match ds, hd with | [d1, d2], _ => rfl) os started H enc
    (ChangeSpec.witness6 (enc := enc) (C := Try.checked) false ⟨#[], #[.int .u32 0, .slice none 0 0], []⟩ 8 (by kernel_rfl) (by kernel_rfl) (by kernel_rfl) (by kernel_rfl))
    (fun W base args ds ps hval0 hA0 => by
      have hval : ∀ (j : Nat) t v, Try.f7.params[j]? = some t → args[j]? = some v → Value.okWide Try.prog W .any base t v := hval0
      have hA : DataW.TrodAll enc Try.prog W 0 (fun _ => true) true Try.f7.params.toList args.toList ds ps := hA0
      rw [Try.params7] at hA hval
      obtain ⟨v0, s0, d0, e0, p0, q0, g0, h0, r0⟩ := args_cons hA
      obtain ⟨v1, s1, d1, e1, p1, q1, rfl, h1, r1⟩ := args_cons r0
      obtain ⟨rfl, _, _⟩ := trodAll_nil r1
      obtain rfl : args = #[v0, v1] := by cases args; simp_all
      obtain ⟨s, rfl, hs, hs'⟩ := open_u32 Try.underlying54 (hval 0 54 v0 rfl rfl) h0
      obtain ⟨S, rfl⟩ := Int.eq_ofNat_of_zero_le hs
      obtain ⟨n, g, hg, hsl⟩ := octs_of (hval 1 26 v1 rfl rfl) h1
      obtain ⟨p, cap, rfl, l1, l2, RL⟩ := hsl.open
      exact crcTables S n cap p g (by omega) hg l1 l2 W RL)

theorem crcTables_holds : Rows.CrcTablesSaid :=
  OpenClaim.holds_of_wide 7 Try.f7 rfl rfl rfl rfl rfl rfl rfl ⟨rfl, rfl, rfl, rfl, rfl⟩ rfl rfl rfl rfl rfl (by kernel_rfl) Try.func7 (by kernel_rfl)
    (of_decide_eq_true (by kernel_rfl)) (by unfold Func.isWrapper; rw [if_neg (of_decide_eq_false (by kernel_rfl))]; exact ⟨rfl, rfl⟩)
    (fun os started H enc _ => crcTables_lifted os started H enc)
#print axioms crcTables_holds
end Go.Proofs.Ytohdhbamdeenlaa
