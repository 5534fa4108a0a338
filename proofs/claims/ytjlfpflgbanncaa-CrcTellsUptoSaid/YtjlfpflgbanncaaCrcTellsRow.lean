/-
  CrcTells answers true for any octets that together are of bulk at most 1048576, and changes nothing that was there: a sum is, bit by bit, as the page says; in parts, too. (Of octets too many for any machine the law's own append has no room.)
-/
import Derived.Test.YtjlfpflgbanncaaCrcTells
import Derived.Test.YtjlfpflgbanncaaOctArg
import Derived.Test.YtjlfpflgbanncaaLiftUpto
namespace Go.Proofs.Ytjlfpflgbanncaa
open Go.ChangeShapes Go.WideShapes Go.ChangeAt Go.RowKit
set_option linter.unusedVariables false
set_option maxRecDepth 100000

theorem crcTells_lifted (os : Os) (started : os.Started) (H : Type) (enc : TypeId × Value → H) (F : Stop.Interp) :
    ReturnsInHanded {} Try.checked os 6 .any ((Rows.OpenSpec.upto Rows.crcTellsSpec).pre6 enc Try.prog Try.f6 Rows.crcTellsUptoRow.domain false) (((Rows.OpenSpec.upto Rows.crcTellsSpec).at F).post enc Try.prog Try.f6 false true false false) := by
  refine returnsInHanded_of_cond (C := Try.checked) (s := Rows.OpenSpec.upto Rows.crcTellsSpec) (k := Rows.uptoSmall) rfl own started (by kernel_rfl) Try.func6
    (OpenSpec.witness (enc := enc) (C := Try.checked) (s := Rows.OpenSpec.upto Rows.crcTellsSpec) (k := Rows.uptoSmall) rfl false ⟨#[], #[.slice none 0 0, .slice none 0 0, .int .u8 0], []⟩ 8 (by kernel_rfl) (by kernel_rfl) (by kernel_rfl)
      (x := ([.nil, .nil, .lit (.int .u8 0)], [], [])) (by kernel_rfl) rfl (by kernel_rfl)) ?_
  intro W base args ds gs before hval0 hW _ hk0 _
  refine upto_contract (C := Try.checked) (s := Rows.crcTellsSpec) laidOut rfl rfl Try.underlying4 (by kernel_rfl) (fun H ds hd => by match ds, hd with | [d1, d2, d3], _ => rfl) H enc W base args ds gs before hW ?_
  intro ps hgs hA0
  subst hgs
  have hval : ∀ (j : Nat) t v, Try.f6.params[j]? = some t → args[j]? = some v → Value.okWide Try.prog W .any base t v := hval0
  have hA : DataW.TrodAll enc Try.prog W 0 (fun _ => true) true Try.f6.params.toList args.toList ds ps := hA0
  have hk := bulk_all hk0
  rw [Try.params6] at hA hval
  obtain ⟨v0, s0, d0, e0, p0, q0, g0, rfl, h0, r0⟩ := args_consd hA
  obtain ⟨v1, s1, d1, e1, p1, q1, rfl, rfl, h1, r1⟩ := args_consd r0
  obtain ⟨v2, s2, d2, e2, p2, q2, rfl, rfl, h2, r2⟩ := args_consd r1
  obtain ⟨rfl, rfl, _⟩ := trodAll_nil r2
  obtain rfl : args = #[v0, v1, v2] := by cases args; simp_all
  obtain ⟨l, a, cap, rfl, c1, c2, O, ha, hd⟩ := octl_of (hval 0 26 v0 rfl rfl) h0
  obtain ⟨m, b, cap', rfl, c3, c4, O', ha', hd'⟩ := octl_of (hval 1 26 v1 rfl rfl) h1
  obtain ⟨i, rfl, _, _, wi⟩ := open_int Try.underlying5 (hval 2 5 v2 rfl rfl) h2
  have bi := bounds_u8 wi
  obtain ⟨I, rfl⟩ := Int.eq_ofNat_of_zero_le bi.1
  have b1 := bulk_octs hd
  have b2 := bulk_octs hd'
  simp only [List.append_nil, Rows.uptoBulkAll] at hk
  exact crcTells l m a b cap cap' I (by omega) c1 c2 c3 c4 (by omega) W O O'

theorem crcTellsUpto_holds : Rows.CrcTellsUptoSaid :=
  OpenClaim.holds_of_cond 6 Try.f6 rfl rfl rfl rfl rfl rfl rfl ⟨rfl, rfl, rfl, rfl, rfl⟩ rfl rfl rfl rfl rfl (by kernel_rfl) Try.func6 (by kernel_rfl)
    (of_decide_eq_true (by kernel_rfl)) (by unfold Func.isWrapper; rw [if_neg (of_decide_eq_false (by kernel_rfl))]; exact ⟨rfl, rfl⟩)
    (fun os started H enc _ F => crcTells_lifted os started H enc F)
#print axioms crcTellsUpto_holds
end Go.Proofs.Ytjlfpflgbanncaa
