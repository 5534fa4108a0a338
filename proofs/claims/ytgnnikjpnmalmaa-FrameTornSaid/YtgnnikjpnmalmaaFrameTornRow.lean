/-
  FrameTorn answers true for any octets, places and octet, and changes nothing that was there: a sector with one octet changed is none, unless its sum is right with it; one that is cut, or longer, is none. For every input, without a condition.
-/
import Derived.Test.YtgnnikjpnmalmaaFrameTorn
import Derived.Test.YtgnnikjpnmalmaaOctArg
namespace Go.Proofs.Ytgnnikjpnmalmaa
open Go.ChangeShapes Go.WideShapes Go.ChangeAt Go.RowKit
set_option linter.unusedVariables false
set_option maxRecDepth 100000

section
open Go.Joins Go.Deep
theorem open_u8n {H : Type} {enc : TypeId × Value → H} {P : Program} {w : World} {base : Nat} {spare : Nat → Bool} {held : Bool} {r : Reach} {b0 : Nat} {t : TypeId} {v : Value} {d : DataW H} {ps : List MemPlace} (ht : P.underlying t = some (.int .u8)) (hval : Value.okWide P w r b0 t v) (hd : DataW.Trod enc P w base spare held t v d ps) :
    ∃ n : Nat, v = .int .u8 (n : Int) ∧ n < 256 := by
  obtain ⟨n, rfl, _, _, hw⟩ := open_int ht hval hd
  have := bounds_u8 hw
  exact ⟨n.toNat, by congr 1; omega, by omega⟩
end

theorem frameTorn_lifted (os : Os) (started : os.Started) (H : Type) (enc : TypeId × Value → H) :
    ReturnsInHanded {} Try.checked os 11 .any (Rows.frameTornSpec.pre6 enc Try.prog Try.f11 [] false) (Rows.frameTornSpec.post enc Try.prog Try.f11 false true false false) :=
  lift (C := Try.checked) (s := Rows.frameTornSpec) own (by kernel_rfl) Try.func11 laidOut rfl rfl Try.underlying4 (by kernel_rfl)
    (fun H ds hd => by match ds, hd with | [d1, d2, d3, d4], _ => rfl) os started H enc
    (ChangeSpec.witness6 (enc := enc) (C := Try.checked) false ⟨#[], #[.slice none 0 0, .int .i64 0, .int .u8 0, .int .i64 0], []⟩ 8 (by kernel_rfl) (by kernel_rfl) (by kernel_rfl) (by kernel_rfl))
    (fun W base args ds ps hval0 hA0 => by
      have hval : ∀ (j : Nat) t v, Try.f11.params[j]? = some t → args[j]? = some v → Value.okWide Try.prog W .any base t v := hval0
      have hA : DataW.TrodAll enc Try.prog W 0 (fun _ => true) true Try.f11.params.toList args.toList ds ps := hA0
      rw [Try.params11] at hA hval
      obtain ⟨v0, s0, d0, e0, p0, q0, g0, h0, r0⟩ := args_cons hA
      obtain ⟨v1, s1, d1, e1, p1, q1, rfl, h1, r1⟩ := args_cons r0
      obtain ⟨v2, s2, d2, e2, p2, q2, rfl, h2, r2⟩ := args_cons r1
      obtain ⟨v3, s3, d3, e3, p3, q3, rfl, h3, r3⟩ := args_cons r2
      obtain ⟨rfl, _, _⟩ := trodAll_nil r3
      obtain rfl : args = #[v0, v1, v2, v3] := by cases args; simp_all
      obtain ⟨l, a, cap, rfl, c1, c2, O, _, _⟩ := octl_of (hval 0 22 v0 rfl rfl) h0
      obtain ⟨k, rfl, k1, k2⟩ := open_i64 Try.underlying3 (hval 1 3 v1 rfl rfl) h1
      obtain ⟨x, rfl, hx⟩ := open_u8n Try.underlying5 (hval 2 5 v2 rfl rfl) h2
      obtain ⟨m, rfl, m1, m2⟩ := open_i64 Try.underlying3 (hval 3 3 v3 rfl rfl) h3
      exact frameTorn l a cap k x m hx ⟨k1, k2⟩ ⟨m1, m2⟩ c1 c2 W O)

theorem frameTorn_holds : Rows.FrameTornSaid :=
  OpenClaim.holds_of_wide 11 Try.f11 rfl rfl rfl rfl rfl rfl rfl ⟨rfl, rfl, rfl, rfl, rfl⟩ rfl rfl rfl rfl rfl (by kernel_rfl) Try.func11 (by kernel_rfl)
    (of_decide_eq_true (by kernel_rfl)) (by unfold Func.isWrapper; rw [if_neg (of_decide_eq_false (by kernel_rfl))]; exact ⟨rfl, rfl⟩)
    (fun os started H enc _ => frameTorn_lifted os started H enc)
#print axioms frameTorn_holds
end Go.Proofs.Ytgnnikjpnmalmaa
