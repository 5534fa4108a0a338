/-
  NmapApplies answers true for any map of Ids, any entries and any sectors, and changes nothing that was there: entries are applied one by one, or none is. For every input, without a condition.
-/
import Derived.Test.YtjmacojlneldaaaNmapApplies
import Derived.Test.YtjmacojlneldaaaLift
import Derived.Test.YtjmacojlneldaaaOpen
import Derived.Test.YtjmacojlneldaaaArrArg
import Derived.Test.YtjmacojlneldaaaSlices
namespace Go.Proofs.Ytjmacojlneldaaa
open Go.ChangeShapes Go.WideShapes Go.ChangeAt Go.RowKit
set_option linter.unusedVariables false
set_option maxRecDepth 100000

set_option maxRecDepth 100000 in
/-- A slice of entries that comes in. -/
theorem ens_of {H : Type} {enc : TypeId × Value → H} {W : World} {b0 : Nat} {v : Value} {d : DataW H} {p : List MemPlace} (hv : Value.okWide Try.prog W .any b0 59 v) (h : DataW.Trod enc Try.prog W 0 (fun _ => true) true 59 v d p) :
    ∃ (n : Nat) (f : Nat → En) (q : Option Addr) (cap : Nat), v = .slice q n cap ∧ n ≤ cap ∧ cap ≤ maxLen ∧ RowP W q 2 n (fun i => ecells (f i)) := by
  obtain ⟨n, F, ⟨q, cap, hv, h1, h2, h3⟩, hF⟩ := sl_of Try.underlying59 Try.underlying61 (by kernel_rfl) (by kernel_rfl) (by decide) hv h
  have each : ∀ i, i < n → ∃ e : En, [F i 0, F i 1] = ecells e := by
    intro i hi
    obtain ⟨m0, z0, t0⟩ := hF i hi 0 _ rfl
    obtain ⟨m1, z1, t1⟩ := hF i hi 1 _ rfl
    obtain ⟨a', e0, _, _⟩ := DataW.trod_int Try.underlying3 t0
    obtain ⟨b', e1, _, _⟩ := DataW.trod_int Try.underlying3 t1
    simp at e0 e1
    exact ⟨⟨a', b'⟩, by rw [e0, e1]; rfl⟩
  have hg : ∃ g : Nat → En, ∀ i, i < n → [F i 0, F i 1] = ecells (g i) := by
    haveI : Nonempty En := ⟨⟨0, 0⟩⟩
    exact ⟨fun i => Classical.epsilon fun e => [F i 0, F i 1] = ecells e, fun i hi => Classical.epsilon_spec (each i hi)⟩
  obtain ⟨g, hg⟩ := hg
  refine ⟨n, g, q, cap, hv, h1, h2, h3.imp id fun ⟨b, o, e, hlt, hc⟩ => ⟨b, o, e, hlt, fun i hi j v hv => ?_⟩⟩
  rw [← hg i hi] at hv
  match j, hv with
  | 0, hv => simp at hv; subst hv; exact hc i hi 0 (by decide)
  | 1, hv => simp at hv; subst hv; exact hc i hi 1 (by decide)

theorem nmapApplies_lifted (os : Os) (started : os.Started) (H : Type) (enc : TypeId × Value → H) :
    ReturnsInHanded {} Try.checked os 10 .any (Rows.nmapAppliesSpec.pre6 enc Try.prog Try.f10 [] false) (Rows.nmapAppliesSpec.post enc Try.prog Try.f10 false true false false) :=
  lift (C := Try.checked) (s := Rows.nmapAppliesSpec) own (by kernel_rfl) Try.func10 laidOut rfl rfl Try.underlying4 (by kernel_rfl)
    (fun H ds hd => by match ds, hd with | [d1, d2, d3], _ => rfl) os started H enc
    (ChangeSpec.witness6 (enc := enc) (C := Try.checked) false ⟨#[], #[(.agg (Array.replicate 256 (.int .i64 0))), .slice none 0 0, .slice none 0 0], []⟩ 8 (by kernel_rfl) (by kernel_rfl) (by kernel_rfl) (by kernel_rfl))
    (fun W base args ds ps hval0 hA0 => by
      have hval : ∀ (j : Nat) t v, Try.f10.params[j]? = some t → args[j]? = some v → Value.okWide Try.prog W .any base t v := hval0
      have hA : DataW.TrodAll enc Try.prog W 0 (fun _ => true) true Try.f10.params.toList args.toList ds ps := hA0
      rw [Try.params10] at hA hval
      obtain ⟨v0, s0, d0, e0, p0, q0, g0, h0, r0⟩ := args_cons hA
      obtain ⟨v1, s1, d1, e1, p1, q1, rfl, h1, r1⟩ := args_cons r0
      obtain ⟨v2, s2, d2, e2, p2, q2, rfl, h2, r2⟩ := args_cons r1
      obtain ⟨rfl, _, _⟩ := trodAll_nil r2
      obtain rfl : args = #[v0, v1, v2] := by cases args; simp_all
      obtain ⟨c, F, rfl, Nc, Wc⟩ := arr_of Try.underlying44 Try.underlying3 (by kernel_rfl) (by kernel_rfl) (hval 0 44 v0 rfl rfl) h0
      obtain ⟨n, f, pl, capl, rfl, l1, l2, RL⟩ := ens_of (hval 1 59 v1 rfl rfl) h1
      obtain ⟨m, g, _, hs2⟩ := ints_of (hval 2 22 v2 rfl rfl) h2
      obtain ⟨po, capo, rfl, l3, l4, RO⟩ := hs2.open
      exact nmapApplies c F Nc pl n capl f l1 l2 po m capo g l3 l4 W RL RO)

theorem nmapApplies_holds : Rows.NmapAppliesSaid :=
  OpenClaim.holds_of_wide 10 Try.f10 rfl rfl rfl rfl rfl rfl rfl ⟨rfl, rfl, rfl, rfl, rfl⟩ rfl rfl rfl rfl rfl (by kernel_rfl) Try.func10 (by kernel_rfl)
    (of_decide_eq_true (by kernel_rfl)) (by unfold Func.isWrapper; rw [if_neg (of_decide_eq_false (by kernel_rfl))]; exact ⟨rfl, rfl⟩)
    (fun os started H enc _ => nmapApplies_lifted os started H enc)
#print axioms nmapApplies_holds
end Go.Proofs.Ytjmacojlneldaaa
