/-
  PoolRuns answers true for any numbers and any calls, and changes nothing that was there: whatever is put and taken, a pool is a row of at most so many numbers. For every input, without a condition.
-/
import Derived.Test.YtahdhgaoofpefaaPoolRuns
import Derived.Test.YtahdhgaoofpefaaSlices
import Derived.Test.YtahdhgaoofpefaaLift
import Derived.Test.YtahdhgaoofpefaaOpen
namespace Go.Proofs.Ytahdhgaoofpefaa
open Go.ChangeShapes Go.WideShapes Go.ChangeAt Go.RowKit
set_option linter.unusedVariables false
set_option maxRecDepth 100000

set_option maxRecDepth 100000 in
/-- A slice of calls that comes in. -/
theorem calls_of {H : Type} {enc : TypeId × Value → H} {W : World} {b0 : Nat} {v : Value} {d : DataW H} {p : List MemPlace} (hv : Value.okWide Try.prog W .any b0 23 v) (h : DataW.Trod enc Try.prog W 0 (fun _ => true) true 23 v d p) :
    ∃ (n : Nat) (f g : Nat → Int) (q : Option Addr) (cap : Nat), v = .slice q n cap ∧ n ≤ cap ∧ cap ≤ maxLen ∧ (∀ i, i < n → -9223372036854775808 ≤ f i ∧ f i ≤ 9223372036854775807) ∧ RowP W q 2 n (fun i => [.int .i64 (f i), .int .i64 (g i)]) := by
  obtain ⟨n, F, ⟨q, cap, hv, h1, h2, h3⟩, hF⟩ := sl_of Try.underlying23 Try.underlying28 (by kernel_rfl) (by kernel_rfl) (by decide) hv h
  have each : ∀ i, i < n → ∃ e : Int × Int, [F i 0, F i 1] = [.int .i64 e.1, .int .i64 e.2] ∧ -9223372036854775808 ≤ e.1 ∧ e.1 ≤ 9223372036854775807 := by
    intro i hi
    obtain ⟨m0, z0, t0⟩ := hF i hi 0 _ rfl
    obtain ⟨m1, z1, t1⟩ := hF i hi 1 _ rfl
    obtain ⟨a', e0, _, w0⟩ := DataW.trod_int Try.underlying3 t0
    obtain ⟨b', e1, _, _⟩ := DataW.trod_int Try.underlying3 t1
    simp at e0 e1
    exact ⟨⟨a', b'⟩, by rw [e0, e1], bounds_i64 w0⟩
  have hg : ∃ g : Nat → Int × Int, ∀ i, i < n → [F i 0, F i 1] = [.int .i64 (g i).1, .int .i64 (g i).2] ∧ -9223372036854775808 ≤ (g i).1 ∧ (g i).1 ≤ 9223372036854775807 :=
    ⟨fun i => Classical.epsilon fun e : Int × Int => [F i 0, F i 1] = [.int .i64 e.1, .int .i64 e.2] ∧ -9223372036854775808 ≤ e.1 ∧ e.1 ≤ 9223372036854775807, fun i hi => Classical.epsilon_spec (each i hi)⟩
  obtain ⟨g, hg⟩ := hg
  refine ⟨n, fun i => (g i).1, fun i => (g i).2, q, cap, hv, h1, h2, fun i hi => (hg i hi).2, h3.imp id fun ⟨b, o, e, hlt, hc⟩ => ⟨b, o, e, hlt, fun i hi j v hv => ?_⟩⟩
  simp only at hv
  rw [← (hg i hi).1] at hv
  match j, hv with
  | 0, hv => simp at hv; subst hv; exact hc i hi 0 (by decide)
  | 1, hv => simp at hv; subst hv; exact hc i hi 1 (by decide)

theorem poolRuns_lifted (os : Os) (started : os.Started) (H : Type) (enc : TypeId × Value → H) :
    ReturnsInHanded {} Try.checked os 3 .any (Rows.poolRunsSpec.pre6 enc Try.prog Try.f3 [] false) (Rows.poolRunsSpec.post enc Try.prog Try.f3 false true false false) :=
  lift (C := Try.checked) (s := Rows.poolRunsSpec) own (by kernel_rfl) Try.func3 laidOut rfl rfl Try.underlying4 (by kernel_rfl)
    (fun H ds hd => by match ds, hd with | [d1, d2], _ => rfl) os started H enc
    (ChangeSpec.witness6 (enc := enc) (C := Try.checked) false ⟨#[], #[.slice none 0 0, .slice none 0 0], []⟩ 8 (by kernel_rfl) (by kernel_rfl) (by kernel_rfl) (by kernel_rfl))
    (fun W base args ds ps hval0 hA0 => by
      have hval : ∀ (j : Nat) t v, Try.f3.params[j]? = some t → args[j]? = some v → Value.okWide Try.prog W .any base t v := hval0
      have hA : DataW.TrodAll enc Try.prog W 0 (fun _ => true) true Try.f3.params.toList args.toList ds ps := hA0
      rw [Try.params3] at hA hval
      obtain ⟨v0, s0, d0, e0, p0, q0, g0, h0, r0⟩ := args_cons hA
      obtain ⟨v1, s1, d1, e1, p1, q1, rfl, h1, r1⟩ := args_cons r0
      obtain ⟨rfl, _, _⟩ := trodAll_nil r1
      obtain rfl : args = #[v0, v1] := by cases args; simp_all
      obtain ⟨n, f, _, hs⟩ := ints_of (hval 0 22 v0 rfl rfl) h0
      obtain ⟨p, cap, rfl, c1, c2, HR⟩ := hs.open
      obtain ⟨no, kd, nm, po, co, rfl, c3, c4, hk, HO⟩ := calls_of (hval 1 23 v1 rfl rfl) h1
      exact poolRuns p cap n f c1 c2 po co no kd nm hk c3 c4 W HR HO)

theorem poolRuns_holds : Rows.PoolRunsSaid :=
  OpenClaim.holds_of_wide 3 Try.f3 rfl rfl rfl rfl rfl rfl rfl ⟨rfl, rfl, rfl, rfl, rfl⟩ rfl rfl rfl rfl rfl (by kernel_rfl) Try.func3 (by kernel_rfl)
    (of_decide_eq_true (by kernel_rfl)) (by unfold Func.isWrapper; rw [if_neg (of_decide_eq_false (by kernel_rfl))]; exact ⟨rfl, rfl⟩)
    (fun os started H enc _ => poolRuns_lifted os started H enc)
#print axioms poolRuns_holds
end Go.Proofs.Ytahdhgaoofpefaa
