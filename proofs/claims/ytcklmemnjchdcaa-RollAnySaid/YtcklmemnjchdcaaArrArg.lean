/-
  What an argument that comes in is: an array of numbers, by value.
-/
import Derived.Test.YtcklmemnjchdcaaOpen
import Derived.Test.YtcklmemnjchdcaaBig
import Derived.OpenShut
namespace Go.Proofs.Ytcklmemnjchdcaa
open Go.ChangeShapes Go.WideShapes Go.ChangeAt Go.RowKit
set_option linter.unusedVariables false

/-- The number in a cell. -/
def numIn : Value → Int
  | .int _ a => a
  | _ => 0
theorem arr_of {H : Type} {enc : TypeId × Value → H} {P : Program} {w : World} {base : Nat} {spare : Nat → Bool} {held : Bool} {r : Reach} {b0 : Nat} {t e : TypeId} {n : Nat} {k : IntKind} {v : Value} {d : DataW H} {p : List MemPlace}
    (ht : P.underlying t = some (.array n e)) (he : P.underlying e = some (.int k)) (hce : P.cellsOf e = 1) (hC : P.cellsOf t = n) (hv : Value.okWide P w r b0 t v) (h : DataW.Trod enc P w base spare held t v d p) :
    ∃ (c : Array Value) (F : Nat → Int), v = .agg c ∧ Nums c k n F ∧ ∀ i, i < n → (Lit.int k (F i)).wf = true := by
  simp only [Value.okWide, ht] at hv
  obtain ⟨cs, rfl, hsz, _⟩ := hv
  rw [hC] at hsz
  obtain ⟨fuel, hf⟩ := h
  obtain ⟨xs, m, _, _, hl, hxl, hi⟩ := DataW.trod_array ht hf
  have key : ∀ i, i < n → ∃ a : Int, cs[i]? = some (.int k a) ∧ (Lit.int k a).wf = true := by
    intro i hin
    have h1 := hi i hin
    rw [List.getElem?_eq_getElem (by omega)] at h1
    obtain ⟨a, e1, _, wa⟩ := DataW.trod_int he h1
    refine ⟨a, ?_, wa⟩
    rw [hce, Nat.mul_one] at e1
    have e2 := congrArg (fun l : List Value => l[0]?) e1
    simp [Value.cells] at e2
    exact e2
  refine ⟨cs, fun i => numIn ((cs[i]?).getD undef), rfl, ⟨hsz, fun j hj => ?_⟩, fun i hin => ?_⟩
  · obtain ⟨a, e1, _⟩ := key j hj
    rw [e1]
    rfl
  · obtain ⟨a, e1, wa⟩ := key i hin
    show (Lit.int k (numIn ((cs[i]?).getD undef))).wf = true
    rw [e1]
    exact wa
end Go.Proofs.Ytcklmemnjchdcaa
