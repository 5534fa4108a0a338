/-
  A slice of points that comes in: what it holds, how long it may be.
-/
import Derived.Test.YtfijkbgbhaoilaaSlices
import Derived.SizedLaws
namespace Go.Proofs.Ytfijkbgbhaoilaa
open Go.ChangeShapes Go.WideShapes Go.ChangeAt Go.RowKit Go.Joins Go.Deep
set_option linter.unusedVariables false

theorem ptsd_of {H : Type} {enc : TypeId × Value → H} {W : World} {b0 : Nat} {v : Value} {d : DataW H} {p : List MemPlace} (hv : Value.okWide Try.prog W .any b0 22 v) (h : DataW.Trod enc Try.prog W 0 (fun _ => true) true 22 v d p) :
    ∃ (n : Nat) (f : Nat → Pt) (q : Option Addr) (cap : Nat), v = .slice q n cap ∧ n ≤ cap ∧ cap ≤ maxLen ∧ (∀ i, i < n → (f i).ok) ∧ RowP W q 4 n (fun i => pcells (f i)) ∧ (n = 0 ∨ ∃ el sp, d = .slice el sp ∧ n ≤ el.length + sp.length) := by
  obtain ⟨n, f, hok, q, cap, rfl, h1, h2, h3⟩ := pts_of hv h
  refine ⟨n, f, q, cap, rfl, h1, h2, hok, h3, ?_⟩
  obtain ⟨fuel, hf⟩ := h
  rcases open_slice Try.underlying22 hf with ⟨h0, _⟩ | ⟨a, len, cap', m, k, D, Pl, hcs, hb, hl, hm, hmm, hx, hi⟩
  · simp [Value.cells] at h0
    exact .inl h0.2.1
  · simp [Value.cells] at hcs
    obtain ⟨_, rfl, rfl⟩ := hcs
    refine .inr ⟨_, _, congrArg Prod.fst hx, ?_⟩
    simp
theorem bytes_pt : Try.prog.bytesOf 27 = 32 := by kernel_rfl
theorem pts_reach {H : Type} {ts : List TypeId} {ds : List (DataW H)} (h : (DataW.weightsEach Try.prog ts ds).all (· ≤ reachBytes) = true) {j : Nat} {d : DataW H} {n : Nat} (ht : ts[j]? = some 22) (hd : ds[j]? = some d) (hl : n = 0 ∨ ∃ el sp, d = .slice el sp ∧ n ≤ el.length + sp.length) : n ≤ 4398046511104 := by
  rcases hl with rfl | ⟨el, sp, rfl, hl⟩
  · omega
  · have := sized_slice h ht hd Try.underlying22
    rw [bytes_pt] at this
    simp only [reachBytes] at this
    omega
end Go.Proofs.Ytfijkbgbhaoilaa
