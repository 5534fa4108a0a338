/-
  What an argument that comes in is: a summary.
-/
import Derived.Test.YtgnnikjpnmalmaaBatch
import Derived.Test.YtgnnikjpnmalmaaLiftSized
import Derived.Test.YtgnnikjpnmalmaaOctArg
namespace Go.Proofs.Ytgnnikjpnmalmaa
open Go.ChangeShapes Go.WideShapes Go.ChangeAt Go.RowKit Go.Joins Go.Deep
set_option linter.unusedVariables false

section
variable {H : Type} {enc : TypeId × Value → H} {P : Program} {w : World} {base : Nat} {spare : Nat → Bool} {held : Bool}
/-- A slice of structs of one-cell fields in a field. -/
theorem sl_in {t e : TypeId} {fs : Array Field} {v : Value} {fuel : Nat} {x : DataW H × List MemPlace} (ht : P.underlying t = some (.slice e)) (he : P.underlying e = some (.struct fs))
    (hone : oneCellFields P fs = true) (hC : P.cellsOf e = fs.size) (hpos : 0 < fs.size) (h : DataW.trod enc P w base spare held fuel t [v] = some x) :
    ∃ (n : Nat) (F : Nat → Nat → Value), (∃ p cap, v = .slice p n cap ∧ n ≤ cap ∧ cap ≤ maxLen ∧ (n = 0 ∨ ∃ b o, p = some ⟨b, o, none⟩ ∧ b < w.heap.size ∧ ∀ i, i < n → ∀ j, j < fs.size → w.cell? ⟨b, o + i * fs.size + j, none⟩ = some (F i j))) ∧
      (∀ i, i < n → ∀ j f, fs[j]? = some f → ∃ m y, DataW.trod enc P w base spare held m f.type [F i j] = some y) ∧ (n = 0 ∨ ∃ el sp, x.1 = .slice el sp ∧ el.length = n) := by
  rcases open_slice_fields ht he hone hC h with hcs | ⟨a, len, cap, m, hcs, hl, hm, hmm, hi⟩
  · simp at hcs
    subst hcs
    exact ⟨0, fun _ _ => undef, ⟨none, 0, rfl, by omega, by unfold maxLen; omega, .inl rfl⟩, fun i hi => absurd hi (Nat.not_lt_zero _), .inl rfl⟩
  · simp at hcs
    subst hcs
    have hx : ∃ el sp, x.1 = .slice el sp ∧ el.length = len := by
      rcases open_slice ht h with ⟨h0, _⟩ | ⟨a', len', cap', m', n', D, Pl, hcs', _, _, _, _, hx, _⟩
      · simp at h0
      · simp at hcs'
        obtain ⟨_, rfl, _⟩ := hcs'
        exact ⟨_, _, by rw [hx], by simp⟩
    have hlm : len ≤ m := by rw [hmm]; split <;> omega
    by_cases h0 : len = 0
    · subst h0
      exact ⟨0, fun _ _ => undef, ⟨some a, cap, rfl, by omega, hm, .inl rfl⟩, fun i hi => absurd hi (Nat.not_lt_zero _), .inl rfl⟩
    · have hex : ∀ i j, i < len → j < fs.size → ∃ v, w.cell? (a.add (i * fs.size + j)) = some v ∧ ∀ f, fs[j]? = some f → ∃ m y, DataW.trod enc P w base spare held m f.type [v] = some y := by
        intro i j h1 h2
        obtain ⟨v, n, y, hc, hy⟩ := hi i (by omega) j fs[j] (Array.getElem?_eq_getElem h2)
        refine ⟨v, hc, fun f hfj => ?_⟩
        rw [Array.getElem?_eq_getElem h2] at hfj
        cases hfj
        exact ⟨n, y, hy⟩
      have hexF : ∃ F : Nat → Nat → Value, ∀ i j, i < len → j < fs.size → w.cell? (a.add (i * fs.size + j)) = some (F i j) ∧ ∀ f, fs[j]? = some f → ∃ m y, DataW.trod enc P w base spare held m f.type [F i j] = some y := by
        haveI : Nonempty Value := ⟨undef⟩
        exact ⟨fun i j => Classical.epsilon fun v => w.cell? (a.add (i * fs.size + j)) = some v ∧ ∀ f, fs[j]? = some f → ∃ m y, DataW.trod enc P w base spare held m f.type [v] = some y, fun i j h1 h2 => Classical.epsilon_spec (hex i j h1 h2)⟩
      obtain ⟨F, hF⟩ := hexF
      have c0 := (hF 0 0 (by omega) hpos).1
      have hsp : a.spot = none := by
        have := World.cell?_spot c0
        simpa [Addr.add] using this
      obtain ⟨b, o, sp⟩ := a
      simp only at hsp
      subst hsp
      have hadd : ∀ k, Addr.add ⟨b, o, none⟩ k = ⟨b, o + k, none⟩ := by
        intro k
        unfold Addr.add
        split
        · subst k; rfl
        · rfl
      refine ⟨len, F, ⟨_, cap, rfl, hl, hm, .inr ⟨b, o, rfl, ?_, fun i h1 j h2 => ?_⟩⟩, fun i h1 j f hfj => ?_, .inr hx⟩
      · have := cell_lt c0
        rwa [hadd] at this
      · have := (hF i j h1 h2).1
        rw [hadd, ← Nat.add_assoc] at this
        exact this
      · exact (hF i j h1 (Array.getElem?_eq_some_iff.1 hfj).1).2 f hfj
end

theorem bytes_en : Try.prog.bytesOf 93 = 16 := by kernel_rfl
set_option maxRecDepth 100000 in
/-- A summary that comes in. -/
theorem sm_of {H : Type} {enc : TypeId × Value → H} {W : World} {b0 : Nat} {v : Value} {d : DataW H} {p : List MemPlace} (hv : Value.okWide Try.prog W .any b0 90 v) (h : DataW.Trod enc Try.prog W 0 (fun _ => true) true 90 v d p) :
    ∃ (nx : Int) (la : Bool) (q : Option Addr) (n cap : Nat) (f : Nat → En), v = smval nx la q n cap ∧ n ≤ cap ∧ cap ≤ maxLen ∧ RowP W q 2 n (fun i => ecells (f i)) ∧ (n = 0 ∨ ∃ y0 y1 el sp, d = .agg [y0, y1, .slice el sp] ∧ el.length = n) := by
  obtain ⟨c0, c1, c2, y0, y1, y2, m, rfl, hd, _, hy0, hy1, hy2⟩ := open_agg3 Try.underlying90 (by kernel_rfl) (by kernel_rfl) hv h
  obtain ⟨a, e0, _, _⟩ := DataW.trod_int Try.underlying3 hy0
  obtain ⟨la, e1, _⟩ := DataW.trod_bool Try.underlying4 hy1
  simp at e0 e1
  subst e0 e1
  obtain ⟨n, F, ⟨q, cap, hcv, h1, h2, h3⟩, hF, hx⟩ := sl_in Try.underlying88 Try.underlying93 (by kernel_rfl) (by kernel_rfl) (by decide) hy2
  subst hcv
  have each : ∀ i, i < n → ∃ e : En, [F i 0, F i 1] = ecells e := by
    intro i hi
    obtain ⟨m0, z0, t0⟩ := hF i hi 0 _ rfl
    obtain ⟨m1, z1, t1⟩ := hF i hi 1 _ rfl
    obtain ⟨a', e0, _, _⟩ := DataW.trod_int Try.underlying3 t0
    obtain ⟨b', e1, _, _⟩ := DataW.trod_int Try.underlying3 t1
    simp at e0 e1
    exact ⟨⟨a', b'⟩, by rw [e0, e1]; rfl⟩
  have hg : ∃ g : Nat → En, ∀ i, i < n → [F i 0, F i 1] = ecells (g i) := by
    haveI : Nonempty En := ⟨⟨0, 0⟩⟩
    exact ⟨fun i => Classical.epsilon fun e => [F i 0, F i 1] = ecells e, fun i hi => Classical.epsilon_spec (each i hi)⟩
  obtain ⟨g, hg⟩ := hg
  refine ⟨a, la, q, n, cap, g, rfl, h1, h2, h3.imp id fun ⟨b, o, e, hlt, hc⟩ => ⟨b, o, e, hlt, fun i hi j v hv => ?_⟩, hx.imp id fun ⟨el, sp, e, hl⟩ => ⟨_, _, el, sp, by rw [hd, e], hl⟩⟩
  rw [← hg i hi] at hv
  match j, hv with
  | 0, hv => simp at hv; subst hv; exact hc i hi 0 (by decide)
  | 1, hv => simp at hv; subst hv; exact hc i hi 1 (by decide)
/-- How many entries there may be. -/
theorem sm_reach {H : Type} {ts : List TypeId} {ds : List (DataW H)} (h : (DataW.weightsEach Try.prog ts ds).all (· ≤ reachBytes) = true) {j : Nat} {d : DataW H} {n : Nat} (ht : ts[j]? = some 90) (hd : ds[j]? = some d) (hl : n = 0 ∨ ∃ y0 y1 el sp, d = .agg [y0, y1, .slice el sp] ∧ el.length = n) : n ≤ 8796093022208 := by
  rcases hl with rfl | ⟨y0, y1, el, sp, rfl, rfl⟩
  · omega
  · have hm : (el.length + sp.length) * Try.prog.bytesOf 93 ∈ DataW.weights Try.prog 90 (.agg [y0, y1, .slice el sp] : DataW H) := by
      simp [DataW.weights, DataW.weightsEach, Try.underlying90, Try.underlying88]
    have := List.all_eq_true.1 h _ (DataW.weights_mem_each ht hd _ hm)
    have h2 : (el.length + sp.length) * Try.prog.bytesOf 93 ≤ reachBytes := of_decide_eq_true this
    rw [bytes_en] at h2
    unfold reachBytes at h2
    omega
end Go.Proofs.Ytgnnikjpnmalmaa
