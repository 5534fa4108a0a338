/-
  What an argument that comes in is: numbers and entries as lists; how long they may be.
-/
import Derived.Test.YtibjccfillhfpaaPlanMath
import Derived.Test.YtibjccfillhfpaaOpen
import Derived.SizedLaws
namespace Go.Proofs.Ytibjccfillhfpaa
open Go.ChangeShapes Go.WideShapes Go.ChangeAt Go.RowKit Go.Joins Go.Deep
set_option linter.unusedVariables false

set_option maxRecDepth 100000 in
/-- A slice of whole numbers that comes in, as a list. -/
theorem inl_of {H : Type} {enc : TypeId × Value → H} {W : World} {b0 : Nat} {v : Value} {d : DataW H} {p : List MemPlace} (hv : Value.okWide Try.prog W .any b0 26 v) (h : DataW.Trod enc Try.prog W 0 (fun _ => true) true 26 v d p) :
    ∃ (l : List Int) (a : Option Addr) (cap : Nat), v = .slice a l.length cap ∧ l.length ≤ cap ∧ cap ≤ maxLen ∧ RowOf inT W a l ∧ (a = none → l = []) ∧ (l = [] ∨ ∃ el sp, d = .slice el sp ∧ l.length ≤ el.length + sp.length) := by
  obtain ⟨fuel, hf⟩ := h
  obtain ⟨a0, len, cap, rfl⟩ := okWide_slice Try.underlying26 hv
  rcases open_ints Try.underlying26 Try.underlying3 (by kernel_rfl) hf with ⟨hcs, _⟩ | ⟨a, len', cap', zs, hcs, _, hl, hm, hz, hx, hcell, hwz⟩
  · simp [Value.cells] at hcs
    obtain ⟨rfl, rfl, rfl⟩ := hcs
    exact ⟨[], none, 0, rfl, Nat.le_refl _, Nat.zero_le _, .inl rfl, fun _ => rfl, .inl rfl⟩
  · simp [Value.cells] at hcs
    obtain ⟨rfl, rfl, rfl⟩ := hcs
    simp only [if_true] at hz
    have hll : (zs.take len).length = len := by rw [List.length_take]; omega
    refine ⟨zs.take len, some a, cap, by rw [hll], by rw [hll]; exact hl, hm, ?_, fun e => (by cases e), .inr ⟨_, _, congrArg Prod.fst hx, ?_⟩⟩
    · by_cases h0 : len = 0
      · subst h0; exact .inl (by simp)
      · have c0 := hcell 0 (by omega)
        have hsp : a.spot = none := by
          have := World.cell?_spot c0
          simpa [Addr.add] using this
        obtain ⟨b, o, sp⟩ := a
        simp only at hsp
        subst hsp
        refine .inr ⟨b, o, rfl, ?_, fun i hi j v hv => ?_⟩
        · have := cell_lt c0
          rwa [addr_plus] at this
        · rw [hll] at hi
          have hi' : i < zs.length := by omega
          have hj : j = 0 := by
            rcases j with _ | j
            · rfl
            · simp [inT] at hv
          subst hj
          have hc := hcell i hi'
          rw [addr_plus] at hc
          have e0 : atR inT (zs.take len) i = zs.getD i 0 := by
            rw [atR_eq _ i (by rw [hll]; exact hi)]
            simp [hi']
          have hv2 : Value.int .i64 (atR inT (zs.take len) i) = v := Option.some.inj hv
          show W.cell? ⟨b, o + i * 1 + 0, none⟩ = _
          rw [show o + i * 1 + 0 = o + i by omega, hc, ← hv2, e0]
    · rw [hll]
      simp only [lits, List.length_map, List.length_take, List.length_drop]
      omega
theorem bytes_i64 : Try.prog.bytesOf 3 = 8 := by kernel_rfl
/-- How long they may be. -/
theorem int_reach {H : Type} {ts : List TypeId} {ds : List (DataW H)} (h : (DataW.weightsEach Try.prog ts ds).all (· ≤ reachBytes) = true) {j : Nat} {d : DataW H} {l : List Int} (ht : ts[j]? = some 26) (hd : ds[j]? = some d) (hl : l = [] ∨ ∃ el sp, d = .slice el sp ∧ l.length ≤ el.length + sp.length) : l.length ≤ 17592186044416 := by
  rcases hl with rfl | ⟨el, sp, rfl, hl⟩
  · simp
  · have := sized_slice h ht hd Try.underlying26
    rw [bytes_i64] at this
    simp only [reachBytes] at this
    omega
/-- One parameter off the list, with its datum. -/
theorem args_consd {H : Type} {enc : TypeId × Value → H} {P : Program} {w : World} {base : Nat} {spare : Nat → Bool} {held : Bool} {t : TypeId} {ts : List TypeId} {vs : List Value} {ds : List (DataW H)} {ps : List MemPlace} (h : DataW.TrodAll enc P w base spare held (t :: ts) vs ds ps) :
    ∃ v vs' d ds' p q, vs = v :: vs' ∧ ds = d :: ds' ∧ DataW.Trod enc P w base spare held t v d p ∧ DataW.TrodAll enc P w base spare held ts vs' ds' q := by
  obtain ⟨v, vs', d, ds', p, q, h1, h2, _, h3, h4⟩ := trodAll_cons h
  exact ⟨v, vs', d, ds', p, q, h1, h2, h3, h4⟩

set_option maxRecDepth 100000 in
/-- A slice of entries that comes in. -/
theorem enl_of {H : Type} {enc : TypeId × Value → H} {W : World} {b0 : Nat} {v : Value} {d : DataW H} {p : List MemPlace} (hv : Value.okWide Try.prog W .any b0 27 v) (h : DataW.Trod enc Try.prog W 0 (fun _ => true) true 27 v d p) :
    ∃ (l : List En) (a : Option Addr) (cap : Nat), v = .slice a l.length cap ∧ l.length ≤ cap ∧ cap ≤ maxLen ∧ RowOf enT W a l := by
  obtain ⟨n, F, ⟨q, cap, hv, h1, h2, h3⟩, hF⟩ := sl_of Try.underlying27 Try.underlying34 (by kernel_rfl) (by kernel_rfl) (by decide) hv h
  have each : ∀ i, i < n → ∃ e : En, [F i 0, F i 1] = ecells e := by
    intro i hi
    obtain ⟨m0, z0, t0⟩ := hF i hi 0 _ rfl
    obtain ⟨m1, z1, t1⟩ := hF i hi 1 _ rfl
    obtain ⟨a', e0, _, _⟩ := DataW.trod_int Try.underlying3 t0
    obtain ⟨b', e1, _, _⟩ := DataW.trod_int Try.underlying3 t1
    simp at e0 e1
    exact ⟨⟨a', b'⟩, by rw [e0, e1]; rfl⟩
  have hg : ∃ g : Nat → En, ∀ i, i < n → [F i 0, F i 1] = ecells (g i) := by
    haveI : Nonempty En := ⟨⟨0, 0⟩⟩
    exact ⟨fun i => Classical.epsilon fun e => [F i 0, F i 1] = ecells e, fun i hi => Classical.epsilon_spec (each i hi)⟩
  obtain ⟨g, hg⟩ := hg
  have hlen : ((List.range n).map g).length = n := by simp
  refine ⟨(List.range n).map g, q, cap, by rw [hlen]; exact hv, by rw [hlen]; exact h1, h2, ?_⟩
  unfold RowOf
  rw [hlen]
  refine h3.imp id fun ⟨b, o, e, hlt, hc⟩ => ⟨b, o, e, hlt, fun i hi j v hv => ?_⟩
  have e1 : atR enT ((List.range n).map g) i = g i := by rw [atR_eq _ i (by rw [hlen]; exact hi)]; simp
  have hv' : (ecells (g i))[j]? = some v := by rw [← e1]; exact hv
  rw [← hg i hi] at hv'
  match j, hv' with
  | 0, hv => simp at hv; subst hv; exact hc i hi 0 (by decide)
  | 1, hv => simp at hv; subst hv; exact hc i hi 1 (by decide)
end Go.Proofs.Ytibjccfillhfpaa
