/-
  What an argument that comes in is: steps as a list.
-/
import Derived.Test.YtngfhbclapadoaaCodeMath
import Derived.Test.YtngfhbclapadoaaOpen
import Derived.Deep.Slices
namespace Go.Proofs.Ytngfhbclapadoaa
open Go.ChangeShapes Go.WideShapes Go.ChangeAt Go.RowKit Go.Joins Go.Deep
set_option linter.unusedVariables false

set_option maxRecDepth 100000 in
/-- Whole numbers in a field, as a list. -/
theorem fate_in {H : Type} {enc : TypeId × Value → H} {W : World} {v : Value} {fuel : Nat} {x : DataW H × List MemPlace} (hf : DataW.trod enc Try.prog W 0 (fun _ => true) true fuel 47 [v] = some x) :
    ∃ (l : List Int) (a : Option Addr) (cap : Nat), v = .slice a l.length cap ∧ l.length ≤ cap ∧ cap ≤ maxLen ∧ RowOf faT W a l ∧ ∀ z ∈ l, -9223372036854775808 ≤ z ∧ z ≤ 9223372036854775807 := by
  rcases open_ints Try.underlying47 Try.underlying3 (by kernel_rfl) hf with ⟨hcs, _⟩ | ⟨a, len', cap', zs, hcs, _, hl, hm, hz, hx, hcell, hwz⟩
  · simp at hcs
    subst hcs
    exact ⟨[], none, 0, rfl, Nat.le_refl _, Nat.zero_le _, .inl rfl, fun z hz => by cases hz⟩
  · simp at hcs
    subst hcs
    simp only [if_true] at hz
    have hll : (zs.take len').length = len' := by rw [List.length_take]; omega
    refine ⟨zs.take len', some a, cap', by rw [hll], by rw [hll]; exact hl, hm, ?_, fun z hz => bounds_i64 (hwz z (List.mem_of_mem_take hz))⟩
    by_cases h0 : len' = 0
    · subst h0; exact .inl (by simp)
    · have c0 := hcell 0 (by omega)
      have hsp : a.spot = none := by
        have := World.cell?_spot c0
        simpa [Addr.add] using this
      obtain ⟨b, o, sp⟩ := a
      simp only at hsp
      subst hsp
      refine .inr ⟨b, o, rfl, ?_, fun i hi j v hv => ?_⟩
      · have := cell_lt c0
        rwa [addr_plus] at this
      · rw [hll] at hi
        have hi' : i < zs.length := by omega
        have hj : j = 0 := by
          rcases j with _ | j
          · rfl
          · simp [faT] at hv
        subst hj
        have hc := hcell i hi'
        rw [addr_plus] at hc
        have e0 : atR faT (zs.take len') i = zs.getD i 0 := by
          rw [atR_eq _ i (by rw [hll]; exact hi)]
          simp [hi']
        have hv2 : Value.int .i64 (atR faT (zs.take len') i) = v := Option.some.inj hv
        show W.cell? ⟨b, o + i * 1 + 0, none⟩ = _
        rw [show o + i * 1 + 0 = o + i by omega, hc, ← hv2, e0]

set_option maxRecDepth 100000 in
/-- A slice of steps that comes in. -/
theorem stepl_of {H : Type} {enc : TypeId × Value → H} {W : World} {b0 : Nat} {v : Value} {d : DataW H} {p : List MemPlace} (hv : Value.okWide Try.prog W .any b0 45 v) (h : DataW.Trod enc Try.prog W 0 (fun _ => true) true 45 v d p) :
    ∃ (l : List Sp) (a : Option Addr) (cap : Nat), v = .slice a l.length cap ∧ l.length ≤ cap ∧ cap ≤ maxLen ∧ RowOf spT W a l ∧ (∀ s ∈ l, s.ok) ∧ ∀ s ∈ l, s.there W := by
  obtain ⟨n, F, ⟨q, cap, hv, h1, h2, h3⟩, hF⟩ := sl_of Try.underlying45 Try.underlying49 (by kernel_rfl) (by kernel_rfl) (by decide) hv h
  have each : ∀ i, i < n → ∃ s : Sp, [F i 0, F i 1, F i 2, F i 3, F i 4, F i 5, F i 6, F i 7] = spcells s ∧ s.ok ∧ s.there W := by
    intro i hi
    obtain ⟨m0, y0, t0⟩ := hF i hi 0 _ rfl
    obtain ⟨m1, y1, t1⟩ := hF i hi 1 _ rfl
    obtain ⟨m2, y2, t2⟩ := hF i hi 2 _ rfl
    obtain ⟨m3, y3, t3⟩ := hF i hi 3 _ rfl
    obtain ⟨m4, y4, t4⟩ := hF i hi 4 _ rfl
    obtain ⟨m5, y5, t5⟩ := hF i hi 5 _ rfl
    obtain ⟨m6, y6, t6⟩ := hF i hi 6 _ rfl
    obtain ⟨m7, y7, t7⟩ := hF i hi 7 _ rfl
    obtain ⟨k, e0, _, w0⟩ := DataW.trod_int Try.underlying3 t0
    obtain ⟨a, e1, _, w1⟩ := DataW.trod_int Try.underlying3 t1
    obtain ⟨x, e2, _, w2⟩ := DataW.trod_int Try.underlying46 t2
    obtain ⟨y, e3, _, w3⟩ := DataW.trod_int Try.underlying46 t3
    obtain ⟨x1, e4, _, w4⟩ := DataW.trod_int Try.underlying46 t4
    obtain ⟨y1', e5, _, w5⟩ := DataW.trod_int Try.underlying46 t5
    obtain ⟨s, e6, _, w6⟩ := DataW.trod_string Try.underlying9 t6
    obtain ⟨f, qa, fc, e7, f1, f2, RF, fz⟩ := fate_in t7
    simp at e0 e1 e2 e3 e4 e5 e6
    have g1 := bounds_i64 w1
    have g2 := bounds_u32 w2
    have g3 := bounds_u32 w3
    have g4 := bounds_u32 w4
    have g5 := bounds_u32 w5
    exact ⟨⟨k, a, x, y, x1, y1', s, qa, fc, f⟩, by rw [e0, e1, e2, e3, e4, e5, e6, e7]; rfl, ⟨g1.1, g1.2, g2.1, g2.2, g3.1, g3.2, g4.1, g4.2, g5.1, g5.2, w6, f1, f2, fz⟩, RF⟩
  have hg : ∃ g : Nat → Sp, ∀ i, i < n → [F i 0, F i 1, F i 2, F i 3, F i 4, F i 5, F i 6, F i 7] = spcells (g i) ∧ (g i).ok ∧ (g i).there W := by
    haveI : Nonempty Sp := ⟨⟨0, 0, 0, 0, 0, 0, ByteArray.empty, none, 0, []⟩⟩
    exact ⟨fun i => Classical.epsilon fun s => [F i 0, F i 1, F i 2, F i 3, F i 4, F i 5, F i 6, F i 7] = spcells s ∧ s.ok ∧ s.there W, fun i hi => Classical.epsilon_spec (each i hi)⟩
  obtain ⟨g, hg⟩ := hg
  have hlen : ((List.range n).map g).length = n := by simp
  refine ⟨(List.range n).map g, q, cap, by rw [hlen]; exact hv, by rw [hlen]; exact h1, h2, ?_, fun s hs => ?_, fun s hs => ?_⟩
  · unfold RowOf
    rw [hlen]
    refine h3.imp id fun ⟨b, o, e, hlt, hc⟩ => ⟨b, o, e, hlt, fun i hi j v hv => ?_⟩
    have e1 : atR spT ((List.range n).map g) i = g i := by rw [atR_eq _ i (by rw [hlen]; exact hi)]; simp
    have hv' : (spcells (g i))[j]? = some v := by rw [← e1]; exact hv
    rw [← (hg i hi).1] at hv'
    match j, hv' with
    | 0, hv => simp at hv; subst hv; exact hc i hi 0 (by decide)
    | 1, hv => simp at hv; subst hv; exact hc i hi 1 (by decide)
    | 2, hv => simp at hv; subst hv; exact hc i hi 2 (by decide)
    | 3, hv => simp at hv; subst hv; exact hc i hi 3 (by decide)
    | 4, hv => simp at hv; subst hv; exact hc i hi 4 (by decide)
    | 5, hv => simp at hv; subst hv; exact hc i hi 5 (by decide)
    | 6, hv => simp at hv; subst hv; exact hc i hi 6 (by decide)
    | 7, hv => simp at hv; subst hv; exact hc i hi 7 (by decide)
  · obtain ⟨i, hi, rfl⟩ := List.mem_map.1 hs
    exact (hg i (List.mem_range.1 hi)).2.1
  · obtain ⟨i, hi, rfl⟩ := List.mem_map.1 hs
    exact (hg i (List.mem_range.1 hi)).2.2
end Go.Proofs.Ytngfhbclapadoaa
