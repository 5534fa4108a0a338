/-
  What an argument that comes in is: a slice of slices of octets.
-/
import Derived.Test.YtoadcbegbkcigaaOcRow
import Derived.Test.YtoadcbegbkcigaaOctArg
import Derived.Deep.Slices
namespace Go.Proofs.Ytoadcbegbkcigaa
open Go.ChangeShapes Go.WideShapes Go.ChangeAt Go.RowKit Go.Joins Go.Deep
set_option linter.unusedVariables false

set_option maxRecDepth 100000 in
/-- Octets in a cell. -/
theorem oct_in {H : Type} {enc : TypeId × Value → H} {W : World} {v : Value} {fuel : Nat} {x : DataW H × List MemPlace} (hf : DataW.trod enc Try.prog W 0 (fun _ => true) true fuel 35 [v] = some x) :
    ∃ s : OcS, v = .slice s.a s.l.length s.cap ∧ s.there W := by
  rcases open_ints Try.underlying35 Try.underlying5 (by kernel_rfl) hf with ⟨hcs, _⟩ | ⟨a, len, cap, zs, hcs, _, hl, hm, hz, hx, hcell, hwz⟩
  · simp at hcs
    subst hcs
    exact ⟨⟨none, 0, []⟩, rfl, .inl rfl, Nat.le_refl _, Nat.zero_le _⟩
  · simp at hcs
    subst hcs
    simp only [if_true] at hz
    have hll : ((zs.take len).map fun z => UInt8.ofNat z.toNat).length = len := by rw [List.length_map, List.length_take]; omega
    refine ⟨⟨some a, cap, (zs.take len).map fun z => UInt8.ofNat z.toNat⟩, by show _ = Value.slice (some a) ((zs.take len).map fun z => UInt8.ofNat z.toNat).length cap; rw [hll], ?_, by show ((zs.take len).map fun z => UInt8.ofNat z.toNat).length ≤ cap; rw [hll]; exact hl, hm⟩
    show Octs W (some a) ((zs.take len).map fun z => UInt8.ofNat z.toNat)
    by_cases h0 : len = 0
    · subst h0; exact .inl (by simp)
    · have c0 := hcell 0 (by omega)
      have hsp : a.spot = none := by
        have := World.cell?_spot c0
        simpa [Addr.add] using this
      obtain ⟨b, o, sp⟩ := a
      simp only at hsp
      subst hsp
      have hadd : ∀ k, Addr.add ⟨b, o, none⟩ k = ⟨b, o + k, none⟩ := by
        intro k
        unfold Addr.add
        split
        · subst k; rfl
        · rfl
      refine .inr ⟨b, o, rfl, ?_, fun i hi => ?_⟩
      · have := cell_lt c0
        rwa [hadd] at this
      · rw [hll] at hi
        have hi' : i < zs.length := by omega
        have hc := hcell i hi'
        have hb := bounds_u8 (hwz zs[i] (List.getElem_mem hi'))
        rw [hadd] at hc
        rw [hc]
        have e1 : zs.getD i 0 = zs[i] := by simp [hi']
        rw [e1]
        simp only [List.getElem_map, List.getElem_take]
        rw [byte_ofNat]
        congr 2
        omega

set_option maxRecDepth 100000 in
/-- A slice of slices of octets that comes in. -/
theorem octll_of {H : Type} {enc : TypeId × Value → H} {W : World} {b0 : Nat} {v : Value} {d : DataW H} {p : List MemPlace} (hv : Value.okWide Try.prog W .any b0 26 v) (h : DataW.Trod enc Try.prog W 0 (fun _ => true) true 26 v d p) :
    ∃ (L : List OcS) (a : Option Addr) (cap : Nat), v = .slice a L.length cap ∧ L.length ≤ cap ∧ cap ≤ maxLen ∧ RowOf ocT W a L ∧ ∀ x ∈ L, x.there W := by
  obtain ⟨fuel, hf⟩ := h
  obtain ⟨a0, len, cap, rfl⟩ := okWide_slice Try.underlying26 hv
  rcases open_slice Try.underlying26 hf with ⟨h0, _⟩ | ⟨a, len', cap', m, n, D, Pl, hcs, hb, hl, hm, hmm, hx, hi⟩
  · simp [Value.cells] at h0
    obtain ⟨rfl, rfl, rfl⟩ := h0
    exact ⟨[], none, 0, rfl, Nat.le_refl _, Nat.zero_le _, .inl rfl, fun x hx => by cases hx⟩
  · simp [Value.cells] at hcs
    obtain ⟨rfl, rfl, rfl⟩ := hcs
    have hlm : len ≤ m := by rw [hmm]; split <;> omega
    have each : ∀ i, i < len → ∃ s : OcS, W.cell? (a.add i) = some (.slice s.a s.l.length s.cap) ∧ s.there W := by
      intro i hil
      obtain ⟨cs', hc, ht'⟩ := hi i (by omega)
      have hC : Try.prog.cellsOf 35 = 1 := by kernel_rfl
      rw [hC, Nat.mul_one] at hc
      obtain ⟨_, hcl, hat⟩ := World.cells?_some hc
      have hc0 := hat 0 (by omega)
      match cs', hcl, hc0, ht' with
      | [u], _, hc0, ht' =>
        obtain ⟨s, rfl, hs⟩ := oct_in ht'
        refine ⟨s, ?_, hs⟩
        have : Addr.add (a.add i) 0 = a.add i := by unfold Addr.add; simp
        rw [this] at hc0
        simpa using hc0
    have hg : ∃ g : Nat → OcS, ∀ i, i < len → W.cell? (a.add i) = some (.slice (g i).a (g i).l.length (g i).cap) ∧ (g i).there W := by
      haveI : Nonempty OcS := ⟨⟨none, 0, []⟩⟩
      exact ⟨fun i => Classical.epsilon fun s : OcS => W.cell? (a.add i) = some (.slice s.a s.l.length s.cap) ∧ s.there W, fun i hi => Classical.epsilon_spec (each i hi)⟩
    obtain ⟨g, hg⟩ := hg
    have hlen : ((List.range len).map g).length = len := by simp
    refine ⟨(List.range len).map g, some a, cap, by rw [hlen], by rw [hlen]; exact hl, hm, ?_, fun s hs => ?_⟩
    · by_cases h0 : len = 0
      · exact .inl (by rw [hlen]; exact h0)
      · have c0 := (hg 0 (by omega)).1
        have hsp : a.spot = none := by
          have := World.cell?_spot c0
          simpa [Addr.add] using this
        obtain ⟨b, o, sp⟩ := a
        simp only at hsp
        subst hsp
        have hadd : ∀ k, Addr.add ⟨b, o, none⟩ k = ⟨b, o + k, none⟩ := by
          intro k
          unfold Addr.add
          split
          · subst k; rfl
          · rfl
        refine .inr ⟨b, o, rfl, ?_, fun i hi j u hu => ?_⟩
        · have := cell_lt c0
          rwa [hadd] at this
        · rw [hlen] at hi
          have hj : j = 0 := by
            rcases j with _ | j
            · rfl
            · simp [ocT] at hu
          subst hj
          have e1 : atR ocT ((List.range len).map g) i = g i := by rw [atR_eq _ i (by rw [hlen]; exact hi)]; simp
          have hc := (hg i hi).1
          rw [hadd] at hc
          have hu2 : Value.slice (atR ocT ((List.range len).map g) i).a (atR ocT ((List.range len).map g) i).l.length (atR ocT ((List.range len).map g) i).cap = u := Option.some.inj hu
          show W.cell? ⟨b, o + i * 1 + 0, none⟩ = _
          rw [show o + i * 1 + 0 = o + i by omega, hc, ← hu2, e1]
    · obtain ⟨i, hi, rfl⟩ := List.mem_map.1 hs
      exact (hg i (List.mem_range.1 hi)).2
end Go.Proofs.Ytoadcbegbkcigaa
