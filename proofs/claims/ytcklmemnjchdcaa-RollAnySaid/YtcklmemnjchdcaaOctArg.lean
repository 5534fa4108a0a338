/-
  Octets that come in, as a list; a text that comes in.
-/
import Derived.Test.YtcklmemnjchdcaaOct
import Derived.Test.YtcklmemnjchdcaaSlices
import Derived.SizedLaws
namespace Go.Proofs.Ytcklmemnjchdcaa
open Go.ChangeShapes Go.WideShapes Go.ChangeAt Go.RowKit Go.Joins Go.Deep
set_option linter.unusedVariables false

set_option maxRecDepth 100000 in
/-- A slice of octets that comes in, as a list. -/
theorem octl_of {H : Type} {enc : TypeId × Value → H} {W : World} {b0 : Nat} {v : Value} {d : DataW H} {p : List MemPlace} (hv : Value.okWide Try.prog W .any b0 51 v) (h : DataW.Trod enc Try.prog W 0 (fun _ => true) true 51 v d p) :
    ∃ (l : List UInt8) (a : Option Addr) (cap : Nat), v = .slice a l.length cap ∧ l.length ≤ cap ∧ cap ≤ maxLen ∧ Octs W a l ∧ ((a = none ∧ cap = 0) ∨ (l = [] ∧ ∃ x, a = some x) ∨ ∃ b o, a = some ⟨b, o, none⟩) ∧
      (l = [] ∨ ∃ el sp, d = .slice el sp ∧ l.length ≤ el.length + sp.length) := by
  obtain ⟨fuel, hf⟩ := h
  obtain ⟨a0, len, cap, rfl⟩ := okWide_slice Try.underlying51 hv
  rcases open_ints Try.underlying51 Try.underlying5 (by kernel_rfl) hf with ⟨hcs, _⟩ | ⟨a, len', cap', zs, hcs, _, hl, hm, hz, hx, hcell, hwz⟩
  · simp [Value.cells] at hcs
    obtain ⟨rfl, rfl, rfl⟩ := hcs
    exact ⟨[], none, 0, rfl, Nat.le_refl _, Nat.zero_le _, .inl rfl, .inl ⟨rfl, rfl⟩, .inl rfl⟩
  · simp [Value.cells] at hcs
    obtain ⟨rfl, rfl, rfl⟩ := hcs
    simp only [if_true] at hz
    have hll : ((zs.take len).map fun z => UInt8.ofNat z.toNat).length = len := by rw [List.length_map, List.length_take]; omega
    refine ⟨(zs.take len).map fun z => UInt8.ofNat z.toNat, some a, cap, by rw [hll], by rw [hll]; exact hl, hm, ?_, ?_⟩
    · by_cases h0 : len = 0
      · subst h0; exact .inl (by simp)
      · have c0 := hcell 0 (by omega)
        have hsp : a.spot = none := by
          have := World.cell?_spot c0
          simpa [Addr.add] using this
        obtain ⟨b, o, sp⟩ := a
        simp only at hsp
        subst hsp
        have hadd : ∀ k, Addr.add ⟨b, o, none⟩ k = ⟨b, o + k, none⟩ := by
          intro k
          unfold Addr.add
          split
          · subst k; rfl
          · rfl
        refine .inr ⟨b, o, rfl, ?_, fun i hi => ?_⟩
        · have := cell_lt c0
          rwa [hadd] at this
        · rw [hll] at hi
          have hi' : i < zs.length := by omega
          have hc := hcell i hi'
          have hb := bounds_u8 (hwz zs[i] (List.getElem_mem hi'))
          rw [hadd] at hc
          rw [hc]
          have e1 : zs.getD i 0 = zs[i] := by simp [hi']
          rw [e1]
          simp only [List.getElem_map, List.getElem_take]
          rw [byte_ofNat]
          congr 2
          omega
    · refine ⟨?_, .inr ⟨_, _, congrArg Prod.fst hx, ?_⟩⟩
      · by_cases h0 : len = 0
        · subst h0; exact .inr (.inl ⟨by simp, a, rfl⟩)
        · have c0 := hcell 0 (by omega)
          have hsp : a.spot = none := by
            have := World.cell?_spot c0
            simpa [Addr.add] using this
          obtain ⟨b, o, sp⟩ := a
          simp only at hsp
          subst hsp
          exact .inr (.inr ⟨b, o, rfl⟩)
      · rw [hll]
        simp only [lits, List.length_map, List.length_take, List.length_drop]
        omega
/-- One parameter off the list, with its datum. -/
theorem args_consd {H : Type} {enc : TypeId × Value → H} {P : Program} {w : World} {base : Nat} {spare : Nat → Bool} {held : Bool} {t : TypeId} {ts : List TypeId} {vs : List Value} {ds : List (DataW H)} {ps : List MemPlace} (h : DataW.TrodAll enc P w base spare held (t :: ts) vs ds ps) :
    ∃ v vs' d ds' p q, vs = v :: vs' ∧ ds = d :: ds' ∧ DataW.Trod enc P w base spare held t v d p ∧ DataW.TrodAll enc P w base spare held ts vs' ds' q := by
  obtain ⟨v, vs', d, ds', p, q, h1, h2, _, h3, h4⟩ := trodAll_cons h
  exact ⟨v, vs', d, ds', p, q, h1, h2, h3, h4⟩
theorem bytes_u8 : Try.prog.bytesOf 5 = 1 := by kernel_rfl
/-- How long they may be. -/
theorem oct_reach {H : Type} {ts : List TypeId} {ds : List (DataW H)} (h : (DataW.weightsEach Try.prog ts ds).all (· ≤ reachBytes) = true) {j : Nat} {d : DataW H} {l : List UInt8} (ht : ts[j]? = some 51) (hd : ds[j]? = some d) (hl : l = [] ∨ ∃ el sp, d = .slice el sp ∧ l.length ≤ el.length + sp.length) : l.length ≤ 140737488351232 := by
  rcases hl with rfl | ⟨el, sp, rfl, hl⟩
  · simp
  · have := sized_slice h ht hd Try.underlying51
    rw [bytes_u8] at this
    simp only [reachBytes] at this
    omega
end Go.Proofs.Ytcklmemnjchdcaa
