/-
  Fates that come in: as a list; how many they may be.
-/
import Derived.Test.YtpgibngohbohdaaDiskMem
import Derived.Test.YtpgibngohbohdaaOpen
import Derived.SizedLaws
namespace Go.Proofs.Ytpgibngohbohdaa
open Go.ChangeShapes Go.WideShapes Go.ChangeAt Go.RowKit Go.Joins Go.Deep
set_option linter.unusedVariables false

set_option maxRecDepth 100000 in
/-- A slice of whole numbers that comes in, as a list. -/
theorem fatl_of {H : Type} {enc : TypeId × Value → H} {W : World} {b0 : Nat} {v : Value} {d : DataW H} {p : List MemPlace} (hv : Value.okWide Try.prog W .any b0 29 v) (h : DataW.Trod enc Try.prog W 0 (fun _ => true) true 29 v d p) :
    ∃ (l : List Int) (a : Option Addr) (cap : Nat), v = .slice a l.length cap ∧ l.length ≤ cap ∧ cap ≤ maxLen ∧ RowOf fatT W a l ∧ (∀ f ∈ l, f ≤ 9223372036854775807) ∧ (l = [] ∨ ∃ el sp, d = .slice el sp ∧ l.length ≤ el.length + sp.length) := by
  obtain ⟨fuel, hf⟩ := h
  obtain ⟨a0, len, cap, rfl⟩ := okWide_slice Try.underlying29 hv
  rcases open_ints Try.underlying29 Try.underlying3 (by kernel_rfl) hf with ⟨hcs, _⟩ | ⟨a, len', cap', zs, hcs, _, hl, hm, hz, hx, hcell, hwz⟩
  · simp [Value.cells] at hcs
    obtain ⟨rfl, rfl, rfl⟩ := hcs
    exact ⟨[], none, 0, rfl, Nat.le_refl _, Nat.zero_le _, .inl rfl, nofun, .inl rfl⟩
  · simp [Value.cells] at hcs
    obtain ⟨rfl, rfl, rfl⟩ := hcs
    simp only [if_true] at hz
    have hll : (zs.take len).length = len := by rw [List.length_take]; omega
    refine ⟨zs.take len, some a, cap, by rw [hll], by rw [hll]; exact hl, hm, ?_, fun f hf' => (bounds_i64 (hwz f (List.mem_of_mem_take hf'))).2, .inr ⟨_, _, congrArg Prod.fst hx, ?_⟩⟩
    · by_cases h0 : len = 0
      · subst h0; exact .inl (by simp)
      · have c0 := hcell 0 (by omega)
        have hsp : a.spot = none := by
          have := World.cell?_spot c0
          simpa [Addr.add] using this
        obtain ⟨b, o, sp⟩ := a
        simp only at hsp
        subst hsp
        refine .inr ⟨b, o, rfl, ?_, fun i hi j v hv => ?_⟩
        · have := cell_lt c0
          rwa [addr_plus] at this
        · rw [hll] at hi
          have hi' : i < zs.length := by omega
          have hj : j = 0 := by
            rcases j with _ | j
            · rfl
            · simp [fatT] at hv
          subst hj
          have hc := hcell i hi'
          rw [addr_plus] at hc
          have e0 : atR fatT (zs.take len) i = zs.getD i 0 := by
            rw [atR_eq _ i (by rw [hll]; exact hi)]
            simp [hi']
          have hv2 : Value.int .i64 (atR fatT (zs.take len) i) = v := Option.some.inj hv
          show W.cell? ⟨b, o + i * 1 + 0, none⟩ = _
          rw [show o + i * 1 + 0 = o + i by omega, hc, ← hv2, e0]
    · rw [hll]
      simp only [lits, List.length_map, List.length_take, List.length_drop]
      omega
theorem bytes_i64' : Try.prog.bytesOf 3 = 8 := by kernel_rfl
/-- How long they may be. -/
theorem fat_reach {H : Type} {ts : List TypeId} {ds : List (DataW H)} (h : (DataW.weightsEach Try.prog ts ds).all (· ≤ reachBytes) = true) {j : Nat} {d : DataW H} {l : List Int} (ht : ts[j]? = some 29) (hd : ds[j]? = some d) (hl : l = [] ∨ ∃ el sp, d = .slice el sp ∧ l.length ≤ el.length + sp.length) : l.length ≤ 17592186044416 := by
  rcases hl with rfl | ⟨el, sp, rfl, hl⟩
  · simp
  · have := sized_slice h ht hd Try.underlying29
    rw [bytes_i64'] at this
    simp only [reachBytes] at this
    omega
end Go.Proofs.Ytpgibngohbohdaa
