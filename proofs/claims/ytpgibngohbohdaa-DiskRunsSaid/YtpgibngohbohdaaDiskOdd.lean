/-
  Package disk: Odd of a disk.
-/
import Derived.Test.YtpgibngohbohdaaDiskNil
import Derived.Test.YtpgibngohbohdaaDiskMem
namespace Go.Proofs.Ytpgibngohbohdaa
open Go.RowKit Go.Maps Go.Sort Go.Shelf
set_option linter.unusedVariables false
set_option linter.unusedSimpArgs false

set_option maxRecDepth 100000 in
set_option maxHeartbeats 1000000 in
theorem odd_sorted (m : DM) (b : Nat) (K : Nat → Prop) (w : World) (D : DiskM w b m K) (hn : m.n' ≤ 1000000) : Calls Try.prog 12 #[.pointer (some ⟨b, 0, none⟩)] w fun e w' => ∃ (v : Value) (ss : List Int), e = .returned v ∧ ss.Perm (intKeys m.DO) ∧
    w'.ownsRow w.heap.size 3 1 v ss.length ((ss.mergeSort leI).map encZ) ∧ (v = .slice none 0 0 ↔ ss = []) ∧ Below w.heap.size w w' := by
  have hown := D.O
  have hsz := hown.size_le
  have hbl := hown.lt
  have B := D.blk
  simp only [DM.cells, DM.sv, DM.wv, DM.fv] at B
  clear D
  refine (callsIn_wide (n := 6)).1 ?_
  have hseq : SeqGives Fence.wide 2 Try.prog 72 #[.pointer (some ⟨w.heap.size, 0, none⟩)] encZ (fun ss : List Int => ss.Perm (intKeys m.DO)) (Maps.size m.DO) (w.alloc (.cells #[.map (some m.om)] 81)) :=
    AnyZI.keys_gives (ρ := Try.keysD_ren) { Try.keysD with } Fence.wide _ trivial rfl (by omega) w.heap.size m.om m.n' m.DO _ (by simp) (by simp) (by
      obtain ⟨es, clock, hb, Ft, hs, hD⟩ := hown
      exact ⟨es, clock, (Below.heap_alloc _ _ m.om hbl).trans hb, Ft, hs, hD⟩)
  have cK : ∀ mb W, CallsIn Fence.wide 5 Try.prog 43 #[.map mb] W fun e w' => e = .returned (.func (.func 72) #[] #[.pointer (some ⟨W.heap.size, 0, none⟩)]) ∧ w' = W.alloc (.cells #[.map mb] 81) := fun mb W => AnyZI.keys_in Try.keysD Fence.wide 5 trivial rfl mb W
  have cS := AnyZI.sorted_in Try.sortedI Fence.wide 5 trivial trivial trivial trivial rfl (by omega) (ndsorts _) (enters_of Try.func71 (by kernel_rfl) rfl) 72 #[.pointer (some ⟨w.heap.size, 0, none⟩)] trivial (enters_of Try.func72 (by kernel_rfl) rfl) _ (Maps.size m.DO) (by unfold maxLen; omega) (by omega) _ hseq
  change CallsIn _ _ Try.prog 42 _ _ _ at cS
  have hfK : Fence.wide.fn 43 := trivial
  have hfS : Fence.wide.fn 42 := trivial
  obtain ⟨l0, k0, f0⟩ := B
  clear hown hsz
  refine callsIn_of_wp Try.func12 rfl trivial ?_ rfl
  simp only [Try.ntmps12, List.size_toArray, List.length_cons, List.length_nil, Nat.reduceAdd, Nat.reduceSub, Array.replicate_succ, Array.replicate_zero, List.push_toArray, List.append_toArray, List.nil_append, List.cons_append]
  gi_wp2_with (first
    | (gi_at_call 43; refine (cK _ _).mono ?_; rintro e w' ⟨rfl, rfl⟩)
    | (gi_at_call 42; refine cS.mono ?_; rintro e w' ⟨v, ss, rfl, hS, hrow, hnil, hb⟩))
  go_ret
  exact ⟨v, ss, rfl, hS, ownsRow_base_a hrow (by simp), hnil, ndbelow_al hb⟩

/-- The sectors below N that are so. -/
def oddN (N : Nat) (f : Nat → Bool) : List Int := ((List.range N).filter f).map (fun k : Nat => (k : Int))
theorem odd_keys {w : World} {R : Value → Option (DataW Unit × List MemPlace)} {b n : Nat} {D : DataW Unit} (h : w.ownsMap Try.prog 3 R b n D) (N : Nat) (hN : N ≤ 4096) (f : Nat → Bool) (hf : ∀ z : Int, (Lit.int .i64 z).wf = true → Maps.has D (.int .i64 z) = (decide (0 ≤ z ∧ z < (N : Int)) && f z.toNat))
    (ss : List Int) (hp : ss.Perm (intKeys D)) : ss.mergeSort leI = oddN N f ∧ ss.length = (oddN N f).length := by
  obtain ⟨es, rfl, hpw, _⟩ := h.entries (int_keyed Try.underlying3)
  obtain ⟨es', hD', hko⟩ := h.keysOf
  obtain rfl : es = es' := by simpa using hD'
  have hwf := intKeys_wf h Try.underlying3
  have hk : ∀ p ∈ es, ∃ x, p.1 = .int .i64 x := fun p hp => by
    obtain ⟨v, hv⟩ := hko p hp
    obtain ⟨x, _, hx, _⟩ := Maps.keyOf_i64 Try.underlying3 hv
    exact ⟨x, hx⟩
  have hnd : (oddN N f).Nodup := by
    unfold oddN List.Nodup
    rw [List.pairwise_map]
    exact (List.nodup_range.filter f).imp fun h e => h (by omega)
  have hm : ∀ x, x ∈ oddN N f ↔ Maps.has (.map es) (.int .i64 x) = true := fun x => by
    unfold oddN
    rw [List.mem_map]
    constructor
    · rintro ⟨k, hk, rfl⟩
      rw [List.mem_filter, List.mem_range] at hk
      rw [hf (k : Int) (by rw [show (k : Int) = wrap64 (k : Int) by unfold wrap64; omega]; exact wrap64_wf _)]
      simp [hk.1, hk.2]
    · intro hx
      have hx' := hx
      rw [has_eq, List.any_eq_true] at hx'
      obtain ⟨p, hp, hs⟩ := hx'
      obtain ⟨a, ha⟩ := hk p hp
      have hax : a = x := by rw [ha] at hs; simpa [Lit.sameKey] using hs
      subst hax
      have hw := hwf a (List.mem_map.2 ⟨p, hp, by rw [ha]; rfl⟩)
      rw [hf a hw] at hx
      simp only [Bool.and_eq_true, decide_eq_true_eq] at hx
      refine ⟨a.toNat, ?_, by omega⟩
      rw [List.mem_filter, List.mem_range]
      exact ⟨by omega, hx.2⟩
  have hperm := perm_intKeys hpw hk hnd hm
  have hall := hp.trans hperm.symm
  refine ⟨?_, hall.length_eq⟩
  rw [mergeSort_of_perm_i hall]
  refine List.mergeSort_of_pairwise ?_
  unfold oddN
  rw [List.pairwise_map]
  have hr : (List.range N).Pairwise (· < ·) := List.pairwise_lt_range
  exact (hr.sublist List.filter_sublist).imp fun h => decide_eq_true (by omega)
theorem odd_any (m : DM) (b : Nat) (K : Nat → Prop) (w : World) (D : DiskM w b m K) (hn : m.n' ≤ 1000000) (N : Nat) (hN : N ≤ 4096) (f : Nat → Bool) (hf : ∀ z : Int, (Lit.int .i64 z).wf = true → Maps.has m.DO (.int .i64 z) = (decide (0 ≤ z ∧ z < (N : Int)) && f z.toNat)) :
    Calls Try.prog 12 #[.pointer (some ⟨b, 0, none⟩)] w fun e w' => ∃ v, e = .returned v ∧ RowOwn fatT w' w.heap.size v (oddN N f) ∧ (v = .slice none 0 0 ↔ oddN N f = []) ∧ Below w.heap.size w w' :=
  (odd_sorted m b K w D hn).mono fun e w' ⟨v, ss, he, hp, hrow, hnil, hb⟩ => by
    obtain ⟨h1, h2⟩ := odd_keys D.O N hN f hf ss hp
    refine ⟨v, he, ?_, ?_, hb⟩
    · rw [h1, h2] at hrow
      have : flatR fatT (oddN N f) = (oddN N f).map encZ := by
        unfold flatR
        induction oddN N f with
        | nil => rfl
        | cons x l ih => rw [List.flatMap_cons, ih]; rfl
      unfold RowOwn
      rw [this]
      exact hrow
    · rw [hnil]
      constructor
      · rintro rfl; exact List.eq_nil_of_length_eq_zero h2.symm
      · intro h; rw [h] at h2; exact List.eq_nil_of_length_eq_zero h2
end Go.Proofs.Ytpgibngohbohdaa
