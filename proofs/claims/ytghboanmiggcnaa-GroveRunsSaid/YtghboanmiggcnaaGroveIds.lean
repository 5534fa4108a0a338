/-
  Package grove: Ids of a grove.
-/
import Derived.Test.YtghboanmiggcnaaGroveOps
namespace Go.Proofs.Ytghboanmiggcnaa
open Go.RowKit Go.Maps Go.Sort Go.Shelf
set_option linter.unusedVariables false
set_option linter.unusedSimpArgs false

set_option maxRecDepth 100000 in
set_option maxHeartbeats 1000000 in
theorem gids_sorted (g b n : Nat) (D : DataW Value) (w : World) (G : GroveM w g b n D) (hn : n ≤ 1000000) : Calls Try.prog 16 #[.pointer (some ⟨g, 0, none⟩)] w fun e w' => ∃ (v : Value) (ss : List Int), e = .returned v ∧ ss.Perm (intKeys D) ∧
    w'.ownsRow w.heap.size 3 1 v ss.length ((ss.mergeSort leI).map encZ) ∧ (v = .slice none 0 0 ↔ ss = []) ∧ Below w.heap.size w w' := by
  have hown := G.own
  have hsz := hown.size_le
  have hbl := hown.lt
  have cA : CallsIn Fence.wide 5 Try.prog 31 #[.pointer (some ⟨g, 0, none⟩)] w fun e w' => e = .returned (.map (some b)) ∧ w' = w := callsIn_wide.2 (gallOf g (.map (some b)) w G.blk)
  clear G
  refine (callsIn_wide (n := 6)).1 ?_
  have hseq : SeqGives Fence.wide 2 Try.prog 59 #[.pointer (some ⟨w.heap.size, 0, none⟩)] encZ (fun ss : List Int => ss.Perm (intKeys D)) (Maps.size D) (w.alloc (.cells #[.map (some b)] 71)) :=
    AnyZI.keys_gives (ρ := Try.keysN_ren) { Try.keysN with } Fence.wide _ trivial rfl (by omega) w.heap.size b n D _ (by simp) (by simp) (by
      obtain ⟨es, clock, hb, Ft, hs, hD⟩ := hown
      exact ⟨es, clock, (Below.heap_alloc _ _ b hbl).trans hb, Ft, hs, hD⟩)
  have cK : ∀ mb W, CallsIn Fence.wide 5 Try.prog 34 #[.map mb] W fun e w' => e = .returned (.func (.func 59) #[] #[.pointer (some ⟨W.heap.size, 0, none⟩)]) ∧ w' = W.alloc (.cells #[.map mb] 71) := fun mb W => AnyZI.keys_in Try.keysN Fence.wide 5 trivial rfl mb W
  have cS := AnyZI.sorted_in Try.sortedI Fence.wide 5 trivial trivial trivial trivial rfl (by omega) (gsorts _) (enters_of Try.func58 (by kernel_rfl) rfl) 59 #[.pointer (some ⟨w.heap.size, 0, none⟩)] trivial (enters_of Try.func59 (by kernel_rfl) rfl) _ (Maps.size D) (by unfold maxLen; omega) (by omega) _ hseq
  change CallsIn _ _ Try.prog 33 _ _ _ at cS
  have hfK : Fence.wide.fn 34 := trivial
  have hfS : Fence.wide.fn 33 := trivial
  have hfA : Fence.wide.fn 31 := trivial
  clear hown hsz
  refine callsIn_of_wp Try.func16 rfl trivial ?_ rfl
  simp only [Try.ntmps16, List.size_toArray, List.length_cons, List.length_nil, Nat.reduceAdd, Nat.reduceSub, Array.replicate_succ, Array.replicate_zero, List.push_toArray, List.append_toArray, List.nil_append, List.cons_append]
  gi_wp2_with (first
    | (gi_at_call 31; refine cA.mono ?_; rintro e w' ⟨rfl, rfl⟩)
    | (gi_at_call 34; refine (cK _ _).mono ?_; rintro e w' ⟨rfl, rfl⟩)
    | (gi_at_call 33; refine cS.mono ?_; rintro e w' ⟨v, ss, rfl, hS, hrow, hnil, hb⟩))
  go_ret
  exact ⟨v, ss, rfl, hS, ownsRow_base_a hrow (by simp), hnil, below_al hb⟩

/-- The Ids below N that are so. -/
def idsN (N : Nat) (f : Nat → Bool) : List Int := ((List.range N).filter f).map (fun k : Nat => (k : Int))
theorem ids_keys {w : World} {R : Value → Option (DataW Value × List MemPlace)} {b n : Nat} {D : DataW Value} (h : w.ownsMap Try.prog 3 R b n D) (N : Nat) (hN : N ≤ 4096) (f : Nat → Bool) (hf : ∀ z : Int, (Lit.int .i64 z).wf = true → Maps.has D (.int .i64 z) = (decide (0 ≤ z ∧ z < (N : Int)) && f z.toNat))
    (ss : List Int) (hp : ss.Perm (intKeys D)) : ss.mergeSort leI = idsN N f ∧ ss.length = (idsN N f).length := by
  obtain ⟨es, rfl, hpw, _⟩ := h.entries (int_keyed Try.underlying3)
  obtain ⟨es', hD', hko⟩ := h.keysOf
  obtain rfl : es = es' := by simpa using hD'
  have hwf := intKeys_wf h Try.underlying3
  have hk : ∀ p ∈ es, ∃ x, p.1 = .int .i64 x := fun p hp => by
    obtain ⟨v, hv⟩ := hko p hp
    obtain ⟨x, _, hx, _⟩ := Maps.keyOf_i64 Try.underlying3 hv
    exact ⟨x, hx⟩
  have hnd : (idsN N f).Nodup := by
    unfold idsN List.Nodup
    rw [List.pairwise_map]
    exact (List.nodup_range.filter f).imp fun h e => h (by omega)
  have hm : ∀ x, x ∈ idsN N f ↔ Maps.has (.map es) (.int .i64 x) = true := fun x => by
    unfold idsN
    rw [List.mem_map]
    constructor
    · rintro ⟨k, hk, rfl⟩
      rw [List.mem_filter, List.mem_range] at hk
      rw [hf (k : Int) (by rw [show (k : Int) = wrap64 (k : Int) by unfold wrap64; omega]; exact wrap64_wf _)]
      simp [hk.1, hk.2]
    · intro hx
      have hx' := hx
      rw [has_eq, List.any_eq_true] at hx'
      obtain ⟨p, hp, hs⟩ := hx'
      obtain ⟨a, ha⟩ := hk p hp
      have hax : a = x := by rw [ha] at hs; simpa [Lit.sameKey] using hs
      subst hax
      have hw := hwf a (List.mem_map.2 ⟨p, hp, by rw [ha]; rfl⟩)
      rw [hf a hw] at hx
      simp only [Bool.and_eq_true, decide_eq_true_eq] at hx
      refine ⟨a.toNat, ?_, by omega⟩
      rw [List.mem_filter, List.mem_range]
      exact ⟨by omega, hx.2⟩
  have hperm := perm_intKeys hpw hk hnd hm
  have hall := hp.trans hperm.symm
  refine ⟨?_, hall.length_eq⟩
  rw [mergeSort_of_perm_i hall]
  refine List.mergeSort_of_pairwise ?_
  unfold idsN
  rw [List.pairwise_map]
  have hr : (List.range N).Pairwise (· < ·) := List.pairwise_lt_range
  exact (hr.sublist List.filter_sublist).imp fun h => decide_eq_true (by omega)

theorem count_none : ∀ (n k : Nat), n ≤ k → List.countP (fun j => j == k) (List.range n) = 0
  | 0, k, _ => rfl
  | n + 1, k, h => by
    rw [List.range_succ, List.countP_append, count_none n k (by omega), List.countP_cons, List.countP_nil]
    rw [if_neg (show ¬ ((n == k) = true) by rw [beq_iff_eq]; omega)]
theorem count_range : ∀ (n k : Nat), k < n → List.countP (fun j => j == k) (List.range n) = 1
  | n + 1, k, h => by
    rw [List.range_succ, List.countP_append, List.countP_cons, List.countP_nil]
    by_cases e : n = k
    · subst e; rw [count_none n n (Nat.le_refl _), if_pos (by simp)]
    · rw [count_range n k (by omega), if_neg (show ¬ ((n == k) = true) by rw [beq_iff_eq]; exact e)]
/-- Of a grove of one node one Id is told. -/
theorem gids_one (g b n : Nat) (D : DataW Value) (w : World) (G : GroveM w g b n D) (hn : n ≤ 1000000) (id : Int) (i0 : 0 ≤ id) (i1 : id < 300) (hD : ∀ z : Int, Maps.has D (.int .i64 z) = decide (z = id)) :
    Calls Try.prog 16 #[.pointer (some ⟨g, 0, none⟩)] w fun e w' => ∃ q c, e = .returned (.slice q 1 c) ∧ Below w.heap.size w w' :=
  (gids_sorted g b n D w G hn).mono fun e w' ⟨v, ss, he, hp, hrow, hnil, hb⟩ => by
    obtain ⟨_, h2⟩ := ids_keys G.own 300 (by omega) (fun k => k == id.toNat) (fun z hz => by
      rw [hD z]
      by_cases h : z = id
      · subst h; simp [i0, i1]
      · rw [decide_eq_false h]
        symm
        rw [Bool.and_eq_false_iff]
        by_cases h0 : 0 ≤ z ∧ z < ((300 : Nat) : Int)
        · exact .inr (by rw [beq_eq_false_iff_ne]; omega)
        · exact .inl (decide_eq_false h0)) ss hp
    have h3 : (idsN 300 (fun k => k == id.toNat)).length = 1 := by
      unfold idsN
      rw [List.length_map, ← List.countP_eq_length_filter]
      exact count_range 300 id.toNat (by omega)
    rw [h3] at h2
    rcases hrow.2 with ⟨e, h0⟩ | ⟨g', cap, cur, e, _⟩
    · rw [h2] at h0; cases h0
    · exact ⟨_, cap, by rw [he, e, h2], hb⟩
end Go.Proofs.Ytghboanmiggcnaa
