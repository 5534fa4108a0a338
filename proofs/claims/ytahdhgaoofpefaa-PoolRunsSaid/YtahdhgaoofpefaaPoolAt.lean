/-
  Whole numbers in a slice of the call's own that may begin behind its row's beginning: one more behind, the first one off.
-/
import Derived.Test.YtahdhgaoofpefaaPoolRow
namespace Go.Proofs.Ytahdhgaoofpefaa
open Go.RowKit Go.Conc
set_option linter.unusedVariables false
set_option linter.unusedSimpArgs false

/-- In block g, from place o on, lie these numbers; there is room for cap. -/
structure IntsAt (w : World) (base g o cap : Nat) (l : List Int) : Prop where
  base : base ≤ g
  len : l.length ≤ cap
  most : cap ≤ maxLen
  cells : ∃ cur, w.heap[g]? = some (.cells cur 3 (0, 0)) ∧ o + cap ≤ cur.size ∧ ∀ j, j < l.length → cur[o + j]? = some (.int .i64 (l.getD j 0))
abbrev atv (g o cap : Nat) (l : List Int) : Value := .slice (some ⟨g, o, none⟩) l.length cap

theorem IntsAt.lt {w : World} {base g o cap : Nat} {l : List Int} (h : IntsAt w base g o cap l) : g < w.heap.size := by
  obtain ⟨cur, hg, _⟩ := h.cells
  exact (Array.getElem?_eq_some_iff.1 hg).1
theorem IntsAt.sole {S : Nat → Prop} {w w' : World} {base g o cap : Nat} {l : List Int} (h : IntsAt w base g o cap l) (hs : Sole S w w') (hn : ¬ S g) : IntsAt w' base g o cap l :=
  ⟨h.base, h.len, h.most, (by obtain ⟨cur, hg, r⟩ := h.cells; exact ⟨cur, (hs.block g h.lt hn).trans hg, r⟩)⟩
theorem IntsAt.more {w w' : World} {base g o cap : Nat} {l : List Int} (h : IntsAt w base g o cap l) (hb : Below w.heap.size w w') : IntsAt w' base g o cap l :=
  h.sole (Sole.made (S := fun _ => False) hb) (fun x => x)
theorem IntsAt.row {w : World} {base g o cap : Nat} {l : List Int} (h : IntsAt w base g o cap l) : RowP w (some ⟨g, o, none⟩) 1 l.length (fun i => [.int .i64 (l.getD i 0)]) := by
  obtain ⟨cur, hg, hs, hc⟩ := h.cells
  refine .inr ⟨g, o, rfl, h.lt, fun i hi j v hv => ?_⟩
  have hj : j = 0 := by
    rcases j with _ | j
    · rfl
    · simp at hv
  subst hj
  simp at hv
  subst hv
  have := hc i hi
  simp only [Nat.mul_one, Nat.add_zero]
  simp [World.cell?, hg, this]
theorem IntsAt.cell {w : World} {base g o cap : Nat} {l : List Int} (h : IntsAt w base g o cap l) {j : Nat} (hj : j < l.length) : w.cell? ⟨g, o + j, none⟩ = some (.int .i64 (l.getD j 0)) := by
  obtain ⟨cur, hg, hs, hc⟩ := h.cells
  simp [World.cell?, hg, hc j hj]

theorem IntsOwn.at0 {w : World} {base : Nat} {v : Value} {l : List Int} (h : IntsOwn w base v l) (hv : v ≠ .slice none 0 0) : ∃ g cap, v = atv g 0 cap l ∧ IntsAt w base g 0 cap l := by
  rcases h.2 with ⟨rfl, _⟩ | ⟨g, cap, cur, rfl, hb, hg, h1, h2, h3, h4⟩
  · exact absurd rfl hv
  · refine ⟨g, cap, rfl, hb, h1, h2, cur, hg, by omega, fun j hj => ?_⟩
    have e : (cur.toList.take (l.length * 1))[j]? = (l.map (Value.int .i64))[j]? := by rw [h4]
    rw [List.getElem?_take_of_lt (by omega), Array.getElem?_toList] at e
    rw [Nat.zero_add, e]
    simp [hj]

/-- The first one off. -/
theorem IntsAt.tail {w : World} {base g o cap : Nat} {x : Int} {l : List Int} (h : IntsAt w base g o cap (x :: l)) : IntsAt w base g (if cap = 1 then o else o + 1) (cap - 1) l := by
  obtain ⟨cur, hg, hs, hc⟩ := h.cells
  have hlen := h.len
  have hmost := h.most
  simp only [List.length_cons] at hlen hc
  refine ⟨h.base, by omega, by omega, cur, hg, by split <;> omega, fun j hj => ?_⟩
  have := hc (j + 1) (by omega)
  rw [if_neg (by omega)]
  rw [show o + 1 + j = o + (j + 1) by omega, this]
  simp

theorem list_put (c : List Value) (k : Nat) (v : Value) (hk : k < c.length) (i : Nat) : ((c.take k ++ [v] ++ c.drop (k + 1)).toArray)[i]? = if i = k then some v else c[i]? := by
  have e : c.take k ++ [v] ++ c.drop (k + 1) = c.set k v := by
    rw [List.set_eq_take_append_cons_drop, if_pos hk, List.append_assoc]
    rfl
  rw [e, List.getElem?_toArray, List.getElem?_set]
  by_cases h : k = i
  · subst h; simp [hk]
  · rw [if_neg h, if_neg (fun e => h e.symm)]

theorem run_append_at {w : World} (ty : TypeId) {base g o cap : Nat} {l : List Int} (h : IntsAt w base g o cap l) (x : Int) (a : Addr) (c : Nat) (hx : w.cell? a = some (.int .i64 x)) (hl : l.length ≤ 1000000) (hbase : base ≤ w.heap.size) :
    ∃ g' o' cap' w', (Builtin.append_ #[22, 22] ty #[atv g o cap l, .slice (some a) 1 c]).run Try.prog w = .ok (.slice (some ⟨g', o', none⟩) (l.length + 1) cap') w' ∧ IntsAt w' base g' o' cap' (l ++ [x]) ∧ (g' = g ∨ w.heap.size ≤ g') ∧ w.grownBy w' (some g) := by
  obtain ⟨i, hi, hz, hs, hby⟩ := info_parts intTab
  have ht := Try.underlying22
  obtain ⟨cur, hg, hsz, hc⟩ := h.cells
  have hcap := h.len
  have hnews : ∀ j u, ([Value.int .i64 x])[j]? = some u → w.cell? (a.add j) = some u := by
    intro j u hu
    rcases j with _ | j
    · simp at hu; subst hu
      simpa [Addr.add] using hx
    · simp at hu
  have h1 : ∀ u ∈ [Value.int .i64 x], u.oneCell' = true := one_int x
  have getD_snoc : ∀ j, j < l.length → (l ++ [x]).getD j 0 = l.getD j 0 := fun j hj => by simp [List.getD, hj, List.getElem?_append_left hj]
  have getD_last : (l ++ [x]).getD l.length 0 = x := by simp [List.getD]
  by_cases hroom : l.length + 1 ≤ cap
  · have hf := run_firstCells_some (P := Try.prog) w i.size 1 a 1 c [Value.int .i64 x] (by simp [hs]) hnews
    have hst := run_storeCells_at Try.prog g (o + l.length) 3 [Value.int .i64 x] 0 cur w hg (by simp; omega) h1
    refine ⟨g, o, cap, w.setRow g (cur.toList.take (o + l.length) ++ [Value.int .i64 x] ++ cur.toList.drop (o + l.length + 1)).toArray, ?_, ⟨h.base, by simp; omega, h.most, _, setRow_heap w g cur _ _ _ hg, ?_, ?_⟩, .inl rfl, ⟨rfl, rfl, rfl, by simp [World.setRow], fun k _ hk => setRow_other w g k _ (fun e => hk (by rw [e]))⟩⟩
    · simp only [Nat.add_zero, List.length_cons, List.length_nil, Nat.zero_add] at hst
      rw [hs] at hf
      simp [Builtin.append_, run_underlying ht, sizeOf, typeInfo, hi, Builtin.lenOf, hroom, hf, Addr.add_lit, hs, hst]
    · simp only [List.size_toArray, List.length_append, List.length_take, List.length_drop, Array.length_toList, List.length_cons, List.length_nil]
      omega
    · intro j hj
      rw [List.length_append, List.length_cons, List.length_nil] at hj
      rw [list_put cur.toList (o + l.length) _ (by have hcl : cur.toList.length = cur.size := Array.length_toList; omega)]
      by_cases e : j < l.length
      · rw [if_neg (by omega), getD_snoc j e, Array.getElem?_toList]
        exact hc j e
      · obtain rfl : j = l.length := by omega
        rw [if_pos rfl, getD_last]
  · have holds : ∀ j u, (l.map (Value.int .i64))[j]? = some u → w.cell? ((⟨g, o, none⟩ : Addr).add j) = some u := by
      intro j u hu
      have hj : j < l.length := by
        have := (List.getElem?_eq_some_iff.1 hu).1
        rwa [List.length_map] at this
      rw [Addr.add_lit, h.cell hj, ← hu]
      simp [hj]
    have hr := run_append_grow (P := Try.prog) w 22 ty 3 i (.int .i64 0) ht hi hz ⟨g, o, none⟩ l.length cap (l.map (Value.int .i64)) (by simp [hs]) holds a 1 c [Value.int .i64 x] (by simp [hs]) hnews (by omega) (by omega) (growslice_fits (by omega) (by rw [hby]; omega))
    have hge := grownCap_ge w (l.length + 1) cap 3
    refine ⟨w.heap.size, 0, _, _, hr, ⟨hbase, by simpa using hge, grownCap_le_maxLen w _ _ _ (by unfold maxLen; omega), _, heap_alloc_new w.drew _, ?_, ?_⟩, .inr (Nat.le_refl _), ⟨rfl, rfl, rfl, by simp, fun k hk _ => (Below.heap_alloc w.drew _ _ (by simpa using hk))⟩⟩
    · simp only [Array.size_append, List.size_toArray, size_zeroCells, List.length_map, List.length_cons, List.length_nil]
      simp [Value.cells]
      omega
    · intro j hj
      rw [List.length_append, List.length_cons, List.length_nil] at hj
      have e : ((l.map (Value.int .i64)).toArray ++ [Value.int .i64 x].toArray ++ Builtin.zeroCells (Value.int .i64 0).cells (grownCap w (l.length + 1) cap 3 - (l.length + 1)))[0 + j]? = ((l ++ [x]).map (Value.int .i64)).toArray[j]? := by
        rw [Nat.zero_add, Array.getElem?_append_left (by simp; omega)]
        simp
      rw [e]
      simp [List.getElem?_append, hj, List.getD]
      by_cases e : j < l.length
      · simp [e]
      · obtain rfl : j = l.length := by omega
        simp
/-- append(s, t...) of whole numbers: s a row of the call's own, t any. -/
theorem append_ints2 (base : Nat) (ty : TypeId) (w : World) (v : Value) (l : List Int) (hown : IntsOwn w base v l) (a : Option Addr) (c : Nat) (m : List Int) (R : RowP w a 1 m.length (fun i => [.int .i64 (m.getD i 0)])) (hn : l.length + m.length ≤ 17592186044416) (hbase : base ≤ w.heap.size) :
    ∃ v' w', (Builtin.append_ #[22, 22] ty #[v, .slice a m.length c]).run Try.prog w = .ok v' w' ∧ IntsOwn w' base v' (l ++ m) ∧ w.grownBy w' v.ownBlock ∧ (v ≠ .slice none 0 0 → v' ≠ .slice none 0 0) := by
  obtain ⟨i, hi, hz, hs, hby⟩ := info_parts intTab
  have ht := Try.underlying22
  by_cases h0 : m = []
  · subst h0
    refine ⟨v, w, ?_, by simpa using hown, ⟨rfl, rfl, rfl, Nat.le_refl _, fun _ _ _ => rfl⟩, id⟩
    rcases hown.2 with ⟨rfl, h0⟩ | ⟨g, cap, cur, rfl, hbg, hg, hnc, hcm, hcs, htake⟩
    · cases a <;> simp [Builtin.append_, run_underlying ht, sizeOf, typeInfo, hi, hs, Builtin.lenOf, Builtin.firstCells, loadCells, loadCellsFrom, storeCells]
    · cases a <;> simp [Builtin.append_, run_underlying ht, sizeOf, typeInfo, hi, hs, Builtin.lenOf, Builtin.firstCells, loadCells, loadCellsFrom, storeCells, hnc]
  · have hp : m.length ≠ 0 := fun h => h0 (List.eq_nil_of_length_eq_zero h)
    obtain ⟨b, o, rfl, r⟩ := R.row hp
    have hnews : ∀ j u, (m.map (Value.int .i64))[j]? = some u → w.cell? ((⟨b, o, none⟩ : Addr).add j) = some u := by
      intro j u hu
      have hj : j < m.length := by
        have := (List.getElem?_eq_some_iff.1 hu).1
        rwa [List.length_map] at this
      have e : (⟨b, o, none⟩ : Addr).add j = ⟨b, o + j, none⟩ := by
        unfold Addr.add
        split
        · subst j; rfl
        · rfl
      have := r.at0 hj (v := .int .i64 (m.getD j 0)) rfl
      rw [Nat.mul_one] at this
      rw [e, this, ← hu]
      simp [hj]
    have hlen : (m.map (Value.int .i64)).length = m.length * 1 := by rw [List.length_map, Nat.mul_one]
    obtain ⟨v', w', hr, O, G, N⟩ := run_append_own (P := Try.prog) w base 22 ty 3 i (.int .i64 0) 1 8 ht hi hz hs hby rfl (by omega) v l.length (l.map (Value.int .i64)) hown ⟨b, o, none⟩ m.length c (m.map (Value.int .i64)) hlen hnews (fun u hu => by obtain ⟨x, -, rfl⟩ := List.mem_map.1 hu; rfl) (by unfold maxLen; omega) (by omega) hbase
    refine ⟨v', w', hr, ?_, G, fun h e => h (N.1 e).1⟩
    unfold IntsOwn
    rw [List.length_append, List.map_append]
    exact O

end Go.Proofs.Ytahdhgaoofpefaa
