/-
  append(s, t...) of items: s a row of the call's own, t any; a step of it in a region that draws its order.
-/
import Derived.Test.YtibjccfillhfpaaHeapRow
import Derived.Deep.RegionLaw
namespace Go.Proofs.Ytibjccfillhfpaa
open Go.RowKit
set_option linter.unusedVariables false
set_option linter.unusedSimpArgs false

theorem flatI_at (M : List It) (t : Nat) (h : t < M.length * 4) : (flatI M)[t]? = (icells (itAt M (t / 4)))[t % 4]? := by
  have hi : t / 4 < M.length := by omega
  have e : t = t / 4 * 4 + t % 4 := by omega
  have hr : t % 4 < (icells M[t / 4]).length := by show t % 4 < 4; omega
  have hf := flatI_get M (t / 4) (t % 4) hi _ (List.getElem?_eq_getElem hr)
  rw [← e] at hf
  rw [hf, itAt_eq M _ hi, List.getElem?_eq_getElem hr]

theorem icells_one (x : It) : ∀ u ∈ icells x, u.oneCell' = true := by
  intro u hu
  simp [icells] at hu
  rcases hu with rfl | rfl | rfl | rfl <;> rfl

theorem append_its (base : Nat) (ty : TypeId) (w : World) (v : Value) (l : List It) (hown : ItsOwn w base v l) (q : Option Addr) (c : Nat) (M : List It) (R : RowP w q 4 M.length (fun i => icells (itAt M i))) (hn : l.length + M.length ≤ 1000000) (hbase : base ≤ w.heap.size) :
    ∃ v' w', (Builtin.append_ #[46, 46] ty #[v, .slice q M.length c]).run Try.prog w = .ok v' w' ∧ ItsOwn w' base v' (l ++ M) ∧ w.grownBy w' v.ownBlock := by
  obtain ⟨i, hi, hz, hs, hby⟩ := info_parts itTab
  have ht := Try.underlying46
  by_cases h0 : M = []
  · subst h0
    refine ⟨v, w, ?_, by simpa using hown, ⟨rfl, rfl, rfl, Nat.le_refl _, fun _ _ _ => rfl⟩⟩
    rcases hown.2 with ⟨rfl, h0⟩ | ⟨g, cap, cur, rfl, hbg, hg, hnc, hcm, hcs, htake⟩
    · cases q <;> simp [Builtin.append_, run_underlying ht, sizeOf, typeInfo, hi, hs, Builtin.lenOf, Builtin.firstCells, loadCells, loadCellsFrom, storeCells]
    · cases q <;> simp [Builtin.append_, run_underlying ht, sizeOf, typeInfo, hi, hs, Builtin.lenOf, Builtin.firstCells, loadCells, loadCellsFrom, storeCells, hnc]
  · have hp : M.length ≠ 0 := fun h => h0 (List.eq_nil_of_length_eq_zero h)
    obtain ⟨b, o, rfl, r⟩ := R.row hp
    have hnews : ∀ j u, (flatI M)[j]? = some u → w.cell? ((⟨b, o, none⟩ : Addr).add j) = some u := by
      intro j u hu
      have hj : j < M.length * 4 := by
        have := (List.getElem?_eq_some_iff.1 hu).1
        rwa [flatI_length] at this
      have e : (⟨b, o, none⟩ : Addr).add j = ⟨b, o + j, none⟩ := by
        unfold Addr.add
        split
        · subst j; rfl
        · rfl
      rw [flatI_at M j hj] at hu
      have := r.cell (j / 4) (by omega) (j % 4) u hu
      rw [e, show o + j = o + j / 4 * 4 + j % 4 by omega]
      exact this
    obtain ⟨v', w', hr, O, G, N⟩ := run_append_own (P := Try.prog) w base 46 ty 55 i (.agg #[.int .u64 0, .int .u64 0, .int .i64 0, .int .i64 0]) 4 32 ht hi hz hs hby rfl (by omega) v l.length (flatI l) hown ⟨b, o, none⟩ M.length c (flatI M) (flatI_length M) hnews (fun u hu => by
      unfold flatI at hu
      obtain ⟨x, -, hx⟩ := List.mem_flatMap.1 hu
      exact icells_one x u hx) (by unfold maxLen; omega) (by omega) hbase
    refine ⟨v', w', hr, ?_, G⟩
    unfold ItsOwn
    rw [List.length_append, flatI_append]
    exact O

theorem step_append_its {ops : Array Oper} {o : Oper} {a : Act} {K : Act → World → Prop} {Q : Exit → Act → World → Prop} {E : Prop} {w : World} (hgd : o.guard = none) (s x : Operand)
    (ho : o.op = .call { callee := .builtin .append, args := #[s, x], argTypes := #[46, 46] })
    (base : Nat) (v : Value) (l : List It) (hs : a.eval s = v) (hown : ItsOwn w base v l) (q : Option Addr) (m c : Nat) (M : List It) (hx : a.eval x = .slice q m c) (hm : M.length = m) (R : RowP w q 4 m (fun i => icells (itAt M i))) (hn : l.length + m ≤ 1000000) (hbase : base ≤ w.heap.size)
    (h : ∀ v' w', ItsOwn w' base v' (l ++ M) → w.grownBy w' v.ownBlock → K (a.put o.dst v') w') :
    if Region.wanted o (yielded ops a.tmps) = true then Oper.wp Try.prog o a w K Q else E := by
  have hw : Region.wanted o (yielded ops a.tmps) = true := by simp [Region.wanted, hgd]
  subst hm
  obtain ⟨v', w', hr, O, G⟩ := append_its base o.type w v l hown q c M R hn hbase
  rw [if_pos hw]
  unfold Oper.wp
  simp [execOp, ho, resolve, invoke, builtin, hs, hx, hr, Result.andThen]
  exact h v' w' O G
end Go.Proofs.Ytibjccfillhfpaa
