/-
  slices.Replace of one cell by one, not the last.
-/
import Derived.Test.YtdepmoocjnmbeaaTilesRepM
namespace Go.Proofs.Ytdepmoocjnmbeaa
open Go.RowKit
set_option linter.unusedVariables false
set_option linter.unusedSimpArgs false

theorem clear_none (W : World) (p : Option Addr) (c : Nat) (ty : TypeId) : (Builtin.clear_ #[27] ty #[.slice p 0 c]).run Try.prog W = .ok (.tuple #[]) W := by
  cases p <;> simp [Builtin.clear_, run_underlying (Try.underlying27)]
set_option maxRecDepth 100000 in
set_option maxHeartbeats 8000000 in
theorem replace_same (g c : Nat) (gv cv n i : Nat) (L K : List Cl) (hn : L.length = n) (hm : K.length = 1) (base basev : Nat) (w : World) (hbase : base ≤ w.heap.size) (O : RowOwn clT w base (.slice (some ⟨g, 0, none⟩) n c) L) (OK : RowOwn clT w basev (.slice (some ⟨gv, 0, none⟩) 1 cv) K) (hgv : g ≠ gv)
    (hi : i + 1 < n) (hb : n ≤ 1000) :
    Calls Try.prog 23 #[.slice (some ⟨g, 0, none⟩) n c, .int .i64 i, .int .i64 ((i : Int) + 1), .slice (some ⟨gv, 0, none⟩) 1 cv] w fun e w' =>
      ∃ q d, e = .returned (.slice q (n) d) ∧ RowOwn clT w' base (.slice q (n) d) (L.take i ++ K ++ L.drop (i + 1)) ∧ Sole (fun k => k = g) w w' ∧ (∀ j, (Value.slice q (n) d).ownBlock = some j → j = g ∨ w.heap.size ≤ j) := by
  have hOh := hid O
  have hOKh := hid OK
  have hc63 : (c : Int) ≤ 9223372036854775807 := by obtain ⟨cur, _, _, _, h2, _⟩ := own_row O hn; unfold maxLen at h2; omega
  have h1 : ¬ (i : Int) = (i : Int) + 1 := by omega
  have h2 : ¬ (i : Int) + 1 = (n : Int) := by omega
  have hi1 : (i : Int) + 1 ≤ (n : Int) := by omega
  have hic : (i : Int) + 1 ≤ (c : Int) := by have := own_row O hn; obtain ⟨_, _, _, h, _⟩ := this; omega
  have hic0 : (i : Int) ≤ (c : Int) := by omega
  have hn1 : (n : Int) ≤ 1000 := by omega
  have hin : (i : Int) ≤ (n : Int) := by omega
  have hci : ¬ c = i + 1 := by obtain ⟨_, _, _, h, _⟩ := own_row O hn; omega
  have hci0 : ¬ c = i := by obtain ⟨_, _, _, h, _⟩ := own_row O hn; omega
  have hnc : (n : Int) ≤ (c : Int) := by obtain ⟨_, _, _, h, _⟩ := own_row O hn; omega
  have htn : (i : Int) + 1 + ((n - (i + 1) : Nat) : Int) = (n : Int) := by omega
  clear O OK
  go_enter Try.func23, Try.ntmps23
  go_wp2_with fail
  refine wp_region_late 12 (by kernel_rfl) (by kernel_rfl) ?_
  simp only [List.take_succ_cons, List.take_zero, List.drop_succ_cons, List.drop_zero]
  repeat (go_big_quiet_step (fail))
  refine wpQuiet_nil ?_
  intro w1 h1'
  have B1 := hid (late_out h1')
  have O1 := hid (hOh.out.more B1.out)
  have OK1 := hid (hOKh.out.more B1.out)
  clear h1' hOh hOKh
  obtain ⟨cur, hg, hbg, _, hcm, hcs, hct⟩ := own_row O1.out hn
  have hlc : cur.toList.length = c * 3 := by simpa using hcs
  have hlB : (L.drop (i + 1)).length = n - (i + 1) := by rw [List.length_drop, hn]
  have hlF : (flatR clT (L.drop (i + 1))).length = (n - (i + 1)) * 3 := by rw [flatR_length clOk, hlB]; rfl
  have hlK : (flatR clT K).length = 1 * 3 := by rw [flatR_length clOk, hm]; rfl
  have hlA : (flatR clT (L.take i)).length = i * 3 := by rw [flatR_length clOk, List.length_take, hn, Nat.min_eq_left (by omega)]; rfl
  have hA3 : cur.toList.take (i * 3) = flatR clT (L.take i) := by
    have h5 := congrArg (List.take (i * 3)) hct
    rw [List.take_take, Nat.min_eq_left (by omega)] at h5
    rw [h5]
    conv => lhs; rw [← List.take_append_drop i L, flatR_append]
    exact List.take_left' hlA
  have hB3 : (cur.toList.take (n * 3)).drop ((i + 1) * 3) = flatR clT (L.drop (i + 1)) := by
    rw [hct]
    conv => lhs; rw [← List.take_append_drop (i + 1) L, flatR_append]
    exact List.drop_left' (by rw [flatR_length clOk, List.length_take, hn, Nat.min_eq_left (by omega)]; rfl)
  have RK : RowOf clT w1 (some ⟨gv, 0, none⟩) K := by
    obtain ⟨p, cc, e, _, _, r⟩ := RowOwn.open clOk OK1.out
    simp only [Value.slice.injEq] at e
    rw [← e.1] at r
    exact r
  have hcpA := fun dl (hdl : 1 ≤ dl) dc ty => copy_cl w1 g (i * 3) dl dc (some ⟨gv, 0, none⟩) gv 0 rfl 1 cv cur K hm hdl hg RK (by omega) ty
  obtain ⟨C1, hC1⟩ : ∃ C1, C1 = segL cur.toList (i * 3) (flatR clT K) := ⟨_, rfl⟩
  have hC1l : C1.length = c * 3 := by rw [hC1, segL_length _ _ _ (by rw [hlK]; omega), hlc]
  obtain ⟨w2, hw2⟩ : ∃ w2, w2 = w1.setRow g C1.toArray := ⟨_, rfl⟩
  have S2 : Sole (fun k => k = g) w1 w2 := by rw [hw2]; exact sole_setRow _ _ _
  have hg2 : w2.heap[g]? = some (.cells C1.toArray 32 (0, 0)) := by rw [hw2]; exact setRow_heap _ _ _ _ _ _ hg
  rw [← hC1, ← hw2] at hcpA
  have hLn : (L.take i ++ K ++ L.drop (i + 1)).length = n := by simp [hn, hm]; omega
  have hfl : flatR clT (L.take i ++ K ++ L.drop (i + 1)) = flatR clT (L.take i) ++ flatR clT K ++ flatR clT (L.drop (i + 1)) := by rw [flatR_append, flatR_append]
  have hC1t : C1.take (n * 3) = flatR clT (L.take i ++ K ++ L.drop (i + 1)) := by
    rw [hfl, hC1, ← hA3, ← hB3]
    unfold segL
    rw [hlK, List.take_append, List.take_of_length_le (by simp [hlK, hlc]; omega), List.length_append, hlK, List.length_take, hlc, Nat.min_eq_left (by omega)]
    congr 1
    rw [List.take_drop, show i * 3 + 1 * 3 = (i + 1) * 3 by omega]
    congr 2
    omega
  have O2 : RowOwn clT w2 base (.slice (some ⟨g, 0, none⟩) n c) (L.take i ++ K ++ L.drop (i + 1)) := by
    rw [hw2]
    exact setRow_own hg base c n _ _ hbg hLn (by omega) hcm hC1l hC1t
  have hcpA' := hid hcpA
  have hcl := hid (fun (W : World) (p : Option Addr) cc ty => clear_none W p cc ty)
  have hcs2 := hid (And.intro hbg (And.intro hcm hnc))
  clear hcpA hg hct hcs hA3 hB3 RK hlA hC1 hw2
  replace hC1t := hid hC1t
  replace hfl := hid hfl
  go_wp2_with (refine Lib.wpList_copy_run _ rfl (.tmp 95) (.tmp 96) _ _ rfl _ _ rfl rfl (hcpA'.out _ (by omega) _ _) ?_)
  simp only [Act.put, Option.bind_some, List.setIfInBounds_toArray, List.set_cons_zero, List.set_cons_succ]
  refine wp_region_late 9 (by kernel_rfl) (by kernel_rfl) ?_
  simp only [List.take_succ_cons, List.take_zero, List.drop_succ_cons, List.drop_zero]
  repeat (go_big_quiet_step (fail))
  refine wpQuiet_nil ?_
  intro w3 h3'
  have B3 := hid (late_out h3')
  have O3 := O2.more B3.out
  have hg3 := (below_heap B3.out g (Array.getElem?_eq_some_iff.1 hg2).1).trans hg2
  have RB : RowOf clT w3 (some ⟨g, (i + 1) * 3, none⟩) (L.drop (i + 1)) := by
    obtain ⟨p, cc, e, _, _, r⟩ := RowOwn.open clOk O3
    simp only [Value.slice.injEq] at e
    rw [← e.1] at r
    have := r.drop (i + 1)
    rw [Nat.zero_add] at this
    rwa [List.drop_left' (by simp [hn, hm]; omega)] at this
  have hcpB := hid (fun dl (hdl : n - (i + 1) ≤ dl) dc sc ty => copy_cl w3 g ((i + 1) * 3) dl dc (some ⟨g, (i + 1) * 3, none⟩) g ((i + 1) * 3) rfl (n - (i + 1)) sc C1.toArray (L.drop (i + 1)) hlB hdl hg3 RB (by simp [hC1l]; omega) ty)
  have E := hid (show RowOwn clT (w3.setRow g (segL C1 ((i + 1) * 3) (flatR clT (L.drop (i + 1)))).toArray) base (.slice (some ⟨g, 0, none⟩) n c) (L.take i ++ K ++ L.drop (i + 1)) ∧ Sole (fun k => k = g) w (w3.setRow g (segL C1 ((i + 1) * 3) (flatR clT (L.drop (i + 1)))).toArray) by
    refine ⟨setRow_own hg3 base c n _ _ hcs2.out.1 hLn (by omega) hcs2.out.2.1 (by rw [segL_length _ _ _ (by rw [hlF, hC1l]; omega), hC1l]) ?_, (Sole.made B1.out).trans (S2.trans ((Sole.made B3.out).trans (sole_setRow _ _ _)))⟩
    have h1 : C1.take ((i + 1) * 3) = flatR clT (L.take i ++ K) := by
      have h5 := congrArg (List.take ((i + 1) * 3)) hC1t.out
      rw [List.take_take, Nat.min_eq_left (by omega), flatR_append] at h5
      rw [h5]
      exact List.take_left' (by rw [flatR_length clOk]; simp [hn, hm]; rw [Nat.min_eq_left (by omega)]; rfl)
    unfold segL
    rw [h1, List.take_append_of_le_length (by rw [List.length_append, hlF, flatR_length clOk]; simp [hn, hm]; rw [Nat.min_eq_left (by omega)]; show n * 3 ≤ (i + 1) * 3 + _; omega), flatR_append (L.take i ++ K)]
    exact List.take_of_length_le (by rw [List.length_append, hlF, flatR_length clOk]; simp [hn, hm]; rw [Nat.min_eq_left (by omega)]; show (i + 1) * 3 + _ ≤ n * 3; omega))
  clear S2 RB hg2 hg3 hlB hlF hC1l hLn O2 O3 hcs2 hlK hlc h3' hC1t hfl
  by_cases hcn : c = n
  · subst hcn
    go_wp2_with (first
      | (refine Lib.wpList_copy_run _ rfl (.tmp 103) (.tmp 106) _ _ rfl _ _ rfl rfl (hcpB.out _ (by omega) _ _ _) ?_)
      | (simp only [hcl.out]))
    all_goals
      go_ret
      exact ⟨some ⟨g, 0, none⟩, c, rfl, by first | exact E.out.1 | (rw [← List.append_assoc]; exact E.out.1), E.out.2, fun j e => by cases e; exact .inl rfl⟩
  · go_wp2_with (first
      | (refine Lib.wpList_copy_run _ rfl (.tmp 103) (.tmp 106) _ _ rfl _ _ rfl rfl (hcpB.out _ (by omega) _ _ _) ?_)
      | (simp only [hcl.out]))
    all_goals
      go_ret
      exact ⟨some ⟨g, 0, none⟩, c, rfl, by first | exact E.out.1 | (rw [← List.append_assoc]; exact E.out.1), E.out.2, fun j e => by cases e; exact .inl rfl⟩
end Go.Proofs.Ytdepmoocjnmbeaa
