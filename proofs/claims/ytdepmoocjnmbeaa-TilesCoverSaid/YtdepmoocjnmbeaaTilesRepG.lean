/-
  slices.Replace of one cell by some, not the last, where there is no room.
-/
import Derived.Test.YtdepmoocjnmbeaaTilesRepM
namespace Go.Proofs.Ytdepmoocjnmbeaa
open Go.RowKit
set_option linter.unusedVariables false
set_option linter.unusedSimpArgs false

set_option maxRecDepth 100000 in
set_option maxHeartbeats 8000000 in
theorem replace_grow (g c : Nat) (gv cv n i m : Nat) (L K : List Cl) (hn : L.length = n) (hm : K.length = m) (base basev : Nat) (w : World) (hbase : base ≤ w.heap.size) (O : RowOwn clT w base (.slice (some ⟨g, 0, none⟩) n c) L) (OK : RowOwn clT w basev (.slice (some ⟨gv, 0, none⟩) m cv) K) (hgv : g ≠ gv)
    (hi : i + 1 < n) (hK : 1 ≤ m) (hb : n + m ≤ 1000) (hroom : c + 1 < n + m) :
    Calls Try.prog 23 #[.slice (some ⟨g, 0, none⟩) n c, .int .i64 i, .int .i64 ((i : Int) + 1), .slice (some ⟨gv, 0, none⟩) m cv] w fun e w' =>
      ∃ q d, e = .returned (.slice q (n - 1 + m) d) ∧ RowOwn clT w' base (.slice q (n - 1 + m) d) (L.take i ++ K ++ L.drop (i + 1)) ∧ Sole (fun k => k = g) w w' ∧ (∀ j, (Value.slice q (n - 1 + m) d).ownBlock = some j → j = g ∨ w.heap.size ≤ j) := by
  have hOh := hid O
  have hOKh := hid OK
  have hc63 : (c : Int) ≤ 9223372036854775807 := by obtain ⟨cur, _, _, _, h2, _⟩ := own_row O hn; unfold maxLen at h2; omega
  have h1 : ¬ (i : Int) = (i : Int) + 1 := by omega
  have h2 : ¬ (i : Int) + 1 = (n : Int) := by omega
  have hi1 : (i : Int) + 1 ≤ (n : Int) := by omega
  have hic : (i : Int) + 1 ≤ (c : Int) := by have := own_row O hn; obtain ⟨_, _, _, h, _⟩ := this; omega
  have hic0 : (i : Int) ≤ (c : Int) := by omega
  have hn1 : (n : Int) ≤ 1000 := by omega
  have hm1 : (m : Int) ≤ 1000 := by omega
  have hin : (i : Int) ≤ (n : Int) := by omega
  rw [show n - 1 + m = i + m + (n - (i + 1)) by omega]
  have hci : ¬ c = i + 1 := by obtain ⟨_, _, _, h, _⟩ := own_row O hn; omega
  have hci0 : ¬ c = i := by obtain ⟨_, _, _, h, _⟩ := own_row O hn; omega
  clear O OK
  go_enter Try.func23, Try.ntmps23
  go_wp2_with fail
  refine wp_region_late 12 (by kernel_rfl) (by kernel_rfl) ?_
  simp only [List.take_succ_cons, List.take_zero, List.drop_succ_cons, List.drop_zero]
  repeat (go_big_quiet_step (fail))
  refine wpQuiet_nil ?_
  intro w1 h1'
  have B1 := hid (late_out h1')
  have O1 := hid (hOh.out.more B1.out)
  have OK1 := hid (hOKh.out.more B1.out)
  clear h1' hOh hOKh
  obtain ⟨cur, hg, hbg, _, hcm, hcs, hct⟩ := own_row O1.out hn
  have hlc : cur.toList.length = c * 3 := by simpa using hcs
  have hlB : (L.drop (i + 1)).length = n - (i + 1) := by rw [List.length_drop, hn]
  have hlF : (flatR clT (L.drop (i + 1))).length = (n - (i + 1)) * 3 := by rw [flatR_length clOk, hlB]; rfl
  have hlK : (flatR clT K).length = m * 3 := by rw [flatR_length clOk, hm]; rfl
  have hlA : (flatR clT (L.take i)).length = i * 3 := by rw [flatR_length clOk, List.length_take, hn, Nat.min_eq_left (by omega)]; rfl
  have RA : RowOf clT w1 (some ⟨g, 0, none⟩) L := by
    obtain ⟨p, cc, e, _, _, r⟩ := RowOwn.open clOk O1.out
    simp only [Value.slice.injEq] at e
    rw [← e.1] at r
    exact r
  have hold : (Builtin.firstCells 3 i (.slice (some ⟨g, 0, none⟩) i c)).run Try.prog w1.drew = .ok (flatR clT (L.take i)).toArray w1.drew := by
    have h := run_loadCells_list (P := Try.prog) w1.drew ⟨g, 0, none⟩ (flatR clT (L.take i)) (fun j v hj => src_row rfl ((RA.take i (by omega))) j v hj)
    rw [hlA] at h
    exact h
  obtain ⟨ti, hti, hz, hs, hby⟩ := info_cell
  have hk : ((i : Int) + (m : Int) + ((n - (i + 1) : Nat) : Int) - (i : Int)) = ((m + (n - (i + 1)) : Nat) : Int) := by omega
  have hr0 := Lib.run_append_grow_zeros w1 27 3 27 32 ti (cl 0 0 0) .i64 .i64 Try.underlying27 Try.underlying3 hti hz (some ⟨g, 0, none⟩) i c (flatR clT (L.take i)) (by rw [hs]; exact hold) (m + (n - (i + 1))) (by omega) (by rw [hs]; decide) (by omega) (by omega) (by rw [hby]; omega) (by rw [hby]; exact growslice_fits (by omega) (by omega))
  have hG1 := grownCap_ge w1 (i + (m + (n - (i + 1)))) c 32
  have hG2 := grownCap_le_maxLen w1 (i + (m + (n - (i + 1)))) c 32 (by unfold maxLen; omega)
  generalize grownCap w1 (i + (m + (n - (i + 1)))) c 32 = G at *
  obtain ⟨ROW, hROW⟩ : ∃ R : Array Value, R = (flatR clT (L.take i)).toArray ++ Builtin.zeroCells (cl 0 0 0).cells (m + (n - (i + 1))) ++ Builtin.zeroCells (cl 0 0 0).cells (G - (i + (m + (n - (i + 1))))) := ⟨_, rfl⟩
  rw [← hROW] at hr0
  have hRs : ROW.size = G * 3 := by rw [hROW]; simp [Builtin.zeroCells, hlA, Value.cells, cl]; omega
  have hRt : ROW.toList.take (i * 3) = flatR clT (L.take i) := by
    rw [hROW]
    simp only [Array.toList_append, List.append_assoc]
    exact List.take_left' hlA
  obtain ⟨W2, hW2⟩ : ∃ W, W = w1.drew.alloc (.cells ROW 32) := ⟨_, rfl⟩
  rw [← hW2] at hr0
  have hgN : W2.heap[w1.heap.size]? = some (.cells ROW 32 (0, 0)) := by rw [hW2]; exact heap_alloc_new w1.drew _
  have B2 : Below w1.heap.size w1 W2 := by rw [hW2]; exact ((Below.refl _ _).drew).alloc (Nat.le_refl _) _
  rw [show i + (m + (n - (i + 1))) = i + m + (n - (i + 1)) by omega] at hr0 hG1
  have hgw : g < w1.heap.size := (Array.getElem?_eq_some_iff.1 hg).1
  have hs0 : w.heap.size ≤ w1.heap.size := B1.out.size
  have RK : RowOf clT W2 (some ⟨gv, 0, none⟩) K := by
    obtain ⟨p, cc, e, _, _, r⟩ := RowOwn.open clOk OK1.out
    simp only [Value.slice.injEq] at e
    rw [← e.1] at r
    exact r.more B2
  obtain ⟨s, hsz⟩ : ∃ s, s = w1.heap.size := ⟨_, rfl⟩
  rw [← hsz] at hr0 hgN hgw
  have hr := hid (fun (z : Int) (hz : z = ((m + (n - (i + 1)) : Nat) : Int)) => hz ▸ hr0)
  have hgvs : gv < s := by rw [hsz]; exact (RowOwn.within OK1.out gv rfl).2
  have hcpA := hid (fun dl (hdl : m ≤ dl) dc ty => copy_cl W2 s (i * 3) dl dc (some ⟨gv, 0, none⟩) gv 0 rfl m cv ROW K hm hdl hgN RK (by omega) ty)
  obtain ⟨C1, hC1⟩ : ∃ C1, C1 = segL ROW.toList (i * 3) (flatR clT K) := ⟨_, rfl⟩
  have hRl : ROW.toList.length = G * 3 := by simpa using hRs
  have hC1l : C1.length = G * 3 := by rw [hC1, segL_length _ _ _ (by rw [hlK]; omega), hRl]
  obtain ⟨W3, hW3⟩ : ∃ w2, w2 = W2.setRow s C1.toArray := ⟨_, rfl⟩
  have S3 : Sole (fun k => k = s) W2 W3 := by rw [hW3]; exact sole_setRow _ _ _
  have hg3 : W3.heap[s]? = some (.cells C1.toArray 32 (0, 0)) := by rw [hW3]; exact setRow_heap _ _ _ _ _ _ hgN
  rw [← hC1, ← hW3] at hcpA
  have RL3 : RowOf clT W3 (some ⟨g, 0, none⟩) L := trow_sole (RowOf.more RA B2) S3 (fun b o e => by cases e; exact fun h => by omega)
  have RB3 := hid (show RowOf clT W3 (some ⟨g, (i + 1) * 3, none⟩) (L.drop (i + 1)) by
    have := RL3.drop (i + 1)
    rwa [Nat.zero_add] at this)
  have hfit := hid (And.intro hG1 (And.intro hG2 hbg))
  have hS13 : Below w1.heap.size w1 W3 := B2.trans (S3.below (B := w1.heap.size) B2.size fun k e => by omega)
  have hC := hid (And.intro hC1 hRt)
  have hGi : ¬ G = i := by omega
  have hGm : ¬ G = i + m := by omega
  have hGc : (i : Int) + (m : Int) + ((n - (i + 1) : Nat) : Int) ≤ (G : Int) := by omega
  have hG63 : (G : Int) ≤ 9223372036854775807 := by unfold maxLen at hG2; omega
  replace hRl := hid hRl
  replace hS13 := hid hS13
  replace hsz := hid hsz
  clear hW2 hW3 hROW hr0 RK RA RL3 hC1 hRt hG1 hG2 hg hct hcs hcm hlc hold hti hz hs hby hRs S3 B2 hgN
  go_wp2_with (first
    | (at_builtin; refine Lib.wpList_append_run _ rfl _ _ _ _ rfl _ _ rfl rfl _ _ (hr.out _ (by omega)) ?_)
    | (refine Lib.wpList_copy_run _ rfl (.tmp 70) (.tmp 71) _ _ rfl _ _ rfl rfl (hcpA.out _ (by omega) _ _) ?_))
  simp only [Act.put, Option.bind_some, List.setIfInBounds_toArray, List.set_cons_zero, List.set_cons_succ]
  refine wp_region_late 9 (by kernel_rfl) (by kernel_rfl) ?_
  simp only [List.take_succ_cons, List.take_zero, List.drop_succ_cons, List.drop_zero]
  repeat (go_big_quiet_step (fail))
  refine wpQuiet_nil ?_
  intro w4 h4'
  have B4 := hid (late_out h4')
  have hg4 := (below_heap B4.out s (Array.getElem?_eq_some_iff.1 hg3).1).trans hg3
  have RB4 := RB3.out.more B4.out
  have hcpB := hid (fun dl (hdl : n - (i + 1) ≤ dl) dc sc ty => copy_cl w4 s ((i + m) * 3) dl dc (some ⟨g, (i + 1) * 3, none⟩) g ((i + 1) * 3) rfl (n - (i + 1)) sc C1.toArray (L.drop (i + 1)) hlB hdl hg4 RB4 (by have := hfit.out.1; simp [hC1l]; omega) ty)
  have E := hid (show RowOwn clT (w4.setRow s (segL C1 ((i + m) * 3) (flatR clT (L.drop (i + 1)))).toArray) base (.slice (some ⟨s, 0, none⟩) (i + m + (n - (i + 1))) G) (L.take i ++ K ++ L.drop (i + 1)) ∧ Sole (fun k => k = g) w (w4.setRow s (segL C1 ((i + m) * 3) (flatR clT (L.drop (i + 1)))).toArray) by
    have hf1 := hfit.out.1
    refine ⟨setRow_own hg4 base G _ _ _ (by have := hfit.out.2.2; omega) (by simp [hn, hm]; omega) hf1 hfit.out.2.1 (by rw [segL_length _ _ _ (by rw [hlF, hC1l]; omega), hC1l]) ?_, ?_⟩
    · have := seg_fore (flatR clT (L.take i)) (flatR clT K) (flatR clT (L.drop (i + 1))) ROW.toList (by rw [hlA]; exact hC.out.2) (by rw [hlA, hlK, hlF, hRl.out]; omega)
      rw [hlA, hlK, hlF] at this
      rw [hC.out.1, flatR_append, flatR_append, ← this]
      rw [show i * 3 + m * 3 + (n - (i + 1)) * 3 = (i + m + (n - (i + 1))) * 3 by omega, show i * 3 + m * 3 = (i + m) * 3 by omega]
    · refine (Sole.made B1.out).trans' ((Sole.made hS13.out).trans' ((Sole.made B4.out).trans' (sole_setRow _ _ _) (fun k hk e => e)) (fun k hk e => e)) (fun k hk e => ?_)
      have := hsz.out
      have := B1.out.size
      omega)
  clear RB4 hg4 hg3 hlB hlF hC1l hlK h4' hlA
  go_wp2_with (refine Lib.wpList_copy_run _ rfl (.tmp 78) (.tmp 81) _ _ rfl _ _ rfl rfl (hcpB.out _ (by omega) _ _ _) ?_)
  go_ret
  exact ⟨some ⟨s, 0, none⟩, G, rfl, by first | exact E.out.1 | (rw [← List.append_assoc]; exact E.out.1), E.out.2, fun j e => by cases e; exact .inr (show w.heap.size ≤ s by have := hsz.out; have := B1.out.size; omega)⟩
end Go.Proofs.Ytdepmoocjnmbeaa
