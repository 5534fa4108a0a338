/-
  slices.Replace of one cell by two or more where there is room.
-/
import Derived.Test.YtdepmoocjnmbeaaTilesRep
namespace Go.Proofs.Ytdepmoocjnmbeaa
open Go.RowKit
set_option linter.unusedVariables false
set_option linter.unusedSimpArgs false

theorem trow_sole {S : Nat → Prop} {w w' : World} {p : Option Addr} {sz n : Nat} {f : Nat → List Value} (h : RowP w p sz n f) (hs : Sole S w w') (hn : ∀ b o, p = some ⟨b, o, none⟩ → ¬ S b) : RowP w' p sz n f :=
  h.imp id fun ⟨b, o, e, r⟩ => ⟨b, o, e, Nat.lt_of_lt_of_le r.lt hs.size, fun i hi j v hv => (hs.cell r.lt (hn b o e)).trans (r.cell i hi j v hv)⟩
theorem below_heap {w w' : World} (h : Below w.heap.size w w') (k : Nat) (hk : k < w.heap.size) : w'.heap[k]? = w.heap[k]? := (Sole.made (S := fun _ => False) h).block k hk id
theorem own_row {w : World} {base g n c : Nat} {L : List Cl} (h : RowOwn clT w base (.slice (some ⟨g, 0, none⟩) n c) L) (hn : L.length = n) :
    ∃ cur, w.heap[g]? = some (.cells cur 32 (0, 0)) ∧ base ≤ g ∧ n ≤ c ∧ c ≤ maxLen ∧ cur.size = c * 3 ∧ cur.toList.take (n * 3) = flatR clT L := by
  rcases h.2 with ⟨e, _⟩ | ⟨g', cap, cur, e, hb, hg, h1, h2, h3, h4⟩
  · cases e
  · simp only [Value.slice.injEq, Option.some.injEq] at e
    obtain ⟨e1, e2, e3⟩ := e
    cases e1
    subst e3
    subst hn
    exact ⟨cur, hg, hb, h1, h2, h3, h4⟩
theorem copy_cl (W : World) (g o dLen dCap : Nat) (q : Option Addr) (b so : Nat) (hq : q = some ⟨b, so, none⟩) (sLen sCap : Nat) (cur : Array Value) (L : List Cl) (hs : L.length = sLen) (hsd : sLen ≤ dLen) (hg : W.heap[g]? = some (.cells cur 32 (0, 0))) (R : RowOf clT W q L) (hf : o + sLen * 3 ≤ cur.size) (ty : TypeId) :
    (Builtin.copy_ #[27, 27] ty #[.slice (some ⟨g, o, none⟩) dLen dCap, .slice q sLen sCap]).run Try.prog W = .ok (goInt sLen) (W.setRow g (segL cur.toList o (flatR clT L)).toArray) := by
  have hm : Nat.min sLen dLen = sLen := Nat.min_eq_left hsd
  have hl : (flatR clT L).length = sLen * 3 := by rw [flatR_length clOk, hs]; rfl
  rw [hq]
  have := run_copy_many W 27 27 ty 32 3 g o dLen dCap ⟨b, so, none⟩ sLen sCap cur 32 (flatR clT L) Try.underlying27 sizeOf_cl hg (by rw [hl, hm]) (src_row hq R) (by rw [hl]; exact hf) (one_flat L)
  rw [hm] at this
  exact this
theorem over_apart (W : World) (g o la ca : Nat) (cur : Array Value) (hg : W.heap[g]? = some (.cells cur 32 (0, 0))) (b so lb cb : Nat) (curb : Array Value) (tb : TypeId) (hb : W.heap[b]? = some (.cells curb tb (0, 0))) (hs : curb.size ≠ 0) (hne : g ≠ b) :
    (callFunc 37 #[.slice (some ⟨g, o, none⟩) la ca, .slice (some ⟨b, so, none⟩) lb cb]).run Try.prog W = .ok (.value (.bool false)) W := by
  rw [run_callFunc_extern Try.func37 (by kernel_rfl) (by kernel_rfl) (by kernel_rfl) (e := Extern.SlicesOverlaps.overlaps #[27, 27] #[4]) (by kernel_rfl),
    Lib.run_overlaps_apart W 27 4 32 Try.underlying27 3 sizeOf_cl ⟨g, o, none⟩ ⟨b, so, none⟩ la ca lb cb hne 32 tb cur.size curb.size (by simp [World.shape?, hg]) (by simp [World.shape?, hb]) hs (by simp [World.frozen?, hg]) (by simp [World.frozen?, hg])]
  rfl

set_option maxRecDepth 100000 in
set_option maxHeartbeats 8000000 in
theorem replace_more (g c : Nat) (gv cv n i m : Nat) (L K : List Cl) (hn : L.length = n) (hm : K.length = m) (base basev : Nat) (w : World) (hbase : base ≤ w.heap.size) (O : RowOwn clT w base (.slice (some ⟨g, 0, none⟩) n c) L) (OK : RowOwn clT w basev (.slice (some ⟨gv, 0, none⟩) m cv) K) (hgv : g ≠ gv)
    (hi : i + 1 < n) (hK : 2 ≤ m) (hb : n + m ≤ 1000) (hroom : n + m ≤ c + 1) :
    Calls Try.prog 23 #[.slice (some ⟨g, 0, none⟩) n c, .int .i64 i, .int .i64 ((i : Int) + 1), .slice (some ⟨gv, 0, none⟩) m cv] w fun e w' =>
      ∃ q d, e = .returned (.slice q (n - 1 + m) d) ∧ RowOwn clT w' base (.slice q (n - 1 + m) d) (L.take i ++ K ++ L.drop (i + 1)) ∧ Sole (fun k => k = g) w w' ∧ (∀ j, (Value.slice q (n - 1 + m) d).ownBlock = some j → j = g ∨ w.heap.size ≤ j) := by
  have hOh := hid O
  have hOKh := hid OK
  have hc63 : (c : Int) ≤ 9223372036854775807 := by obtain ⟨cur, _, _, _, h2, _⟩ := own_row O hn; unfold maxLen at h2; omega
  have h1 : ¬ (i : Int) = (i : Int) + 1 := by omega
  have h2 : ¬ (i : Int) + 1 = (n : Int) := by omega
  have hi1 : (i : Int) + 1 ≤ (n : Int) := by omega
  have hic : (i : Int) + 1 ≤ (c : Int) := by have := own_row O hn; obtain ⟨_, _, _, h, _⟩ := this; omega
  have hic0 : (i : Int) ≤ (c : Int) := by omega
  have hn1 : (n : Int) ≤ 1000 := by omega
  have hm1 : (m : Int) ≤ 1000 := by omega
  have hin : (i : Int) ≤ (n : Int) := by omega
  rw [show n - 1 + m = i + m + (n - (i + 1)) by omega]
  clear O OK
  go_enter Try.func23, Try.ntmps23
  go_wp2_with fail
  refine wp_region_late 12 (by kernel_rfl) (by kernel_rfl) ?_
  simp only [List.take_succ_cons, List.take_zero, List.drop_succ_cons, List.drop_zero]
  repeat (go_big_quiet_step (fail))
  refine wpQuiet_nil ?_
  intro w1 h1'
  have B1 := hid (late_out h1')
  have O1 := hid (hOh.out.more B1.out)
  have OK1 := hid (hOKh.out.more B1.out)
  clear h1' hOh hOKh
  obtain ⟨cur, hg, hbg, hnc, hcm, hcs, hct⟩ := own_row O1.out hn
  obtain ⟨curv, hgv', _, hmv, hcv, hcsv, _⟩ := own_row OK1.out hm
  have hov := fun o la ca => over_apart w1 g o la ca cur hg gv 0 m cv curv _ hgv' (by omega) hgv
  go_wp2_with (simp only [hov])
  refine wp_region_late 9 (by kernel_rfl) (by kernel_rfl) ?_
  simp only [List.take_succ_cons, List.take_zero, List.drop_succ_cons, List.drop_zero]
  repeat (go_big_quiet_step (fail))
  refine wpQuiet_nil ?_
  intro w2 h2'
  have B2 := hid (late_out h2')
  have O2 := hid (O1.out.more B2.out)
  have OK2 := hid (OK1.out.more B2.out)
  have hg2 := (below_heap B2.out g (Array.getElem?_eq_some_iff.1 hg).1).trans hg
  have hlB : (L.drop (i + 1)).length = n - (i + 1) := by rw [List.length_drop, hn]
  have RB : RowOf clT w2 (some ⟨g, (i + 1) * 3, none⟩) (L.drop (i + 1)) := by
    obtain ⟨p, cc, e, _, _, r⟩ := RowOwn.open clOk O2.out
    simp only [Value.slice.injEq] at e
    rw [← e.1] at r
    have := r.drop (i + 1)
    rwa [Nat.zero_add] at this
  have hcpB := fun dl (hdl : n - (i + 1) ≤ dl) dc sc ty => copy_cl w2 g ((i + m) * 3) dl dc (some ⟨g, (i + 1) * 3, none⟩) g ((i + 1) * 3) rfl (n - (i + 1)) sc cur (L.drop (i + 1)) hlB hdl hg2 RB (by omega) ty
  have hlc : cur.toList.length = c * 3 := by simpa using hcs
  obtain ⟨C1, hC1⟩ : ∃ C1, C1 = segL cur.toList ((i + m) * 3) (flatR clT (L.drop (i + 1))) := ⟨_, rfl⟩
  have hlF : (flatR clT (L.drop (i + 1))).length = (n - (i + 1)) * 3 := by rw [flatR_length clOk, hlB]; rfl
  have hC1l : C1.length = c * 3 := by rw [hC1, segL_length _ _ _ (by rw [hlF]; omega), hlc]
  obtain ⟨w3, hw3⟩ : ∃ w3, w3 = w2.setRow g C1.toArray := ⟨_, rfl⟩
  have S3 : Sole (fun k => k = g) w2 w3 := by rw [hw3]; exact sole_setRow _ _ _
  have hg3 : w3.heap[g]? = some (.cells C1.toArray 32 (0, 0)) := by rw [hw3]; exact setRow_heap _ _ _ _ _ _ hg2
  rw [← hC1, ← hw3] at hcpB
  have RK : RowOf clT w3 (some ⟨gv, 0, none⟩) K := by
    obtain ⟨p, cc, e, _, _, r⟩ := RowOwn.open clOk OK2.out
    simp only [Value.slice.injEq] at e
    rw [← e.1] at r
    exact trow_sole r S3 (fun b o e => by cases e; exact fun h => hgv h.symm)
  have hcpA := fun dl (hdl : m ≤ dl) dc ty => copy_cl w3 g (i * 3) dl dc (some ⟨gv, 0, none⟩) gv 0 rfl m cv C1.toArray K hm hdl hg3 RK (by simp [hC1l]; omega) ty
  have hlK : (flatR clT K).length = m * 3 := by rw [flatR_length clOk, hm]; rfl
  have hlA : (flatR clT (L.take i)).length = i * 3 := by rw [flatR_length clOk, List.length_take, hn, Nat.min_eq_left (by omega)]; rfl
  have E := hid (show RowOwn clT (w3.setRow g (segL C1 (i * 3) (flatR clT K)).toArray) base (.slice (some ⟨g, 0, none⟩) (i + m + (n - (i + 1))) c) (L.take i ++ K ++ L.drop (i + 1)) ∧ Sole (fun k => k = g) w (w3.setRow g (segL C1 (i * 3) (flatR clT K)).toArray) by
    refine ⟨setRow_own hg3 base c _ _ _ hbg (by simp [hn, hm]; omega) (by omega) hcm (by rw [segL_length _ _ _ (by rw [hlK, hC1l]; omega), hC1l]) ?_, (Sole.made B1.out).trans ((Sole.made B2.out).trans (S3.trans (sole_setRow _ _ _)))⟩
    have := seg_back (flatR clT (L.take i)) (flatR clT K) (flatR clT (L.drop (i + 1))) cur.toList (by
      rw [hlA]
      have h5 := congrArg (List.take (i * 3)) hct
      rw [List.take_take, Nat.min_eq_left (by omega)] at h5
      rw [h5]
      conv => lhs; rw [← List.take_append_drop i L, flatR_append]
      exact List.take_left' hlA) (by rw [hlA, hlK, hlF, hlc]; omega)
    rw [hlA, hlK, hlF] at this
    rw [hC1, flatR_append, flatR_append, ← this]
    rw [show i * 3 + m * 3 + (n - (i + 1)) * 3 = (i + m + (n - (i + 1))) * 3 by omega, show i * 3 + m * 3 = (i + m) * 3 by omega])
  replace hcpA := hid hcpA
  replace hcpB := hid hcpB
  clear hw3 hov S3 RK RB hg2 hg3 hlB hlF hC1 hC1l hct hcs hcsv hgv' hlK hlA hlc
  refine Lib.wpList_copy_run _ rfl _ _ _ _ rfl _ _ rfl rfl (hcpB.out _ (by omega) _ _ _) ?_
  go_wp2_with (refine Lib.wpList_copy_run _ rfl (.tmp 133) (.tmp 134) _ _ rfl _ _ rfl rfl (hcpA.out _ (by omega) _ _) ?_)
  go_ret
  exact ⟨some ⟨g, 0, none⟩, c, rfl, by first | exact E.out.1 | (rw [← List.append_assoc]; exact E.out.1), E.out.2, fun j e => by cases e; exact .inl rfl⟩
end Go.Proofs.Ytdepmoocjnmbeaa
