/-
  slices.Replace of one cell by some: copies of a row, and the function at any place of any row.
-/
import Derived.Test.YtdepmoocjnmbeaaTilesMet
import Derived.Laws.CopyRow
import Derived.Lib.Overlaps
import Derived.Lib.AppendZerosOnto
import Derived.Lib.SlBuf
import Derived.Deep.RegionLaw
namespace Go.Proofs.Ytdepmoocjnmbeaa
open Go.RowKit
set_option linter.unusedVariables false
set_option linter.unusedSimpArgs false

/-- A row with some of its cells put anew. -/
def segL (c : List Value) (o : Nat) (cs : List Value) : List Value := c.take o ++ cs ++ c.drop (o + cs.length)
theorem segL_length (c : List Value) (o : Nat) (cs : List Value) (h : o + cs.length ≤ c.length) : (segL c o cs).length = c.length := by
  simp [segL]; omega
theorem seg_back (A K B c : List Value) (hA : c.take A.length = A) (hf : A.length + K.length + B.length ≤ c.length) :
    (segL (segL c (A.length + K.length) B) A.length K).take (A.length + K.length + B.length) = A ++ K ++ B := by
  have h1 : (segL c (A.length + K.length) B).take A.length = A := by
    unfold segL
    rw [List.append_assoc, List.take_append_of_le_length (by simp; omega), List.take_take, Nat.min_eq_left (by omega), hA]
  have h2 : (segL c (A.length + K.length) B).drop (A.length + K.length) = B ++ c.drop (A.length + K.length + B.length) := by
    unfold segL
    rw [List.append_assoc]
    exact List.drop_left' (by simp; omega)
  have h3 : segL (segL c (A.length + K.length) B) A.length K = (A ++ K ++ B) ++ c.drop (A.length + K.length + B.length) := by
    show (segL c (A.length + K.length) B).take A.length ++ K ++ (segL c (A.length + K.length) B).drop (A.length + K.length) = _
    rw [h1, h2]
    simp
  rw [h3]
  exact List.take_left' (by simp; omega)
theorem seg_fore (A K B c : List Value) (hA : c.take A.length = A) (hf : A.length + K.length + B.length ≤ c.length) :
    (segL (segL c A.length K) (A.length + K.length) B).take (A.length + K.length + B.length) = A ++ K ++ B := by
  have h1 : (segL c A.length K).take (A.length + K.length) = A ++ K := by
    unfold segL
    rw [hA]
    exact List.take_left' (by simp)
  have h3 : segL (segL c A.length K) (A.length + K.length) B = (A ++ K ++ B) ++ (segL c A.length K).drop (A.length + K.length + B.length) := by
    show (segL c A.length K).take (A.length + K.length) ++ B ++ _ = _
    rw [h1]
  rw [h3]
  exact List.take_left' (by simp; omega)

theorem run_copy_many {P : Program} (w : World) (dT sT ty elem : TypeId) (z g o dLen dCap : Nat) (a : Addr) (sLen sCap : Nat) (cur : Array Value) (t : TypeId) (cs : List Value)
    (hu : P.underlying dT = some (.slice elem)) (hz : ∀ w, (Go.sizeOf elem).run P w = .ok z w)
    (hg : w.heap[g]? = some (.cells cur t (0, 0))) (hn : cs.length = Nat.min sLen dLen * z)
    (hsrc : ∀ j v, cs[j]? = some v → w.cell? (a.add j) = some v) (hfit : o + cs.length ≤ cur.size) (h1 : ∀ v ∈ cs, v.oneCell' = true) :
    (Builtin.copy_ #[dT, sT] ty #[.slice (some ⟨g, o, none⟩) dLen dCap, .slice (some a) sLen sCap]).run P w =
      .ok (goInt (Nat.min sLen dLen)) (w.setRow g (segL cur.toList o cs).toArray) := by
  have hl := run_loadCells_list (P := P) w a cs hsrc
  have hst := run_storeCells_at P g o t cs 0 cur w hg (by simpa using hfit) h1
  simp only [Nat.add_zero] at hst
  simp [Builtin.copy_, run_underlying hu, Builtin.lenOf, Builtin.firstCells, hz, ← hn, hl, hst, segL]
theorem sole_setRow (w : World) (g : Nat) (c : Array Value) : Sole (fun k => k = g) w (w.setRow g c) := ⟨rfl, rfl, rfl, by simp [World.setRow], fun k _ hk => setRow_other _ _ _ _ hk⟩

theorem setRow_own {w : World} {g : Nat} {cur : Array Value} (hg : w.heap[g]? = some (.cells cur 32 (0, 0))) (base c n : Nat) (L : List Cl) (X : List Value) (hb : base ≤ g) (hn : L.length = n) (h1 : n ≤ c) (h2 : c ≤ maxLen) (h3 : X.length = c * 3) (h4 : X.take (n * 3) = flatR clT L) :
    RowOwn clT (w.setRow g X.toArray) base (.slice (some ⟨g, 0, none⟩) n c) L := by
  unfold RowOwn
  rw [hn]
  refine ⟨by rw [flatR_length clOk, hn], .inr ⟨g, c, X.toArray, rfl, hb, setRow_heap _ _ _ _ _ _ hg, h1, h2, ?_, ?_⟩⟩
  · show _ = c * 3
    simpa using h3
  · show X.toArray.toList.take (n * 3) = _
    simpa using h4
theorem info_cell : ∃ i, Try.prog.info? 32 = some i ∧ i.zero = some (cl 0 0 0) ∧ i.size = 3 ∧ i.bytes = 16 := info_parts clOk.tab
theorem sizeOf_cl : ∀ w, (Go.sizeOf 32).run Try.prog w = .ok 3 w := Try.sizeOf32
theorem src_row {w : World} {q : Option Addr} {L : List Cl} {b o : Nat} (hq : q = some ⟨b, o, none⟩) (R : RowOf clT w q L) : ∀ j v, (flatR clT L)[j]? = some v → w.cell? ((⟨b, o, none⟩ : Addr).add j) = some v := by
  intro j v hj
  have hjl : j < L.length * 3 := by
    have := (List.getElem?_eq_some_iff.1 hj).1
    rwa [flatR_length clOk] at this
  have h0 : L.length ≠ 0 := by omega
  obtain ⟨b', o', e, r⟩ := RowP.row R h0
  rw [hq] at e
  cases e
  rw [flatR_at clOk L j hjl] at hj
  have h := r.cell (j / 3) (by omega) (j % 3) v hj
  rw [addr_plus, show o + j = o + j / 3 * 3 + j % 3 by omega]
  exact h
theorem one_flat (L : List Cl) : ∀ u ∈ flatR clT L, u.oneCell' = true := by
  intro u hu
  unfold flatR at hu
  obtain ⟨x, -, hx⟩ := List.mem_flatMap.1 hu
  exact clOk.one x u hx
theorem own_take {w : World} {base g n c : Nat} {L : List Cl} (h : RowOwn clT w base (.slice (some ⟨g, 0, none⟩) n c) L) (i : Nat) (hi : i ≤ L.length) : RowOwn clT w base (.slice (some ⟨g, 0, none⟩) i c) (L.take i) := by
  have hl : (L.take i).length = i := by rw [List.length_take]; omega
  rcases h.2 with ⟨e, _⟩ | ⟨g', cap, cur, e, hb, hg, h1, h2, h3, h4⟩
  · cases e
  · simp only [Value.slice.injEq, Option.some.injEq] at e
    obtain ⟨e1, e2, e3⟩ := e
    cases e1
    subst e3
    unfold RowOwn
    rw [hl]
    refine ⟨by rw [flatR_length clOk, hl], .inr ⟨g, c, cur, rfl, hb, hg, by omega, h2, h3, ?_⟩⟩
    have h5 : List.take (L.length * 3) cur.toList = flatR clT L := h4
    have := congrArg (List.take (i * 3)) h5
    rw [List.take_take, Nat.min_eq_left (show i * 3 ≤ L.length * 3 by omega)] at this
    show List.take (i * 3) cur.toList = _
    rw [this]
    conv => lhs; rw [← List.take_append_drop i L, flatR_append]
    exact List.take_left' (by rw [flatR_length clOk, hl]; rfl)

set_option maxRecDepth 100000 in
set_option maxHeartbeats 8000000 in
/-- The last one. -/
theorem replace_last (g c : Nat) (pv : Option Addr) (cv n i m : Nat) (L K : List Cl) (hn : L.length = n) (hm : K.length = m) (base : Nat) (w : World) (hbase : base ≤ w.heap.size) (O : RowOwn clT w base (.slice (some ⟨g, 0, none⟩) n c) L) (R : RowOf clT w pv K)
    (hi : i + 1 = n) (hK : 1 ≤ m) (hb : n + m ≤ 1000) :
    Calls Try.prog 23 #[.slice (some ⟨g, 0, none⟩) n c, .int .i64 i, .int .i64 ((i : Int) + 1), .slice pv m cv] w fun e w' =>
      ∃ q d, e = .returned (.slice q (i + m) d) ∧ RowOwn clT w' base (.slice q (i + m) d) (L.take i ++ K ++ L.drop (i + 1)) ∧ Sole (fun k => k = g) w w' ∧ (∀ j, (Value.slice q (i + m) d).ownBlock = some j → j = g ∨ w.heap.size ≤ j) := by
  have hl : (L.take i).length = i := by rw [List.length_take]; omega
  have hc1 : (n : Int) ≤ (c : Int) := by
    obtain ⟨p', c', e, h1, _, _⟩ := RowOwn.open clOk O
    simp only [Value.slice.injEq] at e
    omega
  have O1 := own_take O i (by omega)
  obtain ⟨v', w2, hr, O2, gr, mv⟩ := append_row clOk base 27 w (.slice (some ⟨g, 0, none⟩) i c) (L.take i) O1 pv cv K R (by rw [hl, hm]; show (i + m) * 16 ≤ _; omega) (by rw [hl, hm]; unfold maxLen; omega) hbase
  obtain ⟨q, d, hv, _, _, _⟩ := RowOwn.open clOk O2
  have hl2 : (L.take i ++ K).length = i + m := by rw [List.length_append, hl, hm]
  have hd : L.drop (i + 1) = [] := List.drop_eq_nil_of_le (by omega)
  rw [hl2] at hv
  subst hv
  rw [hd, List.append_nil]
  rw [hm] at hr
  have E := hid (show RowOwn clT w2 base (.slice q (i + m) d) (L.take i ++ K) ∧ Sole (fun k => k = g) w w2 ∧ (∀ j, (Value.slice q (i + m) d).ownBlock = some j → j = g ∨ w.heap.size ≤ j) from
    ⟨O2, Sole.grown gr fun k e => by cases e; rfl, fun j e => by
      rcases mv with h | h
      · rw [h] at e; cases e; exact .inl rfl
      · rw [h] at e; cases e; exact .inr (Nat.le_refl _)⟩)
  clear O R O1 O2 gr mv hl hl2 hd
  have e1 : ((i : Int) + 1) = (n : Int) := by omega
  have hlt : ¬ ((i + m : Nat) : Int) < (n : Int) := by omega
  have hlt' : ¬ (i : Int) + (m : Int) < (n : Int) := by omega
  have h0 : ¬ ((i : Int) = (n : Int)) := by omega
  have h1 : ¬ (i : Int) = (i : Int) + 1 := by omega
  have hn1 : (n : Int) ≤ 1000 := by omega
  have hic : (i : Int) ≤ (c : Int) := by omega
  have hin : (i : Int) ≤ (n : Int) := by omega
  rw [e1]
  go_enter Try.func23, Try.ntmps23
  go_wp2_with (at_builtin; refine Lib.wpList_append_run _ rfl _ _ _ _ rfl _ _ rfl rfl _ _ hr ?_)
  go_ret
  exact ⟨q, d, rfl, E.out⟩
end Go.Proofs.Ytdepmoocjnmbeaa
