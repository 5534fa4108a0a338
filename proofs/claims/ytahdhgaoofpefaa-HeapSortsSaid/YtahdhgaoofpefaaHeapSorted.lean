/-
  package heap: Sorted.
-/
import Derived.Test.YtahdhgaoofpefaaHeapPush
import Derived.Test.YtahdhgaoofpefaaHeapPop
import Derived.OwnWalk
import Derived.Laws.OwnMore
namespace Go.Proofs.Ytahdhgaoofpefaa
open Go.RowKit
set_option linter.unusedVariables false
set_option linter.unusedSimpArgs false

def itsL (f : Nat → It) (k : Nat) : List It := (List.range k).map f
theorem itsL_len (f : Nat → It) (k : Nat) : (itsL f k).length = k := by simp [itsL]
theorem itsL_succ (f : Nat → It) (k : Nat) : itsL f (k + 1) = itsL f k ++ [f k] := by simp [itsL, List.range_succ]

theorem zero_items (n : Nat) : (madeCells (Value.agg #[.int .u64 0, .int .u64 0, .int .i64 0, .int .i64 0]).cells (n * 4)).toList = flatI (List.replicate n zIt) := by
  apply List.ext_getElem?
  intro t
  by_cases h : t < n * 4
  · have e : t = t / 4 * 4 + t % 4 := by omega
    have hi : t / 4 < (List.replicate n zIt).length := by rw [List.length_replicate]; omega
    have hr : (List.replicate n zIt)[t / 4] = zIt := by rw [List.getElem_replicate]
    have hz : ∃ v, (icells zIt)[t % 4]? = some v := by
      have : t % 4 < (icells zIt).length := by show t % 4 < 4; omega
      exact ⟨_, List.getElem?_eq_getElem this⟩
    obtain ⟨v, hv⟩ := hz
    have hf := flatI_get (List.replicate n zIt) (t / 4) (t % 4) hi v (by rw [hr]; exact hv)
    rw [← e] at hf
    rw [hf, Array.getElem?_toList]
    unfold madeCells
    rw [Array.getElem?_map, Array.getElem?_range, if_pos h]
    have h4 : t % 4 = 0 ∨ t % 4 = 1 ∨ t % 4 = 2 ∨ t % 4 = 3 := by omega
    rcases h4 with h4 | h4 | h4 | h4 <;> rw [h4] at hv <;> simp [icells, zIt] at hv <;> subst hv <;> simp [Value.cells, h4]
  · rw [List.getElem?_eq_none (by simp [size_madeCells]; omega), List.getElem?_eq_none (by rw [flatI_length, List.length_replicate]; omega)]

theorem pair_snoc {D L L' : List It} {x : It} (h1 : D.Pairwise leI) (h2 : ∀ a ∈ D, ∀ b ∈ L, leI a b) (hx : x ∈ L) : (D ++ [x]).Pairwise leI := by
  rw [List.pairwise_append]
  refine ⟨h1, List.pairwise_singleton _ _, fun a ha b hb => ?_⟩
  simp at hb
  subst hb
  exact h2 a ha _ hx

set_option maxRecDepth 100000 in
set_option maxHeartbeats 8000000 in
theorem sorted_any (p : Option Addr) (n cap : Nat) (f : Nat → It) (h1 : n ≤ cap) (h2 : cap ≤ maxLen) (hn : n ≤ 60) (w : World) (HA : RowP w p 4 n (fun i => icells (f i))) :
    Calls Try.prog 23 #[.slice p n cap] w fun e w' => ∃ v S, e = .returned v ∧ ItsOwn w' w.heap.size v S ∧ S.Perm (itsL f n) ∧ S.Pairwise leI ∧ Below w.heap.size w w' := by
  obtain ⟨i0, hi, hz0, hz1, hz2⟩ := info_parts itTab
  have HAh := hid HA
  have hnn : (n : Int) ≤ 60 := by omega
  have H0 := hid (heapS_new w w.heap.size)
  have hb0 : Hid (Below w.heap.size w (w.alloc (.cells #[.slice none 0 0] 46))) := hid ((Below.refl _ _).alloc (Nat.le_refl _) _)
  clear HA h1 h2
  go_enter Try.func23, Try.ntmps23
  go_wp2_with fail
  generalize w.alloc (.cells #[.slice none 0 0] 46) = W0 at *
  go_loopw [10] (fun s wr => ∃ (k : Nat) (v : Value) (L : List It), k ≤ n ∧ s = .int .i64 (k : Int) ∧ HeapS wr w.heap.size w.heap.size v L ∧ L.Perm (itsL f k) ∧ HeapOk L ∧ Below w.heap.size w wr) (fun s _ => n - (intOf s).toNat)
  case atStart => exact ⟨0, _, [], by omega, rfl, H0.out, List.Perm.refl _, heapOk_nil, hb0.out⟩
  case round =>
    obtain ⟨k, v, L, hk, rfl, H1, P1, ok1, Hb1⟩ := hrel
    clear H0 hb0
    have H1h := hid H1
    have P1h := hid P1
    have ok1h := hid ok1
    have Hb1h := hid Hb1
    by_cases hlt : k < n
    · have hlt1 : (k : Int) < (n : Int) := by omega
      obtain ⟨b, o, rfl, R0⟩ := HAh.out.row (by omega)
      have R := R0.more Hb1
      have z0 := R.at0 hlt (v := .int .u64 (f k).h) rfl
      have z1 := R.at1 hlt (v := .int .u64 (f k).l) rfl
      have z2 := R.at2 hlt (v := .int .i64 (f k).o) rfl
      have z3 := R.at3 hlt (v := .int .i64 (f k).i) rfl
      have hs := itsL_succ f k
      have hlL : L.length = k := by rw [P1.length_eq, itsL_len]
      have hstep := hid (fun (M : List It) (hM : M.Perm (L ++ [f k])) => show M.Perm (itsL f (k + 1)) by rw [hs]; exact hM.trans (P1h.out.append_right _))
      have KP := hid (fun w' hB H => push_any w.heap.size w.heap.size v L (f k) ok1h.out (by omega) w' hB H)
      unfold itval at KP
      have hba : Below wr.heap.size wr (wr.alloc (.cells #[.int .u64 (f k).h, .int .u64 (f k).l, .int .i64 (f k).o, .int .i64 (f k).i] 52)) := (Below.refl _ _).alloc (Nat.le_refl _) _
      have H2 := hid (H1.more hba)
      have Hb2 := hid (Hb1.trans (hba.mono Hb1.size))
      clear R R0 H1 P1 ok1 Hb1 hba H1h P1h ok1h hs
      go_wp2_with fail
      refine (KP.out _ (Hb2.out.size) H2.out).mono ?_
      rintro e w3 ⟨rfl, v3, L3, hl3, ok3, P3, H3, -, S3⟩
      have H3h := hid H3
      have ok3h := hid ok3
      have P3h := hid (hstep.out L3 P3)
      have Hb3 := hid (Hb2.out.trans (H2.out.frame Hb2.out.size (Nat.le_refl _) (Nat.le_refl _) S3))
      clear KP H2 Hb2 H3 ok3 P3 S3 hl3 Hb1h z0 z1 z2 z3
      go_wp2_with fail
      go_roundw
      case rel => exact ⟨k + 1, v3, L3, by omega, by go_num, H3h.out, P3h.out, ok3h.out, Hb3.out⟩
      case measure => simp [intOf]; omega
    · obtain rfl : k = n := by omega
      have hlL : L.length = k := by rw [P1.length_eq, itsL_len]
      have hgl := hid (fun q hq => (H1.own.lt q hq).2)
      clear H1 P1 ok1 Hb1
      go_wp2_with (at_make; refine wpList_make_full _ rfl _ _ 42 rfl w.heap.size 52 i0 (.agg #[.int .u64 0, .int .u64 0, .int .i64 0, .int .i64 0]) 4 Try.underlying42 hi hz0 hz1 _ _ _ _ k rfl rfl rfl rfl (by rw [hz2]; omega) (by unfold maxLen; omega) Hb1h.out.size ?_)
      intro w4 hown4 hgrow4
      have O4 : ItsOwn w4 w.heap.size (.slice (some ⟨wr.heap.size, 0, none⟩) k k) (List.replicate k zIt) := by
        unfold ItsOwn
        rw [List.length_replicate, ← zero_items]
        exact hown4
      have S4 : Sole (fun _ => False) wr w4 := Sole.grown hgrow4 (fun q hq => by simp at hq)
      have H4 := hid (H1h.out.sole S4 (fun x => x) (fun _ _ x => x))
      have Hb4 := hid (Hb1h.out.trans (S4.below Hb1h.out.size (fun q hq => hq.elim)))
      have O4h := hid O4
      obtain ⟨g2, hg2⟩ : ∃ g2, wr.heap.size = g2 := ⟨_, rfl⟩
      rw [hg2] at O4h
      have hne2 := hid (fun q hq => show q ≠ g2 by have := hgl.out q hq; omega)
      have hgw : Hid (w.heap.size < g2) := hid (by have := H1h.out.box.lt; omega)
      rw [hg2]
      clear O4 S4 hown4 hgrow4 H1h Hb1h hgl hi hz0 hz1 hz2
      clear hg2
      go_wp2_with fail
      go_loopw [22] (fun s wx => ∃ (j : Nat) (v : Value) (L D : List It), j ≤ k ∧ s = .int .i64 (j : Int) ∧ HeapS wx w.heap.size w.heap.size v L ∧ HeapOk L ∧ L.length + j = k ∧ ItsOwn wx w.heap.size (.slice (some ⟨g2, 0, none⟩) k k) D ∧ D.length = k ∧ (D.take j ++ L).Perm (itsL f k) ∧ (D.take j).Pairwise leI ∧ (∀ a ∈ D.take j, ∀ b ∈ L, leI a b) ∧ (∀ q, v.ownBlock = some q → q ≠ g2) ∧ Below w.heap.size w wx) (fun s _ => k - (intOf s).toNat)
      case atStart => exact ⟨0, v, L, List.replicate k zIt, by omega, rfl, H4.out, ok1h.out, by omega, O4h.out, by simp, by simpa using P1h.out, by simp, by simp, hne2.out, Hb4.out⟩
      case round =>
        obtain ⟨j, v, L, D, hj, rfl, H5, ok5, hl5, O5, hD5, P5, W5, Q5, ne5, Hb5⟩ := hrel
        clear H4 O4h hne2 Hb4 P1h ok1h hlL
        have H5h := hid H5
        have O5h := hid O5
        have P5h := hid P5
        have W5h := hid W5
        have Q5h := hid Q5
        have ne5h := hid ne5
        have Hb5h := hid Hb5
        by_cases hjl : j < k
        · have hjl1 : (j : Int) < (k : Int) := by omega
          have hj0 : (0 : Int) ≤ (j : Int) := by omega
          have KP := hid (fun w' H => pop_any w.heap.size w.heap.size v L ok5 (by omega) (by omega) w' H)
          have hmin := hid (fun b (hb : b ∈ L) => show leI (itAt L 0) b by
            obtain ⟨i, hi, e⟩ := itAt_of_mem L b hb
            rw [← e]; exact heap_min ok5 i i (Nat.le_refl _) hi)
          have hmem := hid (itAt_mem L 0 (by omega))
          unfold itval at KP
          clear H5 O5 P5 W5 Q5 ne5 Hb5 ok5
          generalize itAt L 0 = x at *
          obtain ⟨xh, xl, xo, xi⟩ := x
          simp only at KP
          go_wp2_with fail
          refine (KP.out _ H5h.out).mono ?_
          rintro e w6 ⟨rfl, v6, L6, hl6, ok6, P6, H6, hv6, S6⟩
          have O6 := O5h.out.sole S6 (fun q hq e => by
            simp [Value.ownBlock] at hq
            subst hq
            rcases e with e | e
            · have := hgw.out; omega
            · exact ne5h.out _ e rfl)
          have Hb6 := Hb5h.out.trans (H5h.out.frame Hb5h.out.size (Nat.le_refl _) (Nat.le_refl _) S6)
          obtain ⟨g', c', e', _, hgl6, _, _, R6, fz6⟩ := O6.blk (by omega)
          rw [hD5] at e' R6
          cases e'
          have y0 := R6.at0 hjl (v := .int .u64 (itAt D j).h) rfl
          have y1 := R6.at1 hjl (v := .int .u64 (itAt D j).l) rfl
          have y2 := R6.at2 hjl (v := .int .i64 (itAt D j).o) rfl
          have y3 := R6.at3 hjl (v := .int .i64 (itAt D j).i) rfl
          simp only [Nat.zero_add] at y0 y1 y2 y3
          have hgneq : (w.heap.size : Nat) ≠ g2 := by have := hgw.out; omega
          have sx : ∀ (W : World) (o : Nat) (u : Value), HeapS W w.heap.size w.heap.size v6 L6 → HeapS (W.setCell ⟨g2, o, none⟩ u) w.heap.size w.heap.size v6 L6 := fun W o u H => H.sole (Sole.setCell (S := fun q => q = g2) W u rfl) hgneq (fun q hq e => ne5h.out q (by rw [← hv6]; exact hq) e)
          have bx : ∀ (W : World) (o : Nat) (u : Value), Below w.heap.size w W → Below w.heap.size w (W.setCell ⟨g2, o, none⟩ u) := fun W o u H => Below.setCell H (by have := hgw.out; simp; omega) u
          have O7 := hid (O6.put hD5 j (by omega) ⟨xh, xl, xo, xi⟩)
          have H7 := hid (sx _ (j * 4 + 3) (.int .i64 xi) (sx _ (j * 4 + 2) (.int .i64 xo) (sx _ (j * 4 + 1) (.int .u64 xl) (sx _ (j * 4) (.int .u64 xh) H6))))
          have B7 := hid (bx _ (j * 4 + 3) (.int .i64 xi) (bx _ (j * 4 + 2) (.int .i64 xo) (bx _ (j * 4 + 1) (.int .u64 xl) (bx _ (j * 4) (.int .u64 xh) Hb6))))
          have htk : (D.set j ⟨xh, xl, xo, xi⟩).take (j + 1) = D.take j ++ [⟨xh, xl, xo, xi⟩] := by
            rw [List.take_add_one, List.take_set, List.set_eq_of_length_le (by rw [List.length_take]; omega), List.getElem?_set_self (by omega)]
            rfl
          have hT := hid htk
          have h6 := hid (And.intro ok6 (And.intro P6 (And.intro hl6 hv6)))
          clear KP O6 Hb6 H6 S6 R6 sx bx htk ok6 P6 hl6 hv6
          go_wp2_with fail
          go_roundw
          case rel =>
            obtain ⟨ok6, P6, hl6, hv6⟩ := h6.out
            refine ⟨j + 1, v6, L6, D.set j ⟨xh, xl, xo, xi⟩, by omega, by go_num, H7.out, ok6, by omega, O7.out, by rw [List.length_set]; exact hD5, ?_, ?_, ?_, fun q hq => ne5h.out q (by rw [← hv6]; exact hq), B7.out⟩
            · rw [hT.out, List.append_assoc]
              exact (List.Perm.append_left _ P6).trans P5h.out
            · rw [hT.out]
              exact pair_snoc (L' := L) W5h.out Q5h.out hmem.out
            · rw [hT.out]
              intro a ha b hb
              have hbL : b ∈ L := P6.mem_iff.1 (List.mem_cons_of_mem _ hb)
              rcases List.mem_append.1 ha with ha | ha
              · exact Q5h.out a ha b hbL
              · simp at ha
                subst ha
                exact hmin.out b hbL
          case measure => simp [intOf]; omega
        · obtain rfl : j = k := by omega
          clear H5 O5 P5 W5 Q5 ne5 Hb5
          go_wp2_with fail
          go_ret
          have hL0 : L = [] := List.eq_nil_of_length_eq_zero (by omega)
          have hP := P5h.out
          have hW := W5h.out
          rw [List.take_of_length_le (by omega)] at hP hW
          rw [hL0, List.append_nil] at hP
          exact ⟨_, D, rfl, O5h.out, hP, hW, Hb5h.out⟩
end Go.Proofs.Ytahdhgaoofpefaa
