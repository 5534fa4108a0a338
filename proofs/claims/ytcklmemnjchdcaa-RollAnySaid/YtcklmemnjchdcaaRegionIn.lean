/-
  A region that draws its order, inside a fence (the wide one): its first operations are quiet in a class of worlds, the others go one by one behind them. Needed where a range over a function's loop body is called in such a region.
-/
import Derived.Test.YtcklmemnjchdcaaRegion
import Derived.OrdersIn
import Derived.TacticsIn
namespace Go.Proofs.Ytcklmemnjchdcaa
open Go.RowKit

section
variable {P : Program} {ops : Array Oper}

theorem Oper.wpIn_of_quiet_wide {fr : Nat} {C : World → Prop} {o : Oper} {a : Act} {K : Act → Prop} {K' : Act → World → Prop} {Q' : Exit → Act → World → Prop} {w : World} (hw : C w) (h : ∀ a w', C w' → K a → K' a w') (hh : o.quiet P a C K) : o.wpIn Fence.wide fr P a w K' Q' := by
  obtain ⟨v, h1, h2⟩ := hh
  have h3 := h1 w hw
  unfold Oper.quietAt at h3
  unfold Oper.wpIn
  refine ⟨fun _ _ => trivial, ?_⟩
  show o.uponIn Fence.wide fr P a K' Q' ((execOp a.eval o).run P w)
  generalize (execOp a.eval o).run P w = r at *
  cases r with
  | ok n w' =>
    cases n <;> simp only [Oper.quietUpon] at h3 <;> simp only [Oper.uponIn]
    case value u =>
      obtain ⟨e1, e2⟩ := h3
      rw [e1, e2]
      exact h _ _ hw h2
    case skip =>
      obtain ⟨e1, e2⟩ := h3
      rw [e1, ← e2]
      exact h _ _ hw h2
    case enter f args =>
      obtain ⟨e1, hc⟩ := h3
      rw [e1]
      refine ⟨fun hd => (by cases hd), callsIn_wide.2 (hc.mono fun e w'' ⟨he, hw''⟩ => by subst he; exact h _ _ hw'' h2)⟩
  | halt x w' => simp only [Oper.quietUpon] at h3

theorem wpAnyIn_of_seq {fr : Nat} {md : Region.Mode} {Q' : Exit → Act → World → Prop} : ∀ (l : List Oper) (k : Nat) (listed : Array Bool) (a : Act) (w : World), (∀ j, l[j]? = ops[k + j]?) →
    Region.seqB md ops l.length k listed = true → wpListIn Fence.wide fr P ops Q' l a w → wpAnyIn Fence.wide fr P md ops Q' l.length listed a w
  | [], _, _, _, _, _, hB, h => ⟨by simpa [Region.seqB] using hB, h⟩
  | o :: l, k, listed, a, w, hl, hB, h => by
    have h0 : ops[k]? = some o := by simpa using (hl 0).symm
    simp only [List.length_cons, Region.seqB, Bool.and_eq_true, decide_eq_true_eq] at hB
    refine ⟨fun h1 => (by rw [hB.1] at h1; cases h1), fun i hi => ?_⟩
    rw [hB.1] at hi
    have hik : i = k := by simpa using hi
    subst hik
    have hw : wpOpIn Fence.wide fr P ops Q' i (wpListIn Fence.wide fr P ops Q' l) a w := by unfold wpOpIn; simp only [h0]; exact h
    exact wpOpIn_mono (fun a' w' h' => wpAnyIn_of_seq l (i + 1) _ a' w' (fun j => by have := hl (j + 1); simpa [Nat.add_assoc, Nat.add_comm 1 j] using this) hB.2 h') hw

theorem wpIn_region_quiet_tail {id fr : Nat} {Q : Exit → Act → World → Prop} {a0 : Act} {w0 : World} {l : List Oper} {C : World → Prop} (n : Nat) (hm : P.follows .mixedOrders = true)
    (hB : quietTailB l.toArray n a0.tmps.size = true) (hC : C w0.drew)
    (h : wpQuiet P l.toArray C (fun a' => ∀ w', C w' → wpListIn Fence.wide fr P l.toArray Q (l.drop n) a' w') (l.take n) a0) : (Code.region id l.toArray true).wpIn Fence.wide fr P Q a0 w0 := by
  simp only [quietTailB, Bool.and_eq_true, decide_eq_true_eq] at hB
  obtain ⟨⟨⟨⟨⟨⟨hsel, hn⟩, hs⟩, hc⟩, hsole⟩, hseen⟩, hseq⟩ := hB
  have hn' : n < l.length := by simpa using hn
  have htl : (l.take n).length = n := by simp; omega
  obtain ⟨vs, hfin, htold⟩ := walk_told (ops := l.toArray) (l.take n) 0 a0 (fun i hi => by
    have hi' : i < n := by rw [htl] at hi; exact hi
    simp [hi']) h
  rw [htl] at hfin
  have hr0 : ∀ m, List.range' 0 m = List.range m := fun m => (List.range_eq_range' (n := m)).symm
  rw [hr0] at hfin
  -- what the walk's own frame holds, before operation j
  have lex : ∀ (j t : Nat), j ≤ n → (puts l.toArray vs (List.range j) a0).tmps[t]? = match writer l.toArray t with
      | some k => if k < j then some (vs k) else a0.tmps[t]?
      | none => a0.tmps[t]? := by
    intro j t hj
    cases hw : writer l.toArray t with
    | none =>
      refine (puts_get vs t _ _).1 fun i hi hd => ?_
      have hlt : i < l.toArray.size := by have := List.mem_range.1 hi; omega
      have hoi : l.toArray[i]? = some l.toArray[i] := Array.getElem?_eq_getElem hlt
      rw [hoi] at hd
      exact writer_none hw hoi hd
    | some k =>
      obtain ⟨o, ho, hd⟩ := writer_some hw
      have hsole' : ∀ i, i < l.toArray.size → (l.toArray[i]?).bind (·.dst) = some t → i = k := fun i hi hdi => by
        have hoi : l.toArray[i]? = some l.toArray[i] := Array.getElem?_eq_getElem hi
        rw [hoi] at hdi
        have := (sole_dst hsole hoi hdi).1
        rw [hw] at this
        exact (Option.some.inj this).symm
      by_cases hk : k < j
      · simp only [hk, if_true]
        exact (puts_get vs t _ _).2 k (fun i hi hdi => hsole' i (by have := List.mem_range.1 hi; omega) hdi) (List.mem_range.2 hk) (by rw [ho]; exact hd) (sole_dst hsole ho hd).2
      · simp only [hk, if_false]
        refine (puts_get vs t _ _).1 fun i hi hdi => hk ?_
        have h1 := List.mem_range.1 hi
        rw [← hsole' i (by omega) hdi]
        exact h1
  refine wpIn_region_any hm ?_
  have main : ∀ (fuel : Nat) (L : Array Bool) (a : Act) (w : World), Mid l.toArray a0 vs L a → HeadInv .any l.toArray n L → C w → L.toList.count false = fuel → wpAnyIn Fence.wide fr P .any l.toArray Q fuel L a w := by
    intro fuel
    induction fuel with
    | zero =>
      intro L a w mid inv hCw hcnt
      exfalso
      have h1 := inv.tail n (Nat.le_refl _) hn
      have hl : n < L.size := by rw [inv.size]; exact hn
      have : false ∈ L.toList := by
        have h2 : L[n] = false := by simpa [hl] using h1
        rw [← h2]; simp
      have := List.count_pos_iff.2 this
      omega
    | succ fuel ih =>
      intro L a w mid inv hCw hcnt
      by_cases hall : ∀ i, i < n → L.getD i false = true
      · -- all of the first are done: the others, one by one
        have hL : L = Array.ofFn fun i : Fin l.toArray.size => decide (i.val < n) := by
          apply Array.ext
          · simp [inv.size]
          · intro i h1 h2
            have hi : i < l.toArray.size := by rw [← inv.size]; exact h1
            simp only [Array.getElem_ofFn]
            by_cases hin : i < n
            · have := hall i hin
              simp [h1] at this
              simp [hin, this]
            · have := inv.tail i (by omega) hi
              simp [h1] at this
              simp [hin, this]
        have ha : a = puts l.toArray vs (List.range n) a0 := by
          have e1 : a.tmps = (puts l.toArray vs (List.range n) a0).tmps := by
            apply Array.ext_getElem?
            intro t
            rw [mid.slot t, lex n t (Nat.le_refl _)]
            cases hw : writer l.toArray t with
            | none => rfl
            | some k =>
              simp only []
              by_cases hk : k < n
              · rw [if_pos (hall k hk), if_pos hk]
              · rw [if_neg hk, if_neg]
                obtain ⟨o, ho, _⟩ := writer_some hw
                have := getD_both (inv.tail k (by omega) (Array.getElem?_eq_some_iff.1 ho).1)
                rw [this]; simp
          have e2 : a.defers = (puts l.toArray vs (List.range n) a0).defers := by rw [mid.defers]; exact (puts_defers vs _ _).symm
          cases a
          cases hp : puts l.toArray vs (List.range n) a0
          simp only [hp] at e1 e2
          subst e1 e2
          rfl
        have hcnt2 : fuel + 1 = (l.drop n).length := by
          rw [← hcnt, hL]
          simp only [Array.toList_ofFn, List.length_drop]
          have gen : ∀ (m n : Nat), ((List.ofFn fun i : Fin m => decide (i.val < n)).count false) = m - n := by
            intro m
            induction m with
            | zero => intro n; simp
            | succ m ihm =>
              intro n
              cases n with
              | zero =>
                have := ihm 0
                simp [List.ofFn_succ] at this ⊢
                omega
              | succ n =>
                have := ihm n
                simp [List.ofFn_succ] at this ⊢
                omega
          simpa using gen l.toArray.size n
        rw [hcnt2]
        refine wpAnyIn_of_seq (md := .any) (l.drop n) n L a w (fun j => by simp [List.getElem?_drop]) ?_ ?_
        · rw [hL]
          have e : (l.drop n).length = l.toArray.size - n := by simp
          rw [e]; exact hseq
        · rw [ha]; exact hfin w hCw
      · -- one of the first comes up
        have hex : ∃ i, i < n ∧ L.getD i true = false := by
          refine Classical.byContradiction fun hno => hall fun i hi => ?_
          cases hg : L.getD i true with
          | false => exact absurd ⟨i, hi, hg⟩ hno
          | true =>
            have hl : i < L.size := by rw [inv.size]; omega
            simp [hl] at hg ⊢
            exact hg
        obtain ⟨i0, hi0, hun0⟩ := hex
        have hready : ∀ j ∈ Region.ready .any l.toArray L, j < n := fun j hj => by
          rcases Nat.lt_or_ge j n with h | h
          · exact h
          · exact absurd hj (tail_waits hs hc hn inv _ i0 rfl hi0 hun0 j h)
        have hne : Region.ready .any l.toArray L ≠ [] := by
          -- the least that is not listed may come up
          intro hnil
          have hl : ∀ j, j < n → L.getD j false = true := by
            intro j
            induction j using Nat.strongRecOn with
            | _ j ihj =>
              intro hj
              cases hlj : L.getD j false with
              | true => rfl
              | false =>
                exfalso
                have hjo : j < l.toArray.size := by omega
                have hoj : l.toArray[j]? = some l.toArray[j] := Array.getElem?_eq_getElem hjo
                have : j ∈ Region.ready .any l.toArray L := mem_ready.2 ⟨getD_in (by rw [inv.size]; exact hjo) hlj, _, hoj, fun e he hb => by
                  have := seen_after hseen hoj hj he hb
                  exact ihj e.on this (by omega)⟩
                rw [hnil] at this
                cases this
          exact hall hl
        refine ⟨fun hr => absurd hr hne, fun j hj => ?_⟩
        have hjn := hready j hj
        obtain ⟨hun, o, ho, hpre⟩ := mem_ready.1 hj
        have hjs : j < L.size := by rw [inv.size]; omega
        -- what it looks at is as in the walk
        have same : ∀ t, t ∈ o.looksAt l.toArray → a.tmps[t]? = (puts l.toArray vs (List.range j) a0).tmps[t]? := by
          intro t ht
          rw [mid.slot t, lex j t (by omega)]
          cases hw : writer l.toArray t with
          | none => rfl
          | some k =>
            simp only []
            rcases seen hseen ho hjn ht hw with hk | ⟨hk, hwait⟩
            · obtain ⟨o', ho', _⟩ := writer_some hw
              have := getD_both (inv.tail k hk (Array.getElem?_eq_some_iff.1 ho').1)
              rw [if_neg (by rw [this]; simp), if_neg (by omega)]
            · obtain ⟨oj, hoj, e, he, hb, hon⟩ := Region.waitsFor_spec hwait
              have : oj = o := Option.some.inj (hoj.symm.trans ho)
              subst this
              have := hpre e he hb
              rw [hon] at this
              rw [if_pos this, if_pos hk]
        have hexec : execOp a.eval o = execOp (puts l.toArray vs (List.range j) a0).eval o := by
          refine execOp_congr o (fun cs b => Region.noSelect_spec hsel j o cs b ho) fun x hx => ?_
          cases x with
          | tmp t =>
            have := same t (List.mem_append_left _ (List.mem_filterMap.2 ⟨.tmp t, by simpa using hx, rfl⟩))
            simp only [Act.eval, Array.getD_eq_getD_getElem?, this]
          | _ => rfl
        have hwant : Region.wanted o (yielded l.toArray a.tmps) = Region.wanted o (yielded l.toArray (puts l.toArray vs (List.range j) a0).tmps) := by
          unfold Region.wanted
          cases hg : o.guard with
          | none => rfl
          | some gw =>
            obtain ⟨g, want⟩ := gw
            have hy : yielded l.toArray a.tmps g = yielded l.toArray (puts l.toArray vs (List.range j) a0).tmps g := by
              unfold yielded
              cases ht : (l.toArray[g]?).bind (·.dst) with
              | none => rfl
              | some t =>
                have := same t (List.mem_append_right _ (by simp only [hg, ht]; simp))
                simp only [Option.bind_some, this]
            simp only [hy]
        have told := htold j o (by rw [htl]; exact hjn) (by rw [Nat.zero_add]; exact ho)
        rw [Nat.zero_add, hr0] at told
        -- the frame behind it
        have mid' : Mid l.toArray a0 vs (L.setIfInBounds j true) (a.put o.dst (vs j)) := by
          refine ⟨by rw [put_defers]; exact mid.defers, by rw [put_size]; exact mid.size, fun t => ?_⟩
          rw [put_get]
          by_cases hd : o.dst = some t
          · obtain ⟨hw, ht⟩ := sole_dst hsole ho hd
            rw [if_pos ⟨hd, by rw [mid.size]; exact ht⟩, hw]
            simp [hjs]
          · rw [if_neg (fun h => hd h.1), mid.slot t]
            cases hw : writer l.toArray t with
            | none => rfl
            | some k =>
              have hkj : j ≠ k := by
                rintro rfl
                obtain ⟨o', ho', hd'⟩ := writer_some hw
                rw [ho] at ho'; cases ho'
                exact hd hd'
              simp only []
              rw [getD_set_ne false hkj]
        have hcnt' : (L.setIfInBounds j true).toList.count false = fuel := by
          have := count_set L.toList j (by simp [hjs] at hun ⊢; exact hun)
          simp only [Array.toList_setIfInBounds]
          omega
        have next : ∀ w', C w' → wpAnyIn Fence.wide fr P .any l.toArray Q fuel (L.setIfInBounds j true) (a.put o.dst (vs j)) w' := fun w' hw' => ih _ _ _ mid' (inv.set hj hjn) hw' hcnt'
        unfold wpOpIn
        simp only [ho]
        rcases told with ⟨hwt, hq⟩ | ⟨hwt, hu⟩
        · rw [if_pos (by rw [hwant]; exact hwt)]
          refine Oper.wpIn_of_quiet_wide (C := C) (K := fun a' => a' = a.put o.dst (vs j)) hCw (fun a' w' hw' e => e ▸ next w' hw') ⟨vs j, fun w' hw' => ?_, rfl⟩
          have := hq w' hw'
          unfold Oper.quietAt at this ⊢
          rw [hexec]; exact this
        · rw [if_neg (by rw [hwant, hwt]; simp), ← hu]
          exact ⟨fun _ _ => trivial, next w hCw⟩
  refine main l.toArray.size _ a0 w0.drew ⟨rfl, rfl, fun t => ?_⟩ ⟨by simp, fun j oj _ hl => (by rw [getD_replicate_false] at hl; cases hl), fun t _ ht => getD_in (by simpa using ht) (getD_replicate_false _ _)⟩ hC (by simp)
  cases hw : writer l.toArray t with
  | none => rfl
  | some k => simp only [getD_replicate_false]; simp

/-- .. in any later world. -/
theorem wpIn_region_late {id fr : Nat} {Q : Exit → Act → World → Prop} {a0 : Act} {W : World} {l : List Oper} (n : Nat) (hm : P.follows .mixedOrders = true)
    (hB : quietTailB l.toArray n a0.tmps.size = true)
    (h : wpQuiet P l.toArray (fun w' => ∃ u : Later W, w' = u.val) (fun a' => ∀ w', (∃ u : Later W, w' = u.val) → wpListIn Fence.wide fr P l.toArray Q (l.drop n) a' w') (l.take n) a0) : (Code.region id l.toArray true).wpIn Fence.wide fr P Q a0 W :=
  wpIn_region_quiet_tail n hm hB ⟨⟨W.drew, Below.drew (Below.refl _ _)⟩, rfl⟩ h
end
end Go.Proofs.Ytcklmemnjchdcaa
