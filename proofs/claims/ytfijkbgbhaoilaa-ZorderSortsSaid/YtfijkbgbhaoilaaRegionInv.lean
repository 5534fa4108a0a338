/-
  A region that draws its order, by what is known as it goes: a condition on which operations are done, their values and the world; each operation keeps it, in whatever order they come.
-/
import Derived.Test.YtfijkbgbhaoilaaRegion
namespace Go.Proofs.Ytfijkbgbhaoilaa
open Go.RowKit
set_option linter.unusedVariables false

section
variable {P : Program}

/-- One value more. -/
def fset {α : Type} (f : Nat → α) (j : Nat) (v : α) : Nat → α := fun k => if k = j then v else f k
theorem fset_same {α : Type} (f : Nat → α) (j : Nat) (v : α) : fset f j v j = v := if_pos rfl
theorem fset_ne {α : Type} (f : Nat → α) {j k : Nat} (v : α) (h : k ≠ j) : fset f j v k = f k := if_neg h

def invB (ops : Array Oper) (n m : Nat) : Bool :=
  Region.noSelect ops && decide (n < ops.size) && Region.sinkB .any ops n && Region.chainB .any ops n && soleB ops m &&
    ((List.range n).all fun j => match ops[j]? with
      | none => true
      | some o => o.after.all fun e => !Region.binds .any e || decide (e.on < j)) &&
    Region.seqB .any ops (ops.size - n) n (Array.ofFn fun i : Fin ops.size => decide (i.val < n))

/-- What operation j owes: done in the frame a, in the world w, it leaves some value behind which K holds. -/
def StepOf (P : Program) (ops : Array Oper) (Q : Exit → Act → World → Prop) (o : Oper) (a : Act) (w : World) (K : Value → World → Prop) : Prop :=
  if Region.wanted o (yielded ops a.tmps) = true then Oper.wp P o a w (fun a' w' => ∃ v, a' = a.put o.dst v ∧ K v w') Q else K undef w

theorem wp_region_inv {id : Nat} {Q : Exit → Act → World → Prop} {a0 : Act} {W : World} {l : List Oper} (N : Nat) (I : (Nat → Bool) → (Nat → Value) → World → Prop) (hm : P.follows .mixedOrders = true)
    (hB : invB l.toArray N a0.tmps.size = true)
    (h0 : I (fun _ => false) (fun _ => undef) W.drew)
    (hstep : ∀ (j : Nat) (o : Oper), j < N → l[j]? = some o → ∀ (D : Nat → Bool) (vs : Nat → Value) (a : Act) (w : World), D j = false → (∀ k, Region.waitsFor .any l.toArray j k = true → D k = true) →
      (∀ k t, D k = true → writer l.toArray t = some k → a.tmps[t]? = some (vs k)) → (∀ t, writer l.toArray t = none → a.tmps[t]? = a0.tmps[t]?) → I D vs w →
      StepOf P l.toArray Q o a w (fun v w' => I (fset D j true) (fset vs j v) w'))
    (hend : ∀ (D : Nat → Bool) (vs : Nat → Value) (w : World), (∀ i, i < N → D i = true) → I D vs w → wpList P l.toArray Q (l.drop N) (puts l.toArray vs (List.range N) a0) w) : (Code.region id l.toArray true).wp P Q a0 W := by
  simp only [invB, Bool.and_eq_true, decide_eq_true_eq] at hB
  obtain ⟨⟨⟨⟨⟨⟨hsel, hn⟩, hs⟩, hc⟩, hsole⟩, haft⟩, hseq⟩ := hB
  have hn' : N < l.length := by simpa using hn
  have haft' : ∀ j o, j < N → l.toArray[j]? = some o → ∀ e ∈ o.after, Region.binds .any e = true → e.on < j := by
    intro j o hj ho e he hb
    have := List.all_eq_true.1 haft j (List.mem_range.2 hj)
    simp only [ho] at this
    have := Array.all_eq_true_iff_forall_mem.1 this e he
    simpa [hb] using this
  have lex : ∀ (vs : Nat → Value) (t : Nat), (puts l.toArray vs (List.range N) a0).tmps[t]? = match writer l.toArray t with
      | some k => if k < N then some (vs k) else a0.tmps[t]?
      | none => a0.tmps[t]? := by
    intro vs t
    cases hw : writer l.toArray t with
    | none =>
      refine (puts_get vs t _ _).1 fun i hi hd => ?_
      have hlt : i < l.toArray.size := by have := List.mem_range.1 hi; omega
      have hoi : l.toArray[i]? = some l.toArray[i] := Array.getElem?_eq_getElem hlt
      rw [hoi] at hd
      exact writer_none hw hoi hd
    | some k =>
      obtain ⟨o, ho, hd⟩ := writer_some hw
      have hsole' : ∀ i, i < l.toArray.size → (l.toArray[i]?).bind (·.dst) = some t → i = k := fun i hi hdi => by
        have hoi : l.toArray[i]? = some l.toArray[i] := Array.getElem?_eq_getElem hi
        rw [hoi] at hdi
        have := (sole_dst hsole hoi hdi).1
        rw [hw] at this
        exact (Option.some.inj this).symm
      by_cases hk : k < N
      · simp only [hk, if_true]
        exact (puts_get vs t _ _).2 k (fun i hi hdi => hsole' i (by have := List.mem_range.1 hi; omega) hdi) (List.mem_range.2 hk) (by rw [ho]; exact hd) (sole_dst hsole ho hd).2
      · simp only [hk, if_false]
        refine (puts_get vs t _ _).1 fun i hi hdi => hk ?_
        have h1 := List.mem_range.1 hi
        rw [← hsole' i (by omega) hdi]
        exact h1
  refine wp_region_any hm ?_
  have main : ∀ (fuel : Nat) (L : Array Bool) (a : Act) (w : World) (vs : Nat → Value), Mid l.toArray a0 vs L a → HeadInv .any l.toArray N L → I (fun k => L.getD k false) vs w → L.toList.count false = fuel → wpAny P .any l.toArray Q fuel L a w := by
    intro fuel
    induction fuel with
    | zero =>
      intro L a w vs mid inv hI hcnt
      exfalso
      have h1 := inv.tail N (Nat.le_refl _) hn
      have hl : N < L.size := by rw [inv.size]; exact hn
      have : false ∈ L.toList := by
        have h2 : L[N] = false := by simpa [hl] using h1
        rw [← h2]; simp
      have := List.count_pos_iff.2 this
      omega
    | succ fuel ih =>
      intro L a w vs mid inv hI hcnt
      by_cases hall : ∀ i, i < N → L.getD i false = true
      · have hL : L = Array.ofFn fun i : Fin l.toArray.size => decide (i.val < N) := by
          apply Array.ext
          · simp [inv.size]
          · intro i h1 h2
            have hi : i < l.toArray.size := by rw [← inv.size]; exact h1
            simp only [Array.getElem_ofFn]
            by_cases hin : i < N
            · have := hall i hin
              simp [h1] at this
              simp [hin, this]
            · have := inv.tail i (by omega) hi
              simp [h1] at this
              simp [hin, this]
        have ha : a = puts l.toArray vs (List.range N) a0 := by
          have e1 : a.tmps = (puts l.toArray vs (List.range N) a0).tmps := by
            apply Array.ext_getElem?
            intro t
            rw [mid.slot t, lex vs t]
            cases hw : writer l.toArray t with
            | none => rfl
            | some k =>
              simp only []
              by_cases hk : k < N
              · rw [if_pos (hall k hk), if_pos hk]
              · rw [if_neg hk, if_neg]
                obtain ⟨o, ho, _⟩ := writer_some hw
                have := getD_both (inv.tail k (by omega) (Array.getElem?_eq_some_iff.1 ho).1)
                rw [this]; simp
          have e2 : a.defers = (puts l.toArray vs (List.range N) a0).defers := by rw [mid.defers]; exact (puts_defers vs _ _).symm
          cases a
          cases hp : puts l.toArray vs (List.range N) a0
          simp only [hp] at e1 e2
          subst e1 e2
          rfl
        have hfin := hend _ vs w hall hI
        have hcnt2 : fuel + 1 = (l.drop N).length := by
          rw [← hcnt, hL]
          simp only [Array.toList_ofFn, List.length_drop]
          have gen : ∀ (m n : Nat), ((List.ofFn fun i : Fin m => decide (i.val < n)).count false) = m - n := by
            intro m
            induction m with
            | zero => intro n; simp
            | succ m ihm =>
              intro n
              cases n with
              | zero =>
                have := ihm 0
                simp [List.ofFn_succ] at this ⊢
                omega
              | succ n =>
                have := ihm n
                simp [List.ofFn_succ] at this ⊢
                omega
          simpa using gen l.toArray.size N
        rw [hcnt2]
        refine wpAny_of_seq (md := .any) (l.drop N) N L a w (fun j => by simp [List.getElem?_drop]) ?_ ?_
        · rw [hL]
          have e : (l.drop N).length = l.toArray.size - N := by simp
          rw [e]; exact hseq
        · rw [ha]; exact hfin
      · have hex : ∃ i, i < N ∧ L.getD i true = false := by
          refine Classical.byContradiction fun hno => hall fun i hi => ?_
          cases hg : L.getD i true with
          | false => exact absurd ⟨i, hi, hg⟩ hno
          | true =>
            have hl : i < L.size := by rw [inv.size]; omega
            simp [hl] at hg ⊢
            exact hg
        obtain ⟨i0, hi0, hun0⟩ := hex
        have hready : ∀ j ∈ Region.ready .any l.toArray L, j < N := fun j hj => by
          rcases Nat.lt_or_ge j N with h | h
          · exact h
          · exact absurd hj (tail_waits hs hc hn inv _ i0 rfl hi0 hun0 j h)
        have hne : Region.ready .any l.toArray L ≠ [] := by
          intro hnil
          have hl : ∀ j, j < N → L.getD j false = true := by
            intro j
            induction j using Nat.strongRecOn with
            | _ j ihj =>
              intro hj
              cases hlj : L.getD j false with
              | true => rfl
              | false =>
                exfalso
                have hjo : j < l.toArray.size := by omega
                have hoj : l.toArray[j]? = some l.toArray[j] := Array.getElem?_eq_getElem hjo
                have : j ∈ Region.ready .any l.toArray L := mem_ready.2 ⟨getD_in (by rw [inv.size]; exact hjo) hlj, _, hoj, fun e he hb => by
                  have := haft' j _ hj hoj e he hb
                  exact ihj e.on this (by omega)⟩
                rw [hnil] at this
                cases this
          exact hall hl
        refine ⟨fun hr => absurd hr hne, fun j hj => ?_⟩
        have hjn := hready j hj
        obtain ⟨hun, o, ho, hpre⟩ := mem_ready.1 hj
        have hjs : j < L.size := by rw [inv.size]; omega
        have hcnt' : (L.setIfInBounds j true).toList.count false = fuel := by
          have := count_set L.toList j (by simp [hjs] at hun ⊢; exact hun)
          simp only [Array.toList_setIfInBounds]
          omega
        have eD : (fun k => (L.setIfInBounds j true).getD k false) = fset (fun k => L.getD k false) j true := by
          funext k
          by_cases hk : k = j
          · subst hk; rw [fset_same]; simp [hjs]
          · rw [fset_ne _ _ hk, getD_set_ne false (fun e => hk e.symm)]
        have next : ∀ v w', I (fset (fun k => L.getD k false) j true) (fset vs j v) w' → wpAny P .any l.toArray Q fuel (L.setIfInBounds j true) (a.put o.dst v) w' := by
          intro v w' hI'
          refine ih _ _ _ (fset vs j v) ?_ (inv.set hj hjn) (by rw [eD]; exact hI') hcnt'
          refine ⟨by rw [put_defers]; exact mid.defers, by rw [put_size]; exact mid.size, fun t => ?_⟩
          rw [put_get]
          by_cases hd : o.dst = some t
          · obtain ⟨hw, ht⟩ := sole_dst hsole ho hd
            rw [if_pos ⟨hd, by rw [mid.size]; exact ht⟩, hw]
            simp [hjs, fset_same]
          · rw [if_neg (fun h => hd h.1), mid.slot t]
            cases hw : writer l.toArray t with
            | none => rfl
            | some k =>
              have hkj : j ≠ k := by
                rintro rfl
                obtain ⟨o', ho', hd'⟩ := writer_some hw
                rw [ho] at ho'; cases ho'
                exact hd hd'
              simp only []
              rw [getD_set_ne false hkj, fset_ne _ _ (fun e => hkj e.symm)]
        have hst := hstep j o hjn (by simpa using ho) (fun k => L.getD k false) vs a w (getD_both hun) (fun k hk => by
          obtain ⟨oj, hoj, e, he, hb, hon⟩ := Region.waitsFor_spec hk
          have : oj = o := Option.some.inj (hoj.symm.trans ho)
          subst this
          exact hon ▸ hpre e he hb) (fun k t hk hw => by rw [mid.slot t, hw]; simp only [hk, if_true]) (fun t hw => by rw [mid.slot t, hw]) hI
        unfold wpOp
        simp only [ho]
        unfold StepOf at hst
        by_cases hwt : Region.wanted o (yielded l.toArray a.tmps) = true
        · rw [if_pos hwt] at hst ⊢
          left
          refine Oper.wp_mono ?_ hst
          rintro a' w' ⟨v, rfl, hI'⟩
          exact next v w' hI'
        · rw [if_neg hwt] at hst ⊢
          exact next undef w hst
  refine main l.toArray.size _ a0 W.drew (fun _ => undef) ⟨rfl, rfl, fun t => ?_⟩ ⟨by simp, fun j oj _ hl => (by rw [getD_replicate_false] at hl; cases hl), fun t _ ht => getD_in (by simpa using ht) (getD_replicate_false _ _)⟩ ?_ (by simp)
  · cases hw : writer l.toArray t with
    | none => rfl
    | some k => simp only [getD_replicate_false]; simp
  · have e : (fun k => (Array.replicate l.toArray.size false).getD k false) = fun _ => false := by funext k; exact getD_replicate_false _ _
    rw [e]; exact h0
variable {ops : Array Oper} {Q : Exit → Act → World → Prop}
theorem wanted_plain {o : Oper} (hg : o.guard = none) (y : Nat → Option Bool) : Region.wanted o y = true := by simp [Region.wanted, hg]
theorem StepOf.value {o : Oper} {a : Act} {w w' : World} {K : Value → World → Prop} (v : Value) (hw : Region.wanted o (yielded ops a.tmps) = true) (hr : (execOp a.eval o).run P w = .ok (.value v) w') (h : K v w') : StepOf P ops Q o a w K := by
  unfold StepOf
  rw [if_pos hw]
  unfold Oper.wp
  rw [hr, Oper.upon_value]
  exact ⟨v, rfl, h⟩
theorem StepOf.skip {o : Oper} {a : Act} {w w' : World} {K : Value → World → Prop} (hw : Region.wanted o (yielded ops a.tmps) = true) (hr : (execOp a.eval o).run P w = .ok .skip w') (h : K undef w') : StepOf P ops Q o a w K := by
  unfold StepOf
  rw [if_pos hw]
  unfold Oper.wp
  rw [hr, Oper.upon_skip]
  exact ⟨undef, rfl, h⟩
theorem StepOf.call {o : Oper} {a : Act} {w : World} {K : Value → World → Prop} (f : FuncId) (args : Array Value) (hw : Region.wanted o (yielded ops a.tmps) = true) (hr : (execOp a.eval o).run P w = .ok (.enter f args) w)
    (h : Calls P f args w fun e w' => ∃ v, e = .returned v ∧ K v w') : StepOf P ops Q o a w K := by
  unfold StepOf
  rw [if_pos hw]
  unfold Oper.wp
  rw [hr, Oper.upon_enter]
  refine h.mono ?_
  rintro e w' ⟨v, rfl, hK⟩
  exact ⟨v, rfl, hK⟩
theorem StepOf.kept {o : Oper} {a : Act} {w : World} {K : Value → World → Prop} (hw : Region.wanted o (yielded ops a.tmps) = false) (h : K undef w) : StepOf P ops Q o a w K := by
  unfold StepOf
  rw [if_neg (by rw [hw]; simp)]
  exact h
/-- What a frame holds, as an operation reads it. -/
theorem eval_of {a : Act} {t : Tmp} {v : Value} (h : a.tmps[t]? = some v) : a.eval (.tmp t) = v := by simp [Act.eval, h]

/-- Those done have the values of a table. -/
def Vals (V : Nat → Option Value) (D : Nat → Bool) (vs : Nat → Value) : Prop := ∀ k v, D k = true → V k = some v → vs k = v
theorem Vals.nil {V : Nat → Option Value} : Vals V (fun _ => false) (fun _ => undef) := fun k v h => by cases h
theorem Vals.set {V : Nat → Option Value} {D : Nat → Bool} {vs : Nat → Value} (h : Vals V D vs) (j : Nat) (v : Value) (hv : ∀ u, V j = some u → v = u) : Vals V (fset D j true) (fset vs j v) := by
  intro k u hD hV
  by_cases hk : k = j
  · subst hk; rw [fset_same]; exact hv u hV
  · rw [fset_ne _ _ hk] at hD ⊢; exact h k u hD hV
/-- What an operation reads of one that is done; of what stood there ahead of the region. -/
theorem at_done {V : Nat → Option Value} {D : Nat → Bool} {vs : Nat → Value} {a : Act} (H : Vals V D vs) (hv : ∀ k t, D k = true → writer ops t = some k → a.tmps[t]? = some (vs k)) {k : Nat} (hk : D k = true) (t : Tmp) (hw : writer ops t = some k) {v : Value} (hV : V k = some v) : a.tmps[t]?.getD undef = v := by
  rw [hv k t hk hw, H k v hk hV]; rfl
theorem at_base {a a0 : Act} (hb : ∀ t, writer ops t = none → a.tmps[t]? = a0.tmps[t]?) (t : Tmp) (hw : writer ops t = none) {v : Value} (h0 : a0.tmps[t]? = some v) : a.tmps[t]?.getD undef = v := by
  rw [hb t hw, h0]; rfl
theorem eval_get {a : Act} {t : Tmp} {v : Value} (h : a.tmps[t]?.getD undef = v) : a.eval (.tmp t) = v := by simp [Act.eval, h]
end
end Go.Proofs.Ytfijkbgbhaoilaa
