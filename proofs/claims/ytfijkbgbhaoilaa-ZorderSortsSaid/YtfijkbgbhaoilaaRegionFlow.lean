/-
  A region that draws its order, with operations that make rows out of one another (append of append ..): quiet ones have values that are known ahead; of what is made something is known as long as it isn't used up.
-/
import Derived.Test.YtfijkbgbhaoilaaRegionInv
import Derived.Test.YtfijkbgbhaoilaaRegionOrder
import Derived.Test.YtfijkbgbhaoilaaSole
namespace Go.Proofs.Ytfijkbgbhaoilaa
open Go.RowKit
set_option linter.unusedVariables false
set_option linter.unusedSimpArgs false

section
variable {P : Program}

theorem wp_region_inv2 {id : Nat} {Q : Exit → Act → World → Prop} {a0 : Act} {W : World} {l : List Oper} (N : Nat) (I : (Nat → Bool) → (Nat → Value) → World → Prop) (hm : P.follows .mixedOrders = true)
    (hB : invB l.toArray N a0.tmps.size = true)
    (h0 : I (fun _ => false) (fun _ => undef) W.drew)
    (hstep : ∀ (j : Nat) (o : Oper), j < N → l[j]? = some o → ∀ (D : Nat → Bool) (vs : Nat → Value) (a : Act) (w : World), D j = false → (∀ k, Region.waitsFor .any l.toArray j k = true → D k = true) →
      (∀ k t, D k = true → writer l.toArray t = some k → a.tmps[t]? = some (vs k)) → (∀ t, writer l.toArray t = none → a.tmps[t]? = a0.tmps[t]?) → (∀ k t, D k = false → writer l.toArray t = some k → a.tmps[t]? = a0.tmps[t]?) → (∀ k, N ≤ k → D k = false) → I D vs w →
      StepOf P l.toArray Q o a w (fun v w' => I (fset D j true) (fset vs j v) w'))
    (hend : ∀ (D : Nat → Bool) (vs : Nat → Value) (w : World), (∀ i, i < N → D i = true) → I D vs w → wpList P l.toArray Q (l.drop N) (puts l.toArray vs (List.range N) a0) w) : (Code.region id l.toArray true).wp P Q a0 W := by
  simp only [invB, Bool.and_eq_true, decide_eq_true_eq] at hB
  obtain ⟨⟨⟨⟨⟨⟨hsel, hn⟩, hs⟩, hc⟩, hsole⟩, haft⟩, hseq⟩ := hB
  have hn' : N < l.length := by simpa using hn
  have haft' : ∀ j o, j < N → l.toArray[j]? = some o → ∀ e ∈ o.after, Region.binds .any e = true → e.on < j := by
    intro j o hj ho e he hb
    have := List.all_eq_true.1 haft j (List.mem_range.2 hj)
    simp only [ho] at this
    have := Array.all_eq_true_iff_forall_mem.1 this e he
    simpa [hb] using this
  have lex : ∀ (vs : Nat → Value) (t : Nat), (puts l.toArray vs (List.range N) a0).tmps[t]? = match writer l.toArray t with
      | some k => if k < N then some (vs k) else a0.tmps[t]?
      | none => a0.tmps[t]? := by
    intro vs t
    cases hw : writer l.toArray t with
    | none =>
      refine (puts_get vs t _ _).1 fun i hi hd => ?_
      have hlt : i < l.toArray.size := by have := List.mem_range.1 hi; omega
      have hoi : l.toArray[i]? = some l.toArray[i] := Array.getElem?_eq_getElem hlt
      rw [hoi] at hd
      exact writer_none hw hoi hd
    | some k =>
      obtain ⟨o, ho, hd⟩ := writer_some hw
      have hsole' : ∀ i, i < l.toArray.size → (l.toArray[i]?).bind (·.dst) = some t → i = k := fun i hi hdi => by
        have hoi : l.toArray[i]? = some l.toArray[i] := Array.getElem?_eq_getElem hi
        rw [hoi] at hdi
        have := (sole_dst hsole hoi hdi).1
        rw [hw] at this
        exact (Option.some.inj this).symm
      by_cases hk : k < N
      · simp only [hk, if_true]
        exact (puts_get vs t _ _).2 k (fun i hi hdi => hsole' i (by have := List.mem_range.1 hi; omega) hdi) (List.mem_range.2 hk) (by rw [ho]; exact hd) (sole_dst hsole ho hd).2
      · simp only [hk, if_false]
        refine (puts_get vs t _ _).1 fun i hi hdi => hk ?_
        have h1 := List.mem_range.1 hi
        rw [← hsole' i (by omega) hdi]
        exact h1
  refine wp_region_any hm ?_
  have main : ∀ (fuel : Nat) (L : Array Bool) (a : Act) (w : World) (vs : Nat → Value), Mid l.toArray a0 vs L a → HeadInv .any l.toArray N L → I (fun k => L.getD k false) vs w → L.toList.count false = fuel → wpAny P .any l.toArray Q fuel L a w := by
    intro fuel
    induction fuel with
    | zero =>
      intro L a w vs mid inv hI hcnt
      exfalso
      have h1 := inv.tail N (Nat.le_refl _) hn
      have hl : N < L.size := by rw [inv.size]; exact hn
      have : false ∈ L.toList := by
        have h2 : L[N] = false := by simpa [hl] using h1
        rw [← h2]; simp
      have := List.count_pos_iff.2 this
      omega
    | succ fuel ih =>
      intro L a w vs mid inv hI hcnt
      by_cases hall : ∀ i, i < N → L.getD i false = true
      · have hL : L = Array.ofFn fun i : Fin l.toArray.size => decide (i.val < N) := by
          apply Array.ext
          · simp [inv.size]
          · intro i h1 h2
            have hi : i < l.toArray.size := by rw [← inv.size]; exact h1
            simp only [Array.getElem_ofFn]
            by_cases hin : i < N
            · have := hall i hin
              simp [h1] at this
              simp [hin, this]
            · have := inv.tail i (by omega) hi
              simp [h1] at this
              simp [hin, this]
        have ha : a = puts l.toArray vs (List.range N) a0 := by
          have e1 : a.tmps = (puts l.toArray vs (List.range N) a0).tmps := by
            apply Array.ext_getElem?
            intro t
            rw [mid.slot t, lex vs t]
            cases hw : writer l.toArray t with
            | none => rfl
            | some k =>
              simp only []
              by_cases hk : k < N
              · rw [if_pos (hall k hk), if_pos hk]
              · rw [if_neg hk, if_neg]
                obtain ⟨o, ho, _⟩ := writer_some hw
                have := getD_both (inv.tail k (by omega) (Array.getElem?_eq_some_iff.1 ho).1)
                rw [this]; simp
          have e2 : a.defers = (puts l.toArray vs (List.range N) a0).defers := by rw [mid.defers]; exact (puts_defers vs _ _).symm
          cases a
          cases hp : puts l.toArray vs (List.range N) a0
          simp only [hp] at e1 e2
          subst e1 e2
          rfl
        have hfin := hend _ vs w hall hI
        have hcnt2 : fuel + 1 = (l.drop N).length := by
          rw [← hcnt, hL]
          simp only [Array.toList_ofFn, List.length_drop]
          have gen : ∀ (m n : Nat), ((List.ofFn fun i : Fin m => decide (i.val < n)).count false) = m - n := by
            intro m
            induction m with
            | zero => intro n; simp
            | succ m ihm =>
              intro n
              cases n with
              | zero =>
                have := ihm 0
                simp [List.ofFn_succ] at this ⊢
                omega
              | succ n =>
                have := ihm n
                simp [List.ofFn_succ] at this ⊢
                omega
          simpa using gen l.toArray.size N
        rw [hcnt2]
        refine wpAny_of_seq (md := .any) (l.drop N) N L a w (fun j => by simp [List.getElem?_drop]) ?_ ?_
        · rw [hL]
          have e : (l.drop N).length = l.toArray.size - N := by simp
          rw [e]; exact hseq
        · rw [ha]; exact hfin
      · have hex : ∃ i, i < N ∧ L.getD i true = false := by
          refine Classical.byContradiction fun hno => hall fun i hi => ?_
          cases hg : L.getD i true with
          | false => exact absurd ⟨i, hi, hg⟩ hno
          | true =>
            have hl : i < L.size := by rw [inv.size]; omega
            simp [hl] at hg ⊢
            exact hg
        obtain ⟨i0, hi0, hun0⟩ := hex
        have hready : ∀ j ∈ Region.ready .any l.toArray L, j < N := fun j hj => by
          rcases Nat.lt_or_ge j N with h | h
          · exact h
          · exact absurd hj (tail_waits hs hc hn inv _ i0 rfl hi0 hun0 j h)
        have hne : Region.ready .any l.toArray L ≠ [] := by
          intro hnil
          have hl : ∀ j, j < N → L.getD j false = true := by
            intro j
            induction j using Nat.strongRecOn with
            | _ j ihj =>
              intro hj
              cases hlj : L.getD j false with
              | true => rfl
              | false =>
                exfalso
                have hjo : j < l.toArray.size := by omega
                have hoj : l.toArray[j]? = some l.toArray[j] := Array.getElem?_eq_getElem hjo
                have : j ∈ Region.ready .any l.toArray L := mem_ready.2 ⟨getD_in (by rw [inv.size]; exact hjo) hlj, _, hoj, fun e he hb => by
                  have := haft' j _ hj hoj e he hb
                  exact ihj e.on this (by omega)⟩
                rw [hnil] at this
                cases this
          exact hall hl
        refine ⟨fun hr => absurd hr hne, fun j hj => ?_⟩
        have hjn := hready j hj
        obtain ⟨hun, o, ho, hpre⟩ := mem_ready.1 hj
        have hjs : j < L.size := by rw [inv.size]; omega
        have hcnt' : (L.setIfInBounds j true).toList.count false = fuel := by
          have := count_set L.toList j (by simp [hjs] at hun ⊢; exact hun)
          simp only [Array.toList_setIfInBounds]
          omega
        have eD : (fun k => (L.setIfInBounds j true).getD k false) = fset (fun k => L.getD k false) j true := by
          funext k
          by_cases hk : k = j
          · subst hk; rw [fset_same]; simp [hjs]
          · rw [fset_ne _ _ hk, getD_set_ne false (fun e => hk e.symm)]
        have next : ∀ v w', I (fset (fun k => L.getD k false) j true) (fset vs j v) w' → wpAny P .any l.toArray Q fuel (L.setIfInBounds j true) (a.put o.dst v) w' := by
          intro v w' hI'
          refine ih _ _ _ (fset vs j v) ?_ (inv.set hj hjn) (by rw [eD]; exact hI') hcnt'
          refine ⟨by rw [put_defers]; exact mid.defers, by rw [put_size]; exact mid.size, fun t => ?_⟩
          rw [put_get]
          by_cases hd : o.dst = some t
          · obtain ⟨hw, ht⟩ := sole_dst hsole ho hd
            rw [if_pos ⟨hd, by rw [mid.size]; exact ht⟩, hw]
            simp [hjs, fset_same]
          · rw [if_neg (fun h => hd h.1), mid.slot t]
            cases hw : writer l.toArray t with
            | none => rfl
            | some k =>
              have hkj : j ≠ k := by
                rintro rfl
                obtain ⟨o', ho', hd'⟩ := writer_some hw
                rw [ho] at ho'; cases ho'
                exact hd hd'
              simp only []
              rw [getD_set_ne false hkj, fset_ne _ _ (fun e => hkj e.symm)]
        have hst := hstep j o hjn (by simpa using ho) (fun k => L.getD k false) vs a w (getD_both hun) (fun k hk => by
          obtain ⟨oj, hoj, e, he, hb, hon⟩ := Region.waitsFor_spec hk
          have : oj = o := Option.some.inj (hoj.symm.trans ho)
          subst this
          exact hon ▸ hpre e he hb) (fun k t hk hw => by rw [mid.slot t, hw]; simp only [hk, if_true]) (fun t hw => by rw [mid.slot t, hw]) (fun k t hk hw => by rw [mid.slot t, hw]; simp [hk]) (fun k hk => by
          by_cases hks : k < L.size
          · have := inv.tail k hk (by rw [← inv.size]; exact hks)
            simp [hks] at this ⊢
            exact this
          · simp [Array.getD, hks]) hI
        unfold wpOp
        simp only [ho]
        unfold StepOf at hst
        by_cases hwt : Region.wanted o (yielded l.toArray a.tmps) = true
        · rw [if_pos hwt] at hst ⊢
          left
          refine Oper.wp_mono ?_ hst
          rintro a' w' ⟨v, rfl, hI'⟩
          exact next v w' hI'
        · rw [if_neg hwt] at hst ⊢
          exact next undef w hst
  refine main l.toArray.size _ a0 W.drew (fun _ => undef) ⟨rfl, rfl, fun t => ?_⟩ ⟨by simp, fun j oj _ hl => (by rw [getD_replicate_false] at hl; cases hl), fun t _ ht => getD_in (by simpa using ht) (getD_replicate_false _ _)⟩ ?_ (by simp)
  · cases hw : writer l.toArray t with
    | none => rfl
    | some k => simp only [getD_replicate_false]; simp
  · have e : (fun k => (Array.replicate l.toArray.size false).getD k false) = fun _ => false := by funext k; exact getD_replicate_false _ _
    rw [e]; exact h0

/-- js: quiet, in an order in which they can be walked; ks: those that make something. -/
def flowB (ops : Array Oper) (js ks : List Nat) (use : Nat → List Nat) (N : Nat) : Bool :=
  nodupB (js ++ ks) && (List.range N).all (fun i => (js ++ ks).contains i) && (js ++ ks).all (fun j => decide (j < N)) &&
  (js.all fun j => match ops[j]? with
    | none => true
    | some o => (o.looksAt ops).all fun t => match writer ops t with
      | none => true
      | some k => decide (N ≤ k) || ((preOf js j).contains k && Region.waitsFor .any ops j k)) &&
  (ks.all fun j => (match ops[j]? with
    | none => false
    | some o => o.guard.isNone && o.dst.isSome && (o.looksAt ops).all fun t => match writer ops t with
      | none => true
      | some k => decide (N ≤ k) || ((js ++ ks).contains k && Region.waitsFor .any ops j k)) &&
    (use j).all (fun i => ks.contains i && Region.waitsFor .any ops j i && ks.all fun k => (k == j) || !(use k).contains i))

/-- What an operation that makes something owes. -/
def MakeOf (P : Program) (o : Oper) (a : Act) (w : World) (K : Value → World → Prop) : Prop :=
  (∃ v w', (execOp a.eval o).run P w = .ok (.value v) w' ∧ K v w') ∨ (∃ f args, (execOp a.eval o).run P w = .ok (.enter f args) w ∧ Calls P f args w fun e w' => ∃ v, e = .returned v ∧ K v w')
theorem MakeOf.value {o : Oper} {a : Act} {w : World} {K : Value → World → Prop} (v : Value) (w' : World) (h : (execOp a.eval o).run P w = .ok (.value v) w') (k : K v w') : MakeOf P o a w K := .inl ⟨v, w', h, k⟩
theorem MakeOf.call {o : Oper} {a : Act} {w : World} {K : Value → World → Prop} (f : FuncId) (args : Array Value) (h : (execOp a.eval o).run P w = .ok (.enter f args) w) (k : Calls P f args w fun e w' => ∃ v, e = .returned v ∧ K v w') : MakeOf P o a w K := .inr ⟨f, args, h, k⟩

/-- Made, and not used up. -/
def LiveK (ks : List Nat) (use : Nat → List Nat) (D : Nat → Bool) (i : Nat) : Prop := i ∈ ks ∧ D i = true ∧ ∀ k ∈ ks, i ∈ use k → D k = false
structure FlowI (W : World) (ops : Array Oper) (A : Act) (js ks : List Nat) (use : Nat → List Nat) (G : Nat → Value → World → Prop) (D : Nat → Bool) (vs : Nat → Value) (w : World) : Prop where
  low : Below W.heap.size W w
  quiet : ∀ j ∈ js, D j = true → (ops[j]?).bind (·.dst) ≠ none → vs j = valOf ops A j
  gs : ∀ i, LiveK ks use D i → G i (vs i) w
  ap : ∀ i i', LiveK ks use D i → LiveK ks use D i' → i ≠ i' → ∀ b, (vs i).ownBlock = some b → (vs i').ownBlock ≠ some b

theorem wp_region_flow {id : Nat} {Q : Exit → Act → World → Prop} {a0 : Act} {W : World} {l : List Oper} (js ks : List Nat) (N : Nat) (use : Nat → List Nat) (G : Nat → Value → World → Prop) (A : Act) (hm : P.follows .mixedOrders = true)
    (hB : invB l.toArray N a0.tmps.size = true) (hF : flowB l.toArray js ks use N = true)
    (hG : ∀ k v w w' (S : Nat → Prop), G k v w → Sole S w w' → (∀ b, v.ownBlock = some b → ¬ S b) → G k v w')
    (hown : ∀ k v w, G k v w → ∀ b, v.ownBlock = some b → W.heap.size ≤ b ∧ b < w.heap.size)
    (hq : ∀ S : World → Prop, Nonempty (LaterC W S) → wpQuiet P l.toArray (fun w' => ∃ u : LaterC W S, w' = u.val) (fun a' => a' = A) (js.filterMap (l.toArray[·]?)) a0)
    (hmake : ∀ k o, k ∈ ks → l[k]? = some o → ∀ (vs : Nat → Value) (w : World), Below W.heap.size W w → (∀ i ∈ use k, G i (vs i) w) → (∀ i ∈ use k, ∀ i' ∈ use k, i ≠ i' → ∀ b, (vs i).ownBlock = some b → (vs i').ownBlock ≠ some b) →
      MakeOf P o (puts l.toArray vs ks A) w (fun v w' => G k v w' ∧ (∀ b, v.ownBlock = some b → w.heap.size ≤ b ∨ ∃ i ∈ use k, (vs i).ownBlock = some b) ∧ Sole (fun b => ∃ i ∈ use k, (vs i).ownBlock = some b) w w'))
    (hend : ∀ (vs : Nat → Value) (w' : World), Below W.heap.size W w' → (∀ k ∈ ks, (∀ k' ∈ ks, k ∉ use k') → G k (vs k) w') → wpList P l.toArray Q (l.drop N) (puts l.toArray vs ks A) w') : (Code.region id l.toArray true).wp P Q a0 W := by
  have hB0 := hB
  simp only [invB, Bool.and_eq_true, decide_eq_true_eq] at hB
  obtain ⟨⟨⟨⟨⟨⟨hsel, hn⟩, hs⟩, hc⟩, hsole⟩, haft⟩, hseq⟩ := hB
  simp only [flowB, Bool.and_eq_true] at hF
  obtain ⟨⟨⟨⟨hnd, hall⟩, hlt⟩, hjs⟩, hks⟩ := hF
  have hnd' := nodup_of hnd
  have hn' : N < l.length := by simpa using hn
  have hmem : ∀ i, i < N → i ∈ js ++ ks := fun i hi => by
    have := List.all_eq_true.1 hall i (List.mem_range.2 hi)
    simpa using this
  have hltN : ∀ j ∈ js ++ ks, j < N := fun j hj => by
    have := List.all_eq_true.1 hlt j hj
    simpa using this
  have hjlt : ∀ j ∈ js, j < l.toArray.size := fun j hj => by have := hltN j (List.mem_append_left _ hj); simp; omega
  have hjk : ∀ j ∈ js, j ∉ ks := fun j hj hk => (List.nodup_append.1 hnd').2.2 j hj j hk rfl
  have hjnd := (List.nodup_append.1 hnd').1
  have hknd := (List.nodup_append.1 hnd').2.1
  -- what is known of the quiet ones, of each world alone
  have get : ∀ w, Below W.heap.size W w → ∃ us : Nat → Value, A = puts l.toArray us js a0 ∧ (∀ j ∈ js, (l.toArray[j]?).bind (·.dst) ≠ none → us j = valOf l.toArray A j) ∧
      ∀ X j Y o, js = X ++ j :: Y → l.toArray[j]? = some o → Told P l.toArray (fun w' => w' = w) o (us j) (puts l.toArray us X a0) := by
    intro w hw
    have hcl : (fun w' => ∃ u : LaterC W (fun x => x = w), w' = u.val) = fun w' => w' = w := by
      funext w'
      apply propext
      constructor
      · rintro ⟨u, rfl⟩; exact u.s
      · rintro rfl; exact ⟨⟨w', hw, rfl⟩, rfl⟩
    have h1 := hq (fun x => x = w) ⟨⟨w, hw, rfl⟩⟩
    rw [hcl] at h1
    obtain ⟨us, hfin, htold⟩ := walk_list (ops := l.toArray) js _ hjnd hjlt h1
    refine ⟨us, hfin.symm, fun j hj hd => ?_, htold⟩
    obtain ⟨t, ht⟩ := Option.ne_none_iff_exists'.1 hd
    have hoj : l.toArray[j]? = some (l.toArray[j]'(hjlt j hj)) := Array.getElem?_eq_getElem (hjlt j hj)
    have hd2 : (l.toArray[j]'(hjlt j hj)).dst = some t := by rw [hoj] at ht; simpa using ht
    have hsd := sole_dst hsole hoj hd2
    have := (puts_get us t js a0).2 j (fun k hk hdk => by
      have hok : l.toArray[k]? = some (l.toArray[k]'(hjlt k hk)) := Array.getElem?_eq_getElem (hjlt k hk)
      rw [hok] at hdk
      have := (sole_dst hsole hok (by simpa using hdk)).1
      rw [hsd.1] at this
      exact (Option.some.inj this).symm) hj ht hsd.2
    rw [hfin] at this
    unfold valOf
    rw [ht]
    simp [this]
  have dstOf : ∀ {k t : Nat}, writer l.toArray t = some k → (l.toArray[k]?).bind (·.dst) = some t := fun hw => by
    obtain ⟨o, ho, hd⟩ := writer_some hw
    rw [ho]; exact hd
  have soleW : ∀ {k i t : Nat}, writer l.toArray t = some k → i < l.toArray.size → (l.toArray[i]?).bind (·.dst) = some t → i = k := fun hw hi hdi => by
    have hoi : l.toArray[_]? = some (l.toArray[_]'hi) := Array.getElem?_eq_getElem hi
    rw [hoi] at hdi
    have := (sole_dst hsole hoi (by simpa using hdi)).1
    rw [hw] at this
    exact (Option.some.inj this).symm
  have szT : ∀ {k t : Nat}, writer l.toArray t = some k → t < a0.tmps.size := fun hw => by
    obtain ⟨o, ho, hd⟩ := writer_some hw
    exact (sole_dst hsole ho hd).2
  have hkslt : ∀ k ∈ ks, k < l.toArray.size := fun k hk => by have := hltN k (List.mem_append_right _ hk); simp; omega
  -- the frames' slots
  have slotA : ∀ t, A.tmps[t]? = match writer l.toArray t with
      | some k => if k ∈ js then some (valOf l.toArray A k) else a0.tmps[t]?
      | none => a0.tmps[t]? := by
    intro t
    obtain ⟨us, hA, hus, _⟩ := get W.drew ((Below.refl _ _).drew)
    cases hw : writer l.toArray t with
    | none =>
      show A.tmps[t]? = a0.tmps[t]?
      rw [hA]
      refine (puts_get us t js a0).1 fun j hj hd => ?_
      have hoj : l.toArray[j]? = some (l.toArray[j]'(hjlt j hj)) := Array.getElem?_eq_getElem (hjlt j hj)
      rw [hoj] at hd
      exact writer_none hw hoj (by simpa using hd)
    | some k =>
      simp only []
      by_cases hk : k ∈ js
      · rw [if_pos hk]
        have h1 := hus k hk (by rw [dstOf hw]; simp)
        rw [← h1]
        conv => lhs; rw [hA]
        exact (puts_get us t js a0).2 k (fun i hi hdi => soleW hw (hjlt i hi) hdi) hk (dstOf hw) (szT hw)
      · rw [if_neg hk, hA]
        refine (puts_get us t js a0).1 fun i hi hdi => hk ?_
        rw [← soleW hw (hjlt i hi) hdi]
        exact hi
  have sizeA : A.tmps.size = a0.tmps.size := by
    obtain ⟨us, hA, _⟩ := get W.drew ((Below.refl _ _).drew)
    rw [hA, puts_size]
  have slotK : ∀ (vs : Nat → Value) t, (puts l.toArray vs ks A).tmps[t]? = match writer l.toArray t with
      | some k => if k ∈ ks then some (vs k) else A.tmps[t]?
      | none => A.tmps[t]? := by
    intro vs t
    cases hw : writer l.toArray t with
    | none =>
      refine (puts_get vs t ks A).1 fun j hj hd => ?_
      have hoj : l.toArray[j]? = some (l.toArray[j]'(hkslt j hj)) := Array.getElem?_eq_getElem (hkslt j hj)
      rw [hoj] at hd
      exact writer_none hw hoj (by simpa using hd)
    | some k =>
      simp only []
      by_cases hk : k ∈ ks
      · rw [if_pos hk]
        exact (puts_get vs t ks A).2 k (fun i hi hdi => soleW hw (hkslt i hi) hdi) hk (dstOf hw) (by rw [sizeA]; exact szT hw)
      · rw [if_neg hk]
        refine (puts_get vs t ks A).1 fun i hi hdi => hk ?_
        rw [← soleW hw (hkslt i hi) hdi]
        exact hi
  refine wp_region_inv2 N (fun D vs w => FlowI W l.toArray A js ks use G D vs w) hm hB0 ⟨(Below.refl _ _).drew, fun j hj h => (by cases h), fun i h => (by cases h.2.1), fun i i' h => (by cases h.2.1)⟩ ?_ ?_
  · intro j o hj ho D vs a w hDj hD hv hbase hun htail H
    have ho' : l.toArray[j]? = some o := by simpa using ho
    rcases List.mem_append.1 (hmem j hj) with hjm | hkm
    · -- a quiet one
      obtain ⟨us, hA, hus, htold⟩ := get w H.low
      obtain ⟨X, Y, hXY⟩ := List.append_of_mem hjm
      have hpre : preOf js j = X := by
        rw [hXY]
        refine pre_split fun hmX => ?_
        rw [hXY] at hjnd
        exact (List.nodup_append.1 hjnd).2.2 j hmX j List.mem_cons_self rfl
      have hchk := List.all_eq_true.1 hjs j hjm
      rw [ho'] at hchk
      have same : ∀ t, t ∈ o.looksAt l.toArray → a.tmps[t]? = (puts l.toArray us X a0).tmps[t]? := by
        intro t ht
        have hct := List.all_eq_true.1 hchk t ht
        cases hw : writer l.toArray t with
        | none =>
          rw [hbase t hw]
          refine ((puts_get us t X a0).1 fun i hi hd => ?_).symm
          have hil := hjlt i (by rw [hXY]; exact List.mem_append_left _ hi)
          have hoi : l.toArray[i]? = some (l.toArray[i]'hil) := Array.getElem?_eq_getElem hil
          rw [hoi] at hd
          exact writer_none hw hoi (by simpa using hd)
        | some k =>
          rw [hw] at hct
          simp only [Bool.or_eq_true, decide_eq_true_eq, Bool.and_eq_true] at hct
          rcases hct with hk | ⟨hk, hwait⟩
          · rw [hun k t (htail k hk) hw]
            refine ((puts_get us t X a0).1 fun i hi hd => ?_).symm
            have him : i ∈ js := by rw [hXY]; exact List.mem_append_left _ hi
            have := soleW hw (hjlt i him) hd
            have := hltN i (List.mem_append_left _ him)
            omega
          · rw [hpre] at hk
            have hkX : k ∈ X := by simpa using hk
            have hkj : k ∈ js := by rw [hXY]; exact List.mem_append_left _ hkX
            have hDk := hD k hwait
            rw [hv k t hDk hw, H.quiet k hkj hDk (by rw [dstOf hw]; simp), ← hus k hkj (by rw [dstOf hw]; simp)]
            exact ((puts_get us t X a0).2 k (fun i hi hdi => soleW hw (hjlt i (by rw [hXY]; exact List.mem_append_left _ hi)) hdi) hkX (dstOf hw) (szT hw)).symm
      have hexec : execOp a.eval o = execOp (puts l.toArray us X a0).eval o := by
        refine execOp_congr o (fun cs b => Region.noSelect_spec hsel j o cs b ho') fun x hx => ?_
        cases x with
        | tmp t =>
          have := same t (List.mem_append_left _ (List.mem_filterMap.2 ⟨.tmp t, by simpa using hx, rfl⟩))
          simp only [Act.eval, Array.getD_eq_getD_getElem?, this]
        | _ => rfl
      have hwant : Region.wanted o (yielded l.toArray a.tmps) = Region.wanted o (yielded l.toArray (puts l.toArray us X a0).tmps) := by
        unfold Region.wanted
        cases hg : o.guard with
        | none => rfl
        | some gw =>
          obtain ⟨g, want⟩ := gw
          have hy : yielded l.toArray a.tmps g = yielded l.toArray (puts l.toArray us X a0).tmps g := by
            unfold yielded
            cases ht : (l.toArray[g]?).bind (·.dst) with
            | none => rfl
            | some t =>
              have := same t (List.mem_append_right _ (by simp only [hg, ht]; simp))
              simp only [Option.bind_some, this]
          simp only [hy]
      have live : ∀ i, LiveK ks use (fset D j true) i → LiveK ks use D i ∧ i ≠ j := by
        rintro i ⟨h1, h2, h3⟩
        have hij : i ≠ j := fun e => hjk j hjm (by rw [← e]; exact h1)
        rw [fset_ne _ _ hij] at h2
        refine ⟨⟨h1, h2, fun k hk hu => ?_⟩, hij⟩
        have := h3 k hk hu
        have hkj : k ≠ j := fun e => hjk j hjm (by rw [← e]; exact hk)
        rwa [fset_ne _ _ hkj] at this
      have next : FlowI W l.toArray A js ks use G (fset D j true) (fset vs j (us j)) w := by
        refine ⟨H.low, fun i hi hDi hd => ?_, fun i h => ?_, fun i i' h h' hne => ?_⟩
        · by_cases e : i = j
          · subst e; rw [fset_same]; exact hus i hi hd
          · rw [fset_ne _ _ e] at hDi ⊢; exact H.quiet i hi hDi hd
        · obtain ⟨h1, h2⟩ := live i h
          rw [fset_ne _ _ h2]; exact H.gs i h1
        · obtain ⟨h1, h2⟩ := live i h
          obtain ⟨h1', h2'⟩ := live i' h'
          rw [fset_ne _ _ h2, fset_ne _ _ h2']; exact H.ap i i' h1 h1' hne
      unfold StepOf
      rcases htold X j Y o hXY ho' with ⟨hwt, hqt⟩ | ⟨hwt, hu⟩
      · rw [if_pos (by rw [hwant]; exact hwt)]
        refine Oper.wp_of_quiet (C := fun w' => w' = w) (K := fun a' => a' = a.put o.dst (us j)) rfl (fun a' w' hw' e => ⟨us j, e, by rw [hw']; exact next⟩) ⟨us j, fun w' hw' => ?_, rfl⟩
        have := hqt w' hw'
        unfold Oper.quietAt at this ⊢
        rw [hexec]; exact this
      · rw [if_neg (by rw [hwant, hwt]; simp), ← hu]
        exact next
    · -- one that makes something
      have hchk := List.all_eq_true.1 hks j hkm
      rw [ho'] at hchk
      simp only [Bool.and_eq_true, List.all_eq_true] at hchk
      obtain ⟨⟨⟨hg, hd⟩, hlook⟩, huse⟩ := hchk
      have usek : ∀ i ∈ use j, i ∈ ks ∧ D i = true ∧ ∀ k ∈ ks, i ∈ use k → k = j := by
        intro i hi
        obtain ⟨⟨h1, h2⟩, h3⟩ := huse i hi
        refine ⟨by simpa using h1, hD i h2, fun k hk hik => ?_⟩
        have := h3 k hk
        simp only [Bool.or_eq_true, beq_iff_eq, Bool.not_eq_true', List.contains_eq_mem, decide_eq_false_iff_not] at this
        exact this.resolve_right fun h => h hik
      have uselive : ∀ i ∈ use j, LiveK ks use D i := fun i hi => ⟨(usek i hi).1, (usek i hi).2.1, fun k hk hik => by rw [(usek i hi).2.2 k hk hik]; exact hDj⟩
      have hM := hmake j o hkm ho vs w H.low (fun i hi => H.gs i (uselive i hi)) (fun i hi i' hi' hne b hb => H.ap i i' (uselive i hi) (uselive i' hi') hne b hb)
      have same : ∀ t, t ∈ o.looksAt l.toArray → a.tmps[t]? = (puts l.toArray vs ks A).tmps[t]? := by
        intro t ht
        have hct := hlook t ht
        rw [slotK vs t, slotA t]
        cases hw : writer l.toArray t with
        | none => exact hbase t hw
        | some k =>
          rw [hw] at hct
          simp only [Bool.or_eq_true, decide_eq_true_eq, Bool.and_eq_true] at hct
          simp only []
          rcases hct with hk | ⟨hk, hwait⟩
          · have k1 : k ∉ ks := fun h => by have := hltN k (List.mem_append_right _ h); omega
            have k2 : k ∉ js := fun h => by have := hltN k (List.mem_append_left _ h); omega
            rw [if_neg k1, if_neg k2]
            exact hun k t (htail k hk) hw
          · have hDk := hD k hwait
            rw [hv k t hDk hw]
            by_cases hkk : k ∈ ks
            · rw [if_pos hkk]
            · have hkj : k ∈ js := (List.mem_append.1 (by simpa using hk)).resolve_right hkk
              rw [if_neg hkk, if_pos hkj, H.quiet k hkj hDk (by rw [dstOf hw]; simp)]
      have hexec : execOp a.eval o = execOp (puts l.toArray vs ks A).eval o := by
        refine execOp_congr o (fun cs b => Region.noSelect_spec hsel j o cs b ho') fun x hx => ?_
        cases x with
        | tmp t =>
          have := same t (List.mem_append_left _ (List.mem_filterMap.2 ⟨.tmp t, by simpa using hx, rfl⟩))
          simp only [Act.eval, Array.getD_eq_getD_getElem?, this]
        | _ => rfl
      have hwt : Region.wanted o (yielded l.toArray a.tmps) = true := wanted_plain (by simpa using hg) _
      have next : ∀ v w', (G j v w' ∧ (∀ b, v.ownBlock = some b → w.heap.size ≤ b ∨ ∃ i ∈ use j, (vs i).ownBlock = some b) ∧ Sole (fun b => ∃ i ∈ use j, (vs i).ownBlock = some b) w w') → FlowI W l.toArray A js ks use G (fset D j true) (fset vs j v) w' := by
        rintro v w' ⟨g1, g2, g3⟩
        have live : ∀ i, LiveK ks use (fset D j true) i → i ≠ j → LiveK ks use D i ∧ i ∉ use j := by
          rintro i ⟨h1, h2, h3⟩ hij
          rw [fset_ne _ _ hij] at h2
          have hnu : i ∉ use j := fun hu => by
            have := h3 j hkm hu
            rw [fset_same] at this; cases this
          refine ⟨⟨h1, h2, fun k hk hu => ?_⟩, hnu⟩
          have hkj : k ≠ j := fun e => hnu (e ▸ hu)
          have := h3 k hk hu
          rwa [fset_ne _ _ hkj] at this
        have far : ∀ i, LiveK ks use D i → i ∉ use j → ∀ b, (vs i).ownBlock = some b → ¬ ∃ i' ∈ use j, (vs i').ownBlock = some b := by
          rintro i hl hnu b hb ⟨i', hi', hb'⟩
          exact H.ap i i' hl (uselive i' hi') (fun e => hnu (e ▸ hi')) b hb hb'
        refine ⟨?_, fun i hi hDi hdi => ?_, fun i h => ?_, fun i i' h h' hne b hb hb' => ?_⟩
        · refine H.low.trans (g3.below H.low.size fun b hb => ?_)
          obtain ⟨i, hi, hbi⟩ := hb
          exact (hown i _ _ (H.gs i (uselive i hi)) b hbi).1
        · have hij : i ≠ j := fun e => hjk i hi (e ▸ hkm)
          rw [fset_ne _ _ hij] at hDi ⊢
          exact H.quiet i hi hDi hdi
        · by_cases e : i = j
          · subst e; rw [fset_same]; exact g1
          · obtain ⟨h1, h2⟩ := live i h e
            rw [fset_ne _ _ e]
            exact hG i _ _ _ _ (H.gs i h1) g3 (far i h1 h2)
        · by_cases e : i = j
          · subst e
            have e' : i' ≠ i := fun e => hne e.symm
            obtain ⟨h1, h2⟩ := live i' h' e'
            rw [fset_same] at hb
            rw [fset_ne _ _ e'] at hb'
            rcases g2 b hb with hbw | hbu
            · have := (hown i' _ _ (H.gs i' h1) b hb').2
              omega
            · exact far i' h1 h2 b hb' hbu
          · obtain ⟨h1, h2⟩ := live i h e
            rw [fset_ne _ _ e] at hb
            by_cases e' : i' = j
            · subst e'
              rw [fset_same] at hb'
              rcases g2 b hb' with hbw | hbu
              · have := (hown i _ _ (H.gs i h1) b hb).2
                omega
              · exact far i h1 h2 b hb hbu
            · obtain ⟨h1', h2'⟩ := live i' h' e'
              rw [fset_ne _ _ e'] at hb'
              exact H.ap i i' h1 h1' hne b hb hb'
      rcases hM with ⟨v, w', hr, hK⟩ | ⟨f, args, hr, hC⟩
      · exact StepOf.value v hwt (by rw [hexec]; exact hr) (next v w' hK)
      · refine StepOf.call f args hwt (by rw [hexec]; exact hr) (hC.mono ?_)
        rintro e w' ⟨v, rfl, hK⟩
        exact ⟨v, rfl, next v w' hK⟩
  · intro D vs w hall' H
    have e : puts l.toArray vs (List.range N) a0 = puts l.toArray vs ks A := by
      have hsz : ∀ (us : Nat → Value) (L : List Nat) (b : Act), (puts l.toArray us L b).tmps.size = b.tmps.size := fun us L b => puts_size us L b
      have e1 : (puts l.toArray vs (List.range N) a0).tmps = (puts l.toArray vs ks A).tmps := by
        apply Array.ext_getElem?
        intro t
        rw [slotK vs t, slotA t]
        cases hw : writer l.toArray t with
        | none =>
          refine (puts_get vs t _ _).1 fun i hi hd => ?_
          have hil : i < l.toArray.size := by have := List.mem_range.1 hi; simp; omega
          have hoi : l.toArray[i]? = some (l.toArray[i]'hil) := Array.getElem?_eq_getElem hil
          rw [hoi] at hd
          exact writer_none hw hoi (by simpa using hd)
        | some k =>
          simp only []
          have hil : ∀ i ∈ List.range N, i < l.toArray.size := fun i hi => by have := List.mem_range.1 hi; simp; omega
          by_cases hk : k < N
          · rw [(puts_get vs t (List.range N) a0).2 k (fun i hi hdi => soleW hw (hil i hi) hdi) (List.mem_range.2 hk) (dstOf hw) (szT hw)]
            by_cases hkk : k ∈ ks
            · rw [if_pos hkk]
            · have hkj : k ∈ js := (List.mem_append.1 (hmem k hk)).resolve_right hkk
              rw [if_neg hkk, if_pos hkj, H.quiet k hkj (hall' k hk) (by rw [dstOf hw]; simp)]
          · have k1 : k ∉ ks := fun h => hk (hltN k (List.mem_append_right _ h))
            have k2 : k ∉ js := fun h => hk (hltN k (List.mem_append_left _ h))
            rw [if_neg k1, if_neg k2]
            refine (puts_get vs t _ _).1 fun i hi hdi => hk ?_
            rw [← soleW hw (hil i hi) hdi]
            exact List.mem_range.1 hi
      have e2 : (puts l.toArray vs (List.range N) a0).defers = (puts l.toArray vs ks A).defers := by
        obtain ⟨us, hA, _⟩ := get W.drew ((Below.refl _ _).drew)
        rw [puts_defers, puts_defers, hA, puts_defers]
      cases hp : puts l.toArray vs (List.range N) a0
      cases hq' : puts l.toArray vs ks A
      rw [hp, hq'] at e1 e2
      simp only at e1 e2
      subst e1 e2
      rfl
    rw [e]
    refine hend vs w H.low fun k hk hnu => H.gs k ⟨hk, hall' k (hltN k (List.mem_append_right _ hk)), fun k' hk' hu => absurd hu (hnu k' hk')⟩
theorem quiet_sl {ops : Array Oper} {C : World → Prop} {Q : Act → Prop} {o : Oper} {rest : List Oper} {a : Act} {t : TypeId} {x : Operand} {lo hi mx : Option Operand} (ho : o.op = .slice t x lo hi mx) (hg : o.guard = none) (v : Value)
    (hr : ∀ w, (Instr.sliceAt t (a.eval x) (lo.map a.eval) (hi.map a.eval) (mx.map a.eval)).run P w = .ok v w) (h : wpQuiet P ops C Q rest (a.put o.dst v)) : wpQuiet P ops C Q (o :: rest) a := by
  unfold wpQuiet
  rw [if_pos (by simp [Region.wanted, hg])]
  refine ⟨v, fun w _ => ?_, h⟩
  unfold Oper.quietAt
  have : (execOp a.eval o).run P w = .ok (.value v) w := by simp [execOp, ho, hr, Result.andThen]
  rw [this]
  exact ⟨rfl, rfl⟩
/-- An append of the region, as a run. -/
theorem exec_append {w w' : World} {o : Oper} {a : Act} {s x : Operand} {t tn : TypeId} (ho : o.op = .call { callee := .builtin .append, args := #[s, x], argTypes := #[t, tn] }) {vs vx v' : Value} (hs : a.eval s = vs) (hx : a.eval x = vx)
    (hr : (Builtin.append_ #[t, tn] o.type #[vs, vx]).run P w = .ok v' w') : (execOp a.eval o).run P w = .ok (.value v') w' := by
  unfold execOp
  simp only [ho, resolve, invoke, builtin, Sem.run_bind, Sem.run_pure, Result.andThen_ok, List.map_toArray, List.map_cons, List.map_nil, hs, hx, hr]
end
end Go.Proofs.Ytfijkbgbhaoilaa
