/-
  A region that draws its order: quiet operations, one call among them whose value nobody knows ahead (a new slice, say), and the others one by one behind them.
-/
import Derived.Test.YtpgibngohbohdaaRegionAlloc
namespace Go.Proofs.Ytpgibngohbohdaa
open Go.RowKit

section
variable {P : Program} {ops : Array Oper}

/-- What is told of operation j with these values, in the walk's own frame. -/
def ToldAs (P : Program) (l : List Oper) (C : World → Prop) (a0 : Act) (ws : Nat → Value) (j : Nat) (o : Oper) : Prop :=
  ∃ v, (o.dst ≠ none → v = ws j) ∧ Told P l.toArray C o v (puts l.toArray ws (List.range j) a0)

/-- The frame of the walk with these values. -/
theorem lex_of {l : List Oper} {a0 : Act} {ws : Nat → Value} {N : Nat} (hN : N ≤ l.length) (hsole : soleB l.toArray a0.tmps.size = true) (j t : Nat) (hj : j ≤ N) :
    (puts l.toArray ws (List.range j) a0).tmps[t]? = match writer l.toArray t with
      | some k => if k < j then some (ws k) else a0.tmps[t]?
      | none => a0.tmps[t]? := by
  have hsz : l.toArray.size = l.length := by simp
  cases hw : writer l.toArray t with
  | none =>
    refine (puts_get ws t _ _).1 fun i hi hd => ?_
    have hlt : i < l.toArray.size := by have := List.mem_range.1 hi; omega
    have hoi : l.toArray[i]? = some l.toArray[i] := Array.getElem?_eq_getElem hlt
    rw [hoi] at hd
    exact writer_none hw hoi hd
  | some k =>
    obtain ⟨o, ho, hd⟩ := writer_some hw
    have hsole' : ∀ i, i < l.toArray.size → (l.toArray[i]?).bind (·.dst) = some t → i = k := fun i hi hdi => by
      have hoi : l.toArray[i]? = some l.toArray[i] := Array.getElem?_eq_getElem hi
      rw [hoi] at hdi
      have := (sole_dst hsole hoi hdi).1
      rw [hw] at this
      exact (Option.some.inj this).symm
    by_cases hk : k < j
    · simp only [hk, if_true]
      exact (puts_get ws t _ _).2 k (fun i hi hdi => hsole' i (by have := List.mem_range.1 hi; omega) hdi) (List.mem_range.2 hk) (by rw [ho]; exact hd) (sole_dst hsole ho hd).2
    · simp only [hk, if_false]
      refine (puts_get ws t _ _).1 fun i hi hdi => hk ?_
      have h1 := List.mem_range.1 hi
      rw [← hsole' i (by omega) hdi]
      exact h1

/-- The frame behind one more. -/
theorem mid_put {l : List Oper} {a0 a : Act} {ws : Nat → Value} {L : Array Bool} {j : Nat} {o : Oper} {v : Value} (hsole : soleB l.toArray a0.tmps.size = true) (mid : Mid l.toArray a0 ws L a) (ho : l.toArray[j]? = some o) (hjs : j < L.size)
    (hv : o.dst ≠ none → v = ws j) : Mid l.toArray a0 ws (L.setIfInBounds j true) (a.put o.dst v) := by
  refine ⟨by rw [put_defers]; exact mid.defers, by rw [put_size]; exact mid.size, fun t => ?_⟩
  rw [put_get]
  by_cases hd : o.dst = some t
  · obtain ⟨hw, ht⟩ := sole_dst hsole ho hd
    rw [if_pos ⟨hd, by rw [mid.size]; exact ht⟩, hw]
    simp [hjs, hv (by rw [hd]; simp)]
  · rw [if_neg (fun h => hd h.1), mid.slot t]
    cases hw : writer l.toArray t with
    | none => rfl
    | some k =>
      have hkj : j ≠ k := by
        rintro rfl
        obtain ⟨o', ho', hd'⟩ := writer_some hw
        rw [ho] at ho'; cases ho'
        exact hd hd'
      simp only []
      rw [getD_set_ne false hkj]

/-- Whatever order: the quiet ones by their walk, the special ones as is told of them. -/
theorem run_mid {Q : Exit → Act → World → Prop} {a0 : Act} {l : List Oper} {C : World → Prop} {N : Nat} (ws : Nat → Value) (special : Nat → Prop) (J : Array Bool → Prop)
    (hB : quietTailB l.toArray N a0.tmps.size = true)
    (hJ : ∀ L j, J L → ¬ special j → J (L.setIfInBounds j true))
    (htold : ∀ j o, j < N → ¬ special j → l.toArray[j]? = some o → ToldAs P l C a0 ws j o)
    (hspec : ∀ (fuel j : Nat) (o : Oper) (L : Array Bool) (a : Act) (w : World), special j → j < N → l.toArray[j]? = some o → J L → Mid l.toArray a0 ws L a → HeadInv .any l.toArray N L → C w → L.toList.count false = fuel + 1 → j ∈ Region.ready .any l.toArray L →
      (∀ t, t ∈ o.looksAt l.toArray → a.tmps[t]? = (puts l.toArray ws (List.range j) a0).tmps[t]?) → wpOp P l.toArray Q j (wpAny P .any l.toArray Q fuel (L.setIfInBounds j true)) a w)
    (hfin : ∀ L w', J L → (∀ i, i < N → L.getD i false = true) → C w' → wpList P l.toArray Q (l.drop N) (puts l.toArray ws (List.range N) a0) w') :
    ∀ (fuel : Nat) (L : Array Bool) (a : Act) (w : World), J L → Mid l.toArray a0 ws L a → HeadInv .any l.toArray N L → C w → L.toList.count false = fuel → wpAny P .any l.toArray Q fuel L a w := by
  simp only [quietTailB, Bool.and_eq_true, decide_eq_true_eq] at hB
  obtain ⟨⟨⟨⟨⟨⟨hsel, hn⟩, hs⟩, hc⟩, hsole⟩, hseen⟩, hseq⟩ := hB
  have hn' : N < l.length := by simpa using hn
  have lex := fun j t hj => lex_of (ws := ws) (N := N) (by omega) hsole j t hj
  intro fuel
  induction fuel with
  | zero =>
    intro L a w hJL mid inv hCw hcnt
    exfalso
    have h1 := inv.tail N (Nat.le_refl _) hn
    have hl : N < L.size := by rw [inv.size]; exact hn
    have : false ∈ L.toList := by
      have h2 : L[N] = false := by simpa [hl] using h1
      rw [← h2]; simp
    have := List.count_pos_iff.2 this
    omega
  | succ fuel ih =>
    intro L a w hJL mid inv hCw hcnt
    by_cases hall : ∀ i, i < N → L.getD i false = true
    · have hL : L = Array.ofFn fun i : Fin l.toArray.size => decide (i.val < N) := by
        apply Array.ext
        · simp [inv.size]
        · intro i h1 h2
          have hi : i < l.toArray.size := by rw [← inv.size]; exact h1
          simp only [Array.getElem_ofFn]
          by_cases hin : i < N
          · have := hall i hin
            simp [h1] at this
            simp [hin, this]
          · have := inv.tail i (by omega) hi
            simp [h1] at this
            simp [hin, this]
      have ha : a = puts l.toArray ws (List.range N) a0 := by
        have e1 : a.tmps = (puts l.toArray ws (List.range N) a0).tmps := by
          apply Array.ext_getElem?
          intro t
          rw [mid.slot t, lex N t (Nat.le_refl _)]
          cases hw : writer l.toArray t with
          | none => rfl
          | some k =>
            simp only []
            by_cases hk : k < N
            · rw [if_pos (hall k hk), if_pos hk]
            · rw [if_neg hk, if_neg]
              obtain ⟨o, ho, _⟩ := writer_some hw
              have := getD_both (inv.tail k (by omega) (Array.getElem?_eq_some_iff.1 ho).1)
              rw [this]; simp
        have e2 : a.defers = (puts l.toArray ws (List.range N) a0).defers := by rw [mid.defers]; exact (puts_defers ws _ _).symm
        cases a
        cases hp : puts l.toArray ws (List.range N) a0
        simp only [hp] at e1 e2
        subst e1 e2
        rfl
      have hfin' := hfin L w hJL hall hCw
      have hcnt2 : fuel + 1 = (l.drop N).length := by
        rw [← hcnt, hL]
        simp only [Array.toList_ofFn, List.length_drop]
        have gen : ∀ (m n : Nat), ((List.ofFn fun i : Fin m => decide (i.val < n)).count false) = m - n := by
          intro m
          induction m with
          | zero => intro n; simp
          | succ m ihm =>
            intro n
            cases n with
            | zero =>
              have := ihm 0
              simp [List.ofFn_succ] at this ⊢
              omega
            | succ n =>
              have := ihm n
              simp [List.ofFn_succ] at this ⊢
              omega
        simpa using gen l.toArray.size N
      rw [hcnt2]
      refine wpAny_of_seq (md := .any) (l.drop N) N L a w (fun j => by simp [List.getElem?_drop]) ?_ ?_
      · rw [hL]
        have e : (l.drop N).length = l.toArray.size - N := by simp
        rw [e]; exact hseq
      · rw [ha]; exact hfin'
    · have hex : ∃ i, i < N ∧ L.getD i true = false := by
        refine Classical.byContradiction fun hno => hall fun i hi => ?_
        cases hg : L.getD i true with
        | false => exact absurd ⟨i, hi, hg⟩ hno
        | true =>
          have hl : i < L.size := by rw [inv.size]; omega
          simp [hl] at hg ⊢
          exact hg
      obtain ⟨i0, hi0, hun0⟩ := hex
      have hready : ∀ j ∈ Region.ready .any l.toArray L, j < N := fun j hj => by
        rcases Nat.lt_or_ge j N with h | h
        · exact h
        · exact absurd hj (tail_waits hs hc hn inv _ i0 rfl hi0 hun0 j h)
      have hne : Region.ready .any l.toArray L ≠ [] := by
        intro hnil
        have hl : ∀ j, j < N → L.getD j false = true := by
          intro j
          induction j using Nat.strongRecOn with
          | _ j ihj =>
            intro hj
            cases hlj : L.getD j false with
            | true => rfl
            | false =>
              exfalso
              have hjo : j < l.toArray.size := by omega
              have hoj : l.toArray[j]? = some l.toArray[j] := Array.getElem?_eq_getElem hjo
              have : j ∈ Region.ready .any l.toArray L := mem_ready.2 ⟨getD_in (by rw [inv.size]; exact hjo) hlj, _, hoj, fun e he hb => by
                have := seen_after hseen hoj hj he hb
                exact ihj e.on this (by omega)⟩
              rw [hnil] at this
              cases this
        exact hall hl
      refine ⟨fun hr => absurd hr hne, fun j hj => ?_⟩
      have hjn := hready j hj
      obtain ⟨hun, o, ho, hpre⟩ := mem_ready.1 hj
      have hjs : j < L.size := by rw [inv.size]; omega
      have same : ∀ t, t ∈ o.looksAt l.toArray → a.tmps[t]? = (puts l.toArray ws (List.range j) a0).tmps[t]? := by
        intro t ht
        rw [mid.slot t, lex j t (by omega)]
        cases hw : writer l.toArray t with
        | none => rfl
        | some k =>
          simp only []
          rcases seen hseen ho hjn ht hw with hk | ⟨hk, hwait⟩
          · obtain ⟨o', ho', _⟩ := writer_some hw
            have := getD_both (inv.tail k hk (Array.getElem?_eq_some_iff.1 ho').1)
            rw [if_neg (by rw [this]; simp), if_neg (by omega)]
          · obtain ⟨oj, hoj, e, he, hb, hon⟩ := Region.waitsFor_spec hwait
            have : oj = o := Option.some.inj (hoj.symm.trans ho)
            subst this
            have := hpre e he hb
            rw [hon] at this
            rw [if_pos this, if_pos hk]
      by_cases hsp : special j
      · exact hspec fuel j o L a w hsp hjn ho hJL mid inv hCw hcnt hj same
      · have hexec : execOp a.eval o = execOp (puts l.toArray ws (List.range j) a0).eval o := by
          refine execOp_congr o (fun cs b => Region.noSelect_spec hsel j o cs b ho) fun x hx => ?_
          cases x with
          | tmp t =>
            have := same t (List.mem_append_left _ (List.mem_filterMap.2 ⟨.tmp t, by simpa using hx, rfl⟩))
            simp only [Act.eval, Array.getD_eq_getD_getElem?, this]
          | _ => rfl
        have hwant : Region.wanted o (yielded l.toArray a.tmps) = Region.wanted o (yielded l.toArray (puts l.toArray ws (List.range j) a0).tmps) := by
          unfold Region.wanted
          cases hg : o.guard with
          | none => rfl
          | some gw =>
            obtain ⟨g, want⟩ := gw
            have hy : yielded l.toArray a.tmps g = yielded l.toArray (puts l.toArray ws (List.range j) a0).tmps g := by
              unfold yielded
              cases ht : (l.toArray[g]?).bind (·.dst) with
              | none => rfl
              | some t =>
                have := same t (List.mem_append_right _ (by simp only [hg, ht]; simp))
                simp only [Option.bind_some, this]
            simp only [hy]
        have hcnt' : (L.setIfInBounds j true).toList.count false = fuel := by
          have := count_set L.toList j (by simp [hjs] at hun ⊢; exact hun)
          simp only [Array.toList_setIfInBounds]
          omega
        obtain ⟨v, hv, told⟩ := htold j o hjn hsp ho
        have next : ∀ w', C w' → wpAny P .any l.toArray Q fuel (L.setIfInBounds j true) (a.put o.dst v) w' := fun w' hw' => ih _ _ _ (hJ L j hJL hsp) (mid_put hsole mid ho hjs hv) (inv.set hj hjn) hw' hcnt'
        unfold wpOp
        simp only [ho]
        rcases told with ⟨hwt, hq⟩ | ⟨hwt, hu⟩
        · rw [if_pos (by rw [hwant]; exact hwt)]
          left
          refine Oper.wp_of_quiet (C := C) (K := fun a' => a' = a.put o.dst v) hCw (fun a' w' hw' e => e ▸ next w' hw') ⟨v, fun w' hw' => ?_, rfl⟩
          have := hq w' hw'
          unfold Oper.quietAt at this ⊢
          rw [hexec]; exact this
        · rw [if_neg (by rw [hwant, hwt]; simp), ← hu]
          exact next w hCw

/-- Behind the operation n all others of the first N wait for it, straight or by others. -/
def wildB (ops : Array Oper) (n N : Nat) : Bool :=
  (List.range N).all fun j => decide (j ≤ n) || (List.range j).any fun k => decide (n ≤ k) && Region.waitsFor .any ops j k

theorem wild_waits {n N j : Nat} (h : wildB ops n N = true) (hj : j < N) (hn : n < j) : ∃ k, n ≤ k ∧ k < j ∧ Region.waitsFor .any ops j k = true := by
  have := List.all_eq_true.1 h j (List.mem_range.2 hj)
  simp only [Bool.or_eq_true, decide_eq_true_eq] at this
  rcases this with h | h
  · omega
  · obtain ⟨k, hk, h2⟩ := List.any_eq_true.1 h
    simp only [Bool.and_eq_true, decide_eq_true_eq] at h2
    exact ⟨k, h2.1, List.mem_range.1 hk, h2.2⟩

/-- **THE RULE.** The operation n is a call; of its value v and the world behind it G v is known, which lasts. -/
theorem wp_region_late_wild {id : Nat} {Q : Exit → Act → World → Prop} {a0 : Act} {W : World} {l : List Oper} (n N : Nat) (A : Act) (G : Value → World → Prop) (hG : ∀ v, Stable (G v)) (hm : P.follows .mixedOrders = true)
    (hB : quietTailB l.toArray N a0.tmps.size = true) (hW : wildB l.toArray n N = true) (hnN : n < N)
    (h : ∀ S, Stable S → Nonempty (LaterC W S) → wpQuiet P l.toArray (fun w' => ∃ u : LaterC W S, w' = u.val) (fun a' => a' = A) (l.take n) a0)
    (hc : ∃ o f args, l[n]? = some o ∧ o.dst ≠ none ∧ Region.wanted o (yielded l.toArray A.tmps) = true ∧ (∀ w, (execOp A.eval o).run P w = .ok (.enter f args) w) ∧
      ∀ u : Later W, Calls P f args u.val fun e w' => ∃ v, e = .returned v ∧ Below u.val.heap.size u.val w' ∧ G v w')
    (h2 : ∀ v, Nonempty (LaterC W (G v)) → wpQuiet P l.toArray (fun w' => ∃ u : LaterC W (G v), w' = u.val) (fun a' => ∀ w', (∃ u : LaterC W (G v), w' = u.val) → wpList P l.toArray Q (l.drop N) a' w')
      ((l.drop (n + 1)).take (N - (n + 1))) (A.put ((l.toArray[n]?).bind (·.dst)) v)) : (Code.region id l.toArray true).wp P Q a0 W := by
  have hB0 := hB
  simp only [quietTailB, Bool.and_eq_true, decide_eq_true_eq] at hB
  obtain ⟨⟨⟨⟨⟨⟨hsel, hn⟩, hs⟩, hch⟩, hsole⟩, hseen⟩, hseq⟩ := hB
  have hNl : N < l.length := by simpa using hn
  have hsz : l.toArray.size = l.length := by simp
  have htl : (l.take n).length = n := by simp; omega
  have hr0 : ∀ m, List.range' 0 m = List.range m := fun m => (List.range_eq_range' (n := m)).symm
  obtain ⟨on, f, args, hon, hdn, hwn, hrun, hcall⟩ := hc
  have hon' : l.toArray[n]? = some on := by simpa using hon
  -- the values of the first n, once for all
  let vs : Nat → Value := valOf l.toArray A
  have told : ∀ S, Stable S → Nonempty (LaterC W S) → A = puts l.toArray vs (List.range n) a0 ∧ ∀ j o, j < n → l.toArray[j]? = some o → ∃ v, (o.dst ≠ none → v = vs j) ∧ Told P l.toArray (fun w' => ∃ u : LaterC W S, w' = u.val) o v (puts l.toArray vs (List.range j) a0) := by
    intro S hS hN
    obtain ⟨us, hfin, htold⟩ := walk_told (ops := l.toArray) (l.take n) 0 a0 (fun i hi => by
      have hi' : i < n := by rw [htl] at hi; exact hi
      simp [hi']) (h S hS hN)
    rw [htl, hr0] at hfin
    have hus : ∀ j, j < n → (l.toArray[j]?).bind (·.dst) ≠ none → us j = vs j := by
      intro j hj hd
      obtain ⟨t, ht⟩ := Option.ne_none_iff_exists'.1 hd
      have hlt : j < l.toArray.size := by simp; omega
      have hoj : l.toArray[j]? = some l.toArray[j] := Array.getElem?_eq_getElem hlt
      have hd2 : l.toArray[j].dst = some t := by rw [hoj] at ht; simpa using ht
      have hsd := sole_dst hsole hoj hd2
      have := (puts_get us t (List.range n) a0).2 j (fun k hk hdk => by
        have hkl : k < l.toArray.size := by have := List.mem_range.1 hk; simp; omega
        have hok : l.toArray[k]? = some l.toArray[k] := Array.getElem?_eq_getElem hkl
        rw [hok] at hdk
        have := (sole_dst hsole hok (by simpa using hdk)).1
        rw [hsd.1] at this
        exact (Option.some.inj this).symm) (List.mem_range.2 hj) ht hsd.2
      rw [hfin] at this
      show us j = valOf l.toArray A j
      unfold valOf
      rw [ht]
      simp [this]
    refine ⟨?_, fun j o hj ho => ⟨us j, fun hd => hus j hj (by rw [ho]; simpa using hd), ?_⟩⟩
    · rw [← hfin]
      exact puts_val _ _ fun j hj hd => hus j (List.mem_range.1 hj) hd
    · have := htold j o (by rw [htl]; exact hj) (by rw [Nat.zero_add]; exact ho)
      rw [Nat.zero_add, hr0] at this
      have e : puts l.toArray us (List.range j) a0 = puts l.toArray vs (List.range j) a0 := puts_val _ _ fun k hk hd => hus k (by have := List.mem_range.1 hk; omega) hd
      rw [← e]; exact this
  have hT : Stable (fun _ => True) := fun _ _ _ _ => trivial
  obtain ⟨hAeq, told0⟩ := told (fun _ => True) hT ⟨⟨W, Below.refl _ _, trivial⟩⟩
  refine wp_region_any hm ?_
  refine run_mid (C := fun w' => ∃ u : LaterC W (fun _ => True), w' = u.val) (N := N) vs (fun j => n ≤ j) (fun L => ∀ j, n ≤ j → L.getD j false = false) hB0 ?_ ?_ ?_ ?_ l.toArray.size _ a0 W.drew ?_ ⟨rfl, rfl, fun t => ?_⟩
    ⟨by simp, fun j oj _ hl => (by rw [getD_replicate_false] at hl; cases hl), fun t _ ht => getD_in (by simpa using ht) (getD_replicate_false _ _)⟩ ⟨⟨W.drew, Below.drew (Below.refl _ _), trivial⟩, rfl⟩ (by simp)
  · intro L j hJ hj k hk
    rw [getD_set_ne false (by omega)]
    exact hJ k hk
  · intro j o hjN hj ho
    exact told0 j o (by omega) ho
  · intro fuel j o L a w hj hjN ho hJ mid inv hCw hcnt hrd same
    obtain ⟨hun, o', ho', hpre⟩ := mem_ready.1 hrd
    have e1 : o' = o := Option.some.inj (ho'.symm.trans ho)
    subst e1
    have hjs : j < L.size := by rw [inv.size]; omega
    -- none behind n is ready ahead of it
    have hjn : j = n := by
      rcases Nat.lt_or_eq_of_le hj with h1 | h1
      · exfalso
        obtain ⟨k, hk1, hk2, hw⟩ := wild_waits hW hjN h1
        obtain ⟨oj, hoj, e, he, hb, hon⟩ := Region.waitsFor_spec hw
        have : oj = o' := Option.some.inj (hoj.symm.trans ho)
        subst this
        have := hpre e he hb
        rw [hon, hJ k hk1] at this
        cases this
      · exact h1.symm
    subst hjn
    have e2 : on = o' := Option.some.inj (hon'.symm.trans ho)
    subst e2
    have hcnt' : (L.setIfInBounds j true).toList.count false = fuel := by
      have := count_set L.toList j (by simp [hjs] at hun ⊢; exact hun)
      simp only [Array.toList_setIfInBounds]
      omega
    rw [← hAeq] at same
    have hexec : execOp a.eval on = execOp A.eval on := by
      refine execOp_congr on (fun cs b => Region.noSelect_spec hsel j on cs b ho) fun x hx => ?_
      cases x with
      | tmp t =>
        have := same t (List.mem_append_left _ (List.mem_filterMap.2 ⟨.tmp t, by simpa using hx, rfl⟩))
        simp only [Act.eval, Array.getD_eq_getD_getElem?, this]
      | _ => rfl
    have hwant : Region.wanted on (yielded l.toArray a.tmps) = Region.wanted on (yielded l.toArray A.tmps) := by
      unfold Region.wanted
      cases hg : on.guard with
      | none => rfl
      | some gw =>
        obtain ⟨g, want⟩ := gw
        have hy : yielded l.toArray a.tmps g = yielded l.toArray A.tmps g := by
          unfold yielded
          cases ht : (l.toArray[g]?).bind (·.dst) with
          | none => rfl
          | some t =>
            have := same t (List.mem_append_right _ (by simp only [hg, ht]; simp))
            simp only [Option.bind_some, this]
        simp only [hy]
    unfold wpOp
    simp only [ho]
    rw [if_pos (by rw [hwant]; exact hwn)]
    left
    unfold Oper.wp
    rw [hexec, hrun w, Oper.upon_enter]
    obtain ⟨u0, rfl⟩ := hCw
    refine (hcall ⟨u0.val, u0.h⟩).mono ?_
    rintro e w' ⟨v, rfl, hb, hg⟩
    show wpAny P .any l.toArray Q fuel (L.setIfInBounds j true) (a.put on.dst v) w'
    have hne : Nonempty (LaterC W (G v)) := ⟨⟨w', u0.h.trans (hb.mono u0.h.size), hg⟩⟩
    obtain ⟨us, hfin, htold⟩ := walk_told (ops := l.toArray) ((l.drop (j + 1)).take (N - (j + 1))) (j + 1) _ (fun i hi => by
      have hi' : i < N - (j + 1) := by simp at hi; omega
      simp [hi']) (h2 v hne)
    have hlen : ((l.drop (j + 1)).take (N - (j + 1))).length = N - (j + 1) := by simp; omega
    rw [hlen] at hfin
    let ws : Nat → Value := fun k => if k < j then vs k else if k = j then v else us k
    have wlt : ∀ k, k < j → ws k = vs k := fun k hk => if_pos hk
    have wj : ws j = v := by show (if j < j then vs j else if j = j then v else us j) = v; rw [if_neg (by omega), if_pos rfl]
    have wgt : ∀ k, j < k → ws k = us k := fun k hk => by show (if k < j then vs k else if k = j then v else us k) = us k; rw [if_neg (by omega), if_neg (by omega)]
    have pl : ∀ k, k ≤ j → puts l.toArray ws (List.range k) a0 = puts l.toArray vs (List.range k) a0 := fun k hk => puts_congr _ _ fun i hi => wlt i (by have := List.mem_range.1 hi; omega)
    have pj : puts l.toArray ws (List.range (j + 1)) a0 = A.put ((l.toArray[j]?).bind (·.dst)) v := by
      rw [List.range_succ, puts_snoc, pl j (Nat.le_refl _), ← hAeq, wj]
    have pg : ∀ m, puts l.toArray ws (List.range (j + 1 + m)) a0 = puts l.toArray us (List.range' (j + 1) m) (A.put ((l.toArray[j]?).bind (·.dst)) v) := by
      intro m
      have e1 : List.range (j + 1 + m) = List.range (j + 1) ++ List.range' (j + 1) m := by
        rw [List.range_eq_range', List.range_eq_range', List.range'_append_1.symm]
        simp
      rw [e1]
      have e2 : puts l.toArray ws (List.range (j + 1) ++ List.range' (j + 1) m) a0 = puts l.toArray ws (List.range' (j + 1) m) (puts l.toArray ws (List.range (j + 1)) a0) := by
        unfold puts; rw [List.foldl_append]
      rw [e2, pj]
      exact puts_congr _ _ fun k hk => wgt k (by have := (List.mem_range'_1.1 hk).1; omega)
    refine run_mid (C := fun w' => ∃ u : LaterC W (G v), w' = u.val) (N := N) ws (fun k => k = j) (fun L => L.getD j false = true) hB0 ?_ ?_ ?_ ?_ fuel _ _ w' ?_ ?_ (inv.set hrd hjN) ⟨⟨w', u0.h.trans (hb.mono u0.h.size), hg⟩, rfl⟩ hcnt'
    · intro L' k hL hk
      rw [getD_set_ne false hk]
      exact hL
    · intro k o hkN hk hok
      by_cases hlt : k < j
      · obtain ⟨v', hv', ht'⟩ := (told (G v) (hG v) hne).2 k o hlt hok
        exact ⟨v', fun hd => (hv' hd).trans (wlt k hlt).symm, by rw [pl k (by omega)]; exact ht'⟩
      · have hgt : j < k := by omega
        have := htold (k - (j + 1)) o (by rw [hlen]; omega) (by rw [show j + 1 + (k - (j + 1)) = k by omega]; exact hok)
        rw [← pg, show j + 1 + (k - (j + 1)) = k by omega] at this
        exact ⟨us k, fun _ => (wgt k hgt).symm, this⟩
    · intro fuel' k o L' a' w'' hk _ _ hL _ _ _ _ hrd' _
      subst hk
      obtain ⟨hun', _⟩ := mem_ready.1 hrd'
      have := getD_both hun'
      rw [hL] at this
      cases this
    · intro L' w'' _ _ hw''
      rw [show N = j + 1 + (N - (j + 1)) by omega, pg]
      have := hfin w'' hw''
      rw [show j + 1 + (N - (j + 1)) = N by omega]
      exact this
    · simp [hjs]
    · refine mid_put hsole ?_ ho hjs (fun _ => wj.symm)
      refine ⟨mid.defers, mid.size, fun t => ?_⟩
      rw [mid.slot t]
      cases hw : writer l.toArray t with
      | none => rfl
      | some k =>
        simp only []
        by_cases hg : L.getD k false = true
        · have hk : k < j := Nat.lt_of_not_le fun hle => by rw [hJ k hle] at hg; cases hg
          rw [if_pos hg, if_pos hg, wlt k hk]
        · rw [if_neg hg, if_neg hg]
  · intro L w' hJ hall _
    have := hall n hnN
    rw [hJ n (Nat.le_refl _)] at this
    cases this
  · intro j _; exact getD_replicate_false _ _
  · cases hw : writer l.toArray t with
    | none => rfl
    | some k => simp only [getD_replicate_false]; simp
end
end Go.Proofs.Ytpgibngohbohdaa
