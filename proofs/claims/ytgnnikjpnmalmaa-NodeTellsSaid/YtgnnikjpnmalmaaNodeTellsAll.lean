/-
  NodeTells answers true for any two nodes and any octets, and changes nothing that was there: which nodes may be, any one's octets, and a node of any octets, are as the page says. For every input, without a condition.
-/
import Derived.Test.YtgnnikjpnmalmaaRegionAlloc
import Derived.Test.YtgnnikjpnmalmaaNodeRefOther
import Derived.Test.YtgnnikjpnmalmaaNodeSame
import Derived.Test.YtgnnikjpnmalmaaNodePutAll
import Derived.Test.YtgnnikjpnmalmaaRefNum
import Derived.Test.YtgnnikjpnmalmaaNodeRefPtsA
import Derived.Test.YtgnnikjpnmalmaaNodeRefPtsB
import Derived.Test.YtgnnikjpnmalmaaNodeRefPtsC
import Derived.Outline
import Derived.Test.YtgnnikjpnmalmaaNodeDef
import Derived.Laws.IdiomArrays
import Derived.Test.YtgnnikjpnmalmaaOct
import Derived.Test.YtgnnikjpnmalmaaSlices
import Derived.SizedLaws
import Derived.Test.YtgnnikjpnmalmaaLift
import Derived.Test.YtgnnikjpnmalmaaOpen

/-
  A region that draws its order: quiet operations, one call among them whose value nobody knows ahead (a new slice, say), and the others one by one behind them.
-/

namespace Go.Proofs.Ytgnnikjpnmalmaa
open Go.RowKit

section
variable {P : Program} {ops : Array Oper}

/-- What is told of operation j with these values, in the walk's own frame. -/
def ToldAs (P : Program) (l : List Oper) (C : World → Prop) (a0 : Act) (ws : Nat → Value) (j : Nat) (o : Oper) : Prop :=
  ∃ v, (o.dst ≠ none → v = ws j) ∧ Told P l.toArray C o v (puts l.toArray ws (List.range j) a0)

/-- The frame of the walk with these values. -/
theorem lex_of {l : List Oper} {a0 : Act} {ws : Nat → Value} {N : Nat} (hN : N ≤ l.length) (hsole : soleB l.toArray a0.tmps.size = true) (j t : Nat) (hj : j ≤ N) :
    (puts l.toArray ws (List.range j) a0).tmps[t]? = match writer l.toArray t with
      | some k => if k < j then some (ws k) else a0.tmps[t]?
      | none => a0.tmps[t]? := by
  have hsz : l.toArray.size = l.length := by simp
  cases hw : writer l.toArray t with
  | none =>
    refine (puts_get ws t _ _).1 fun i hi hd => ?_
    have hlt : i < l.toArray.size := by have := List.mem_range.1 hi; omega
    have hoi : l.toArray[i]? = some l.toArray[i] := Array.getElem?_eq_getElem hlt
    rw [hoi] at hd
    exact writer_none hw hoi hd
  | some k =>
    obtain ⟨o, ho, hd⟩ := writer_some hw
    have hsole' : ∀ i, i < l.toArray.size → (l.toArray[i]?).bind (·.dst) = some t → i = k := fun i hi hdi => by
      have hoi : l.toArray[i]? = some l.toArray[i] := Array.getElem?_eq_getElem hi
      rw [hoi] at hdi
      have := (sole_dst hsole hoi hdi).1
      rw [hw] at this
      exact (Option.some.inj this).symm
    by_cases hk : k < j
    · simp only [hk, if_true]
      exact (puts_get ws t _ _).2 k (fun i hi hdi => hsole' i (by have := List.mem_range.1 hi; omega) hdi) (List.mem_range.2 hk) (by rw [ho]; exact hd) (sole_dst hsole ho hd).2
    · simp only [hk, if_false]
      refine (puts_get ws t _ _).1 fun i hi hdi => hk ?_
      have h1 := List.mem_range.1 hi
      rw [← hsole' i (by omega) hdi]
      exact h1

/-- The frame behind one more. -/
theorem mid_put {l : List Oper} {a0 a : Act} {ws : Nat → Value} {L : Array Bool} {j : Nat} {o : Oper} {v : Value} (hsole : soleB l.toArray a0.tmps.size = true) (mid : Mid l.toArray a0 ws L a) (ho : l.toArray[j]? = some o) (hjs : j < L.size)
    (hv : o.dst ≠ none → v = ws j) : Mid l.toArray a0 ws (L.setIfInBounds j true) (a.put o.dst v) := by
  refine ⟨by rw [put_defers]; exact mid.defers, by rw [put_size]; exact mid.size, fun t => ?_⟩
  rw [put_get]
  by_cases hd : o.dst = some t
  · obtain ⟨hw, ht⟩ := sole_dst hsole ho hd
    rw [if_pos ⟨hd, by rw [mid.size]; exact ht⟩, hw]
    simp [hjs, hv (by rw [hd]; simp)]
  · rw [if_neg (fun h => hd h.1), mid.slot t]
    cases hw : writer l.toArray t with
    | none => rfl
    | some k =>
      have hkj : j ≠ k := by
        rintro rfl
        obtain ⟨o', ho', hd'⟩ := writer_some hw
        rw [ho] at ho'; cases ho'
        exact hd hd'
      simp only []
      rw [getD_set_ne false hkj]

/-- Whatever order: the quiet ones by their walk, the special ones as is told of them. -/
theorem run_mid {Q : Exit → Act → World → Prop} {a0 : Act} {l : List Oper} {C : World → Prop} {N : Nat} (ws : Nat → Value) (special : Nat → Prop) (J : Array Bool → Prop)
    (hB : quietTailB l.toArray N a0.tmps.size = true)
    (hJ : ∀ L j, J L → ¬ special j → J (L.setIfInBounds j true))
    (htold : ∀ j o, j < N → ¬ special j → l.toArray[j]? = some o → ToldAs P l C a0 ws j o)
    (hspec : ∀ (fuel j : Nat) (o : Oper) (L : Array Bool) (a : Act) (w : World), special j → j < N → l.toArray[j]? = some o → J L → Mid l.toArray a0 ws L a → HeadInv .any l.toArray N L → C w → L.toList.count false = fuel + 1 → j ∈ Region.ready .any l.toArray L →
      (∀ t, t ∈ o.looksAt l.toArray → a.tmps[t]? = (puts l.toArray ws (List.range j) a0).tmps[t]?) → wpOp P l.toArray Q j (wpAny P .any l.toArray Q fuel (L.setIfInBounds j true)) a w)
    (hfin : ∀ L w', J L → (∀ i, i < N → L.getD i false = true) → C w' → wpList P l.toArray Q (l.drop N) (puts l.toArray ws (List.range N) a0) w') :
    ∀ (fuel : Nat) (L : Array Bool) (a : Act) (w : World), J L → Mid l.toArray a0 ws L a → HeadInv .any l.toArray N L → C w → L.toList.count false = fuel → wpAny P .any l.toArray Q fuel L a w := by
  simp only [quietTailB, Bool.and_eq_true, decide_eq_true_eq] at hB
  obtain ⟨⟨⟨⟨⟨⟨hsel, hn⟩, hs⟩, hc⟩, hsole⟩, hseen⟩, hseq⟩ := hB
  have hn' : N < l.length := by simpa using hn
  have lex := fun j t hj => lex_of (ws := ws) (N := N) (by omega) hsole j t hj
  intro fuel
  induction fuel with
  | zero =>
    intro L a w hJL mid inv hCw hcnt
    exfalso
    have h1 := inv.tail N (Nat.le_refl _) hn
    have hl : N < L.size := by rw [inv.size]; exact hn
    have : false ∈ L.toList := by
      have h2 : L[N] = false := by simpa [hl] using h1
      rw [← h2]; simp
    have := List.count_pos_iff.2 this
    omega
  | succ fuel ih =>
    intro L a w hJL mid inv hCw hcnt
    by_cases hall : ∀ i, i < N → L.getD i false = true
    · have hL : L = Array.ofFn fun i : Fin l.toArray.size => decide (i.val < N) := by
        apply Array.ext
        · simp [inv.size]
        · intro i h1 h2
          have hi : i < l.toArray.size := by rw [← inv.size]; exact h1
          simp only [Array.getElem_ofFn]
          by_cases hin : i < N
          · have := hall i hin
            simp [h1] at this
            simp [hin, this]
          · have := inv.tail i (by omega) hi
            simp [h1] at this
            simp [hin, this]
      have ha : a = puts l.toArray ws (List.range N) a0 := by
        have e1 : a.tmps = (puts l.toArray ws (List.range N) a0).tmps := by
          apply Array.ext_getElem?
          intro t
          rw [mid.slot t, lex N t (Nat.le_refl _)]
          cases hw : writer l.toArray t with
          | none => rfl
          | some k =>
            simp only []
            by_cases hk : k < N
            · rw [if_pos (hall k hk), if_pos hk]
            · rw [if_neg hk, if_neg]
              obtain ⟨o, ho, _⟩ := writer_some hw
              have := getD_both (inv.tail k (by omega) (Array.getElem?_eq_some_iff.1 ho).1)
              rw [this]; simp
        have e2 : a.defers = (puts l.toArray ws (List.range N) a0).defers := by rw [mid.defers]; exact (puts_defers ws _ _).symm
        cases a
        cases hp : puts l.toArray ws (List.range N) a0
        simp only [hp] at e1 e2
        subst e1 e2
        rfl
      have hfin' := hfin L w hJL hall hCw
      have hcnt2 : fuel + 1 = (l.drop N).length := by
        rw [← hcnt, hL]
        simp only [Array.toList_ofFn, List.length_drop]
        have gen : ∀ (m n : Nat), ((List.ofFn fun i : Fin m => decide (i.val < n)).count false) = m - n := by
          intro m
          induction m with
          | zero => intro n; simp
          | succ m ihm =>
            intro n
            cases n with
            | zero =>
              have := ihm 0
              simp [List.ofFn_succ] at this ⊢
              omega
            | succ n =>
              have := ihm n
              simp [List.ofFn_succ] at this ⊢
              omega
        simpa using gen l.toArray.size N
      rw [hcnt2]
      refine wpAny_of_seq (md := .any) (l.drop N) N L a w (fun j => by simp [List.getElem?_drop]) ?_ ?_
      · rw [hL]
        have e : (l.drop N).length = l.toArray.size - N := by simp
        rw [e]; exact hseq
      · rw [ha]; exact hfin'
    · have hex : ∃ i, i < N ∧ L.getD i true = false := by
        refine Classical.byContradiction fun hno => hall fun i hi => ?_
        cases hg : L.getD i true with
        | false => exact absurd ⟨i, hi, hg⟩ hno
        | true =>
          have hl : i < L.size := by rw [inv.size]; omega
          simp [hl] at hg ⊢
          exact hg
      obtain ⟨i0, hi0, hun0⟩ := hex
      have hready : ∀ j ∈ Region.ready .any l.toArray L, j < N := fun j hj => by
        rcases Nat.lt_or_ge j N with h | h
        · exact h
        · exact absurd hj (tail_waits hs hc hn inv _ i0 rfl hi0 hun0 j h)
      have hne : Region.ready .any l.toArray L ≠ [] := by
        intro hnil
        have hl : ∀ j, j < N → L.getD j false = true := by
          intro j
          induction j using Nat.strongRecOn with
          | _ j ihj =>
            intro hj
            cases hlj : L.getD j false with
            | true => rfl
            | false =>
              exfalso
              have hjo : j < l.toArray.size := by omega
              have hoj : l.toArray[j]? = some l.toArray[j] := Array.getElem?_eq_getElem hjo
              have : j ∈ Region.ready .any l.toArray L := mem_ready.2 ⟨getD_in (by rw [inv.size]; exact hjo) hlj, _, hoj, fun e he hb => by
                have := seen_after hseen hoj hj he hb
                exact ihj e.on this (by omega)⟩
              rw [hnil] at this
              cases this
        exact hall hl
      refine ⟨fun hr => absurd hr hne, fun j hj => ?_⟩
      have hjn := hready j hj
      obtain ⟨hun, o, ho, hpre⟩ := mem_ready.1 hj
      have hjs : j < L.size := by rw [inv.size]; omega
      have same : ∀ t, t ∈ o.looksAt l.toArray → a.tmps[t]? = (puts l.toArray ws (List.range j) a0).tmps[t]? := by
        intro t ht
        rw [mid.slot t, lex j t (by omega)]
        cases hw : writer l.toArray t with
        | none => rfl
        | some k =>
          simp only []
          rcases seen hseen ho hjn ht hw with hk | ⟨hk, hwait⟩
          · obtain ⟨o', ho', _⟩ := writer_some hw
            have := getD_both (inv.tail k hk (Array.getElem?_eq_some_iff.1 ho').1)
            rw [if_neg (by rw [this]; simp), if_neg (by omega)]
          · obtain ⟨oj, hoj, e, he, hb, hon⟩ := Region.waitsFor_spec hwait
            have : oj = o := Option.some.inj (hoj.symm.trans ho)
            subst this
            have := hpre e he hb
            rw [hon] at this
            rw [if_pos this, if_pos hk]
      by_cases hsp : special j
      · exact hspec fuel j o L a w hsp hjn ho hJL mid inv hCw hcnt hj same
      · have hexec : execOp a.eval o = execOp (puts l.toArray ws (List.range j) a0).eval o := by
          refine execOp_congr o (fun cs b => Region.noSelect_spec hsel j o cs b ho) fun x hx => ?_
          cases x with
          | tmp t =>
            have := same t (List.mem_append_left _ (List.mem_filterMap.2 ⟨.tmp t, by simpa using hx, rfl⟩))
            simp only [Act.eval, Array.getD_eq_getD_getElem?, this]
          | _ => rfl
        have hwant : Region.wanted o (yielded l.toArray a.tmps) = Region.wanted o (yielded l.toArray (puts l.toArray ws (List.range j) a0).tmps) := by
          unfold Region.wanted
          cases hg : o.guard with
          | none => rfl
          | some gw =>
            obtain ⟨g, want⟩ := gw
            have hy : yielded l.toArray a.tmps g = yielded l.toArray (puts l.toArray ws (List.range j) a0).tmps g := by
              unfold yielded
              cases ht : (l.toArray[g]?).bind (·.dst) with
              | none => rfl
              | some t =>
                have := same t (List.mem_append_right _ (by simp only [hg, ht]; simp))
                simp only [Option.bind_some, this]
            simp only [hy]
        have hcnt' : (L.setIfInBounds j true).toList.count false = fuel := by
          have := count_set L.toList j (by simp [hjs] at hun ⊢; exact hun)
          simp only [Array.toList_setIfInBounds]
          omega
        obtain ⟨v, hv, told⟩ := htold j o hjn hsp ho
        have next : ∀ w', C w' → wpAny P .any l.toArray Q fuel (L.setIfInBounds j true) (a.put o.dst v) w' := fun w' hw' => ih _ _ _ (hJ L j hJL hsp) (mid_put hsole mid ho hjs hv) (inv.set hj hjn) hw' hcnt'
        unfold wpOp
        simp only [ho]
        rcases told with ⟨hwt, hq⟩ | ⟨hwt, hu⟩
        · rw [if_pos (by rw [hwant]; exact hwt)]
          left
          refine Oper.wp_of_quiet (C := C) (K := fun a' => a' = a.put o.dst v) hCw (fun a' w' hw' e => e ▸ next w' hw') ⟨v, fun w' hw' => ?_, rfl⟩
          have := hq w' hw'
          unfold Oper.quietAt at this ⊢
          rw [hexec]; exact this
        · rw [if_neg (by rw [hwant, hwt]; simp), ← hu]
          exact next w hCw

/-- Behind the operation n all others of the first N wait for it, straight or by others. -/
def wildB (ops : Array Oper) (n N : Nat) : Bool :=
  (List.range N).all fun j => decide (j ≤ n) || (List.range j).any fun k => decide (n ≤ k) && Region.waitsFor .any ops j k

theorem wild_waits {n N j : Nat} (h : wildB ops n N = true) (hj : j < N) (hn : n < j) : ∃ k, n ≤ k ∧ k < j ∧ Region.waitsFor .any ops j k = true := by
  have := List.all_eq_true.1 h j (List.mem_range.2 hj)
  simp only [Bool.or_eq_true, decide_eq_true_eq] at this
  rcases this with h | h
  · omega
  · obtain ⟨k, hk, h2⟩ := List.any_eq_true.1 h
    simp only [Bool.and_eq_true, decide_eq_true_eq] at h2
    exact ⟨k, h2.1, List.mem_range.1 hk, h2.2⟩

/-- **THE RULE.** The operation n is a call; of its value v and the world behind it G v is known, which lasts. -/
theorem wp_region_late_wild {id : Nat} {Q : Exit → Act → World → Prop} {a0 : Act} {W : World} {l : List Oper} (n N : Nat) (A : Act) (G : Value → World → Prop) (hG : ∀ v, Stable (G v)) (hm : P.follows .mixedOrders = true)
    (hB : quietTailB l.toArray N a0.tmps.size = true) (hW : wildB l.toArray n N = true) (hnN : n < N)
    (h : ∀ S, Stable S → Nonempty (LaterC W S) → wpQuiet P l.toArray (fun w' => ∃ u : LaterC W S, w' = u.val) (fun a' => a' = A) (l.take n) a0)
    (hc : ∃ o f args, l[n]? = some o ∧ o.dst ≠ none ∧ Region.wanted o (yielded l.toArray A.tmps) = true ∧ (∀ w, (execOp A.eval o).run P w = .ok (.enter f args) w) ∧
      ∀ u : Later W, Calls P f args u.val fun e w' => ∃ v, e = .returned v ∧ Below u.val.heap.size u.val w' ∧ G v w')
    (h2 : ∀ v, Nonempty (LaterC W (G v)) → wpQuiet P l.toArray (fun w' => ∃ u : LaterC W (G v), w' = u.val) (fun a' => ∀ w', (∃ u : LaterC W (G v), w' = u.val) → wpList P l.toArray Q (l.drop N) a' w')
      ((l.drop (n + 1)).take (N - (n + 1))) (A.put ((l.toArray[n]?).bind (·.dst)) v)) : (Code.region id l.toArray true).wp P Q a0 W := by
  have hB0 := hB
  simp only [quietTailB, Bool.and_eq_true, decide_eq_true_eq] at hB
  obtain ⟨⟨⟨⟨⟨⟨hsel, hn⟩, hs⟩, hch⟩, hsole⟩, hseen⟩, hseq⟩ := hB
  have hNl : N < l.length := by simpa using hn
  have hsz : l.toArray.size = l.length := by simp
  have htl : (l.take n).length = n := by simp; omega
  have hr0 : ∀ m, List.range' 0 m = List.range m := fun m => (List.range_eq_range' (n := m)).symm
  obtain ⟨on, f, args, hon, hdn, hwn, hrun, hcall⟩ := hc
  have hon' : l.toArray[n]? = some on := by simpa using hon
  -- the values of the first n, once for all
  let vs : Nat → Value := valOf l.toArray A
  have told : ∀ S, Stable S → Nonempty (LaterC W S) → A = puts l.toArray vs (List.range n) a0 ∧ ∀ j o, j < n → l.toArray[j]? = some o → ∃ v, (o.dst ≠ none → v = vs j) ∧ Told P l.toArray (fun w' => ∃ u : LaterC W S, w' = u.val) o v (puts l.toArray vs (List.range j) a0) := by
    intro S hS hN
    obtain ⟨us, hfin, htold⟩ := walk_told (ops := l.toArray) (l.take n) 0 a0 (fun i hi => by
      have hi' : i < n := by rw [htl] at hi; exact hi
      simp [hi']) (h S hS hN)
    rw [htl, hr0] at hfin
    have hus : ∀ j, j < n → (l.toArray[j]?).bind (·.dst) ≠ none → us j = vs j := by
      intro j hj hd
      obtain ⟨t, ht⟩ := Option.ne_none_iff_exists'.1 hd
      have hlt : j < l.toArray.size := by simp; omega
      have hoj : l.toArray[j]? = some l.toArray[j] := Array.getElem?_eq_getElem hlt
      have hd2 : l.toArray[j].dst = some t := by rw [hoj] at ht; simpa using ht
      have hsd := sole_dst hsole hoj hd2
      have := (puts_get us t (List.range n) a0).2 j (fun k hk hdk => by
        have hkl : k < l.toArray.size := by have := List.mem_range.1 hk; simp; omega
        have hok : l.toArray[k]? = some l.toArray[k] := Array.getElem?_eq_getElem hkl
        rw [hok] at hdk
        have := (sole_dst hsole hok (by simpa using hdk)).1
        rw [hsd.1] at this
        exact (Option.some.inj this).symm) (List.mem_range.2 hj) ht hsd.2
      rw [hfin] at this
      show us j = valOf l.toArray A j
      unfold valOf
      rw [ht]
      simp [this]
    refine ⟨?_, fun j o hj ho => ⟨us j, fun hd => hus j hj (by rw [ho]; simpa using hd), ?_⟩⟩
    · rw [← hfin]
      exact puts_val _ _ fun j hj hd => hus j (List.mem_range.1 hj) hd
    · have := htold j o (by rw [htl]; exact hj) (by rw [Nat.zero_add]; exact ho)
      rw [Nat.zero_add, hr0] at this
      have e : puts l.toArray us (List.range j) a0 = puts l.toArray vs (List.range j) a0 := puts_val _ _ fun k hk hd => hus k (by have := List.mem_range.1 hk; omega) hd
      rw [← e]; exact this
  have hT : Stable (fun _ => True) := fun _ _ _ _ => trivial
  obtain ⟨hAeq, told0⟩ := told (fun _ => True) hT ⟨⟨W, Below.refl _ _, trivial⟩⟩
  refine wp_region_any hm ?_
  refine run_mid (C := fun w' => ∃ u : LaterC W (fun _ => True), w' = u.val) (N := N) vs (fun j => n ≤ j) (fun L => ∀ j, n ≤ j → L.getD j false = false) hB0 ?_ ?_ ?_ ?_ l.toArray.size _ a0 W.drew ?_ ⟨rfl, rfl, fun t => ?_⟩
    ⟨by simp, fun j oj _ hl => (by rw [getD_replicate_false] at hl; cases hl), fun t _ ht => getD_in (by simpa using ht) (getD_replicate_false _ _)⟩ ⟨⟨W.drew, Below.drew (Below.refl _ _), trivial⟩, rfl⟩ (by simp)
  · intro L j hJ hj k hk
    rw [getD_set_ne false (by omega)]
    exact hJ k hk
  · intro j o hjN hj ho
    exact told0 j o (by omega) ho
  · intro fuel j o L a w hj hjN ho hJ mid inv hCw hcnt hrd same
    obtain ⟨hun, o', ho', hpre⟩ := mem_ready.1 hrd
    have e1 : o' = o := Option.some.inj (ho'.symm.trans ho)
    subst e1
    have hjs : j < L.size := by rw [inv.size]; omega
    -- none behind n is ready ahead of it
    have hjn : j = n := by
      rcases Nat.lt_or_eq_of_le hj with h1 | h1
      · exfalso
        obtain ⟨k, hk1, hk2, hw⟩ := wild_waits hW hjN h1
        obtain ⟨oj, hoj, e, he, hb, hon⟩ := Region.waitsFor_spec hw
        have : oj = o' := Option.some.inj (hoj.symm.trans ho)
        subst this
        have := hpre e he hb
        rw [hon, hJ k hk1] at this
        cases this
      · exact h1.symm
    subst hjn
    have e2 : on = o' := Option.some.inj (hon'.symm.trans ho)
    subst e2
    have hcnt' : (L.setIfInBounds j true).toList.count false = fuel := by
      have := count_set L.toList j (by simp [hjs] at hun ⊢; exact hun)
      simp only [Array.toList_setIfInBounds]
      omega
    rw [← hAeq] at same
    have hexec : execOp a.eval on = execOp A.eval on := by
      refine execOp_congr on (fun cs b => Region.noSelect_spec hsel j on cs b ho) fun x hx => ?_
      cases x with
      | tmp t =>
        have := same t (List.mem_append_left _ (List.mem_filterMap.2 ⟨.tmp t, by simpa using hx, rfl⟩))
        simp only [Act.eval, Array.getD_eq_getD_getElem?, this]
      | _ => rfl
    have hwant : Region.wanted on (yielded l.toArray a.tmps) = Region.wanted on (yielded l.toArray A.tmps) := by
      unfold Region.wanted
      cases hg : on.guard with
      | none => rfl
      | some gw =>
        obtain ⟨g, want⟩ := gw
        have hy : yielded l.toArray a.tmps g = yielded l.toArray A.tmps g := by
          unfold yielded
          cases ht : (l.toArray[g]?).bind (·.dst) with
          | none => rfl
          | some t =>
            have := same t (List.mem_append_right _ (by simp only [hg, ht]; simp))
            simp only [Option.bind_some, this]
        simp only [hy]
    unfold wpOp
    simp only [ho]
    rw [if_pos (by rw [hwant]; exact hwn)]
    left
    unfold Oper.wp
    rw [hexec, hrun w, Oper.upon_enter]
    obtain ⟨u0, rfl⟩ := hCw
    refine (hcall ⟨u0.val, u0.h⟩).mono ?_
    rintro e w' ⟨v, rfl, hb, hg⟩
    show wpAny P .any l.toArray Q fuel (L.setIfInBounds j true) (a.put on.dst v) w'
    have hne : Nonempty (LaterC W (G v)) := ⟨⟨w', u0.h.trans (hb.mono u0.h.size), hg⟩⟩
    obtain ⟨us, hfin, htold⟩ := walk_told (ops := l.toArray) ((l.drop (j + 1)).take (N - (j + 1))) (j + 1) _ (fun i hi => by
      have hi' : i < N - (j + 1) := by simp at hi; omega
      simp [hi']) (h2 v hne)
    have hlen : ((l.drop (j + 1)).take (N - (j + 1))).length = N - (j + 1) := by simp; omega
    rw [hlen] at hfin
    let ws : Nat → Value := fun k => if k < j then vs k else if k = j then v else us k
    have wlt : ∀ k, k < j → ws k = vs k := fun k hk => if_pos hk
    have wj : ws j = v := by show (if j < j then vs j else if j = j then v else us j) = v; rw [if_neg (by omega), if_pos rfl]
    have wgt : ∀ k, j < k → ws k = us k := fun k hk => by show (if k < j then vs k else if k = j then v else us k) = us k; rw [if_neg (by omega), if_neg (by omega)]
    have pl : ∀ k, k ≤ j → puts l.toArray ws (List.range k) a0 = puts l.toArray vs (List.range k) a0 := fun k hk => puts_congr _ _ fun i hi => wlt i (by have := List.mem_range.1 hi; omega)
    have pj : puts l.toArray ws (List.range (j + 1)) a0 = A.put ((l.toArray[j]?).bind (·.dst)) v := by
      rw [List.range_succ, puts_snoc, pl j (Nat.le_refl _), ← hAeq, wj]
    have pg : ∀ m, puts l.toArray ws (List.range (j + 1 + m)) a0 = puts l.toArray us (List.range' (j + 1) m) (A.put ((l.toArray[j]?).bind (·.dst)) v) := by
      intro m
      have e1 : List.range (j + 1 + m) = List.range (j + 1) ++ List.range' (j + 1) m := by
        rw [List.range_eq_range', List.range_eq_range', List.range'_append_1.symm]
        simp
      rw [e1]
      have e2 : puts l.toArray ws (List.range (j + 1) ++ List.range' (j + 1) m) a0 = puts l.toArray ws (List.range' (j + 1) m) (puts l.toArray ws (List.range (j + 1)) a0) := by
        unfold puts; rw [List.foldl_append]
      rw [e2, pj]
      exact puts_congr _ _ fun k hk => wgt k (by have := (List.mem_range'_1.1 hk).1; omega)
    refine run_mid (C := fun w' => ∃ u : LaterC W (G v), w' = u.val) (N := N) ws (fun k => k = j) (fun L => L.getD j false = true) hB0 ?_ ?_ ?_ ?_ fuel _ _ w' ?_ ?_ (inv.set hrd hjN) ⟨⟨w', u0.h.trans (hb.mono u0.h.size), hg⟩, rfl⟩ hcnt'
    · intro L' k hL hk
      rw [getD_set_ne false hk]
      exact hL
    · intro k o hkN hk hok
      by_cases hlt : k < j
      · obtain ⟨v', hv', ht'⟩ := (told (G v) (hG v) hne).2 k o hlt hok
        exact ⟨v', fun hd => (hv' hd).trans (wlt k hlt).symm, by rw [pl k (by omega)]; exact ht'⟩
      · have hgt : j < k := by omega
        have := htold (k - (j + 1)) o (by rw [hlen]; omega) (by rw [show j + 1 + (k - (j + 1)) = k by omega]; exact hok)
        rw [← pg, show j + 1 + (k - (j + 1)) = k by omega] at this
        exact ⟨us k, fun _ => (wgt k hgt).symm, this⟩
    · intro fuel' k o L' a' w'' hk _ _ hL _ _ _ _ hrd' _
      subst hk
      obtain ⟨hun', _⟩ := mem_ready.1 hrd'
      have := getD_both hun'
      rw [hL] at this
      cases this
    · intro L' w'' _ _ hw''
      rw [show N = j + 1 + (N - (j + 1)) by omega, pg]
      have := hfin w'' hw''
      rw [show j + 1 + (N - (j + 1)) = N by omega]
      exact this
    · simp [hjs]
    · refine mid_put hsole ?_ ho hjs (fun _ => wj.symm)
      refine ⟨mid.defers, mid.size, fun t => ?_⟩
      rw [mid.slot t]
      cases hw : writer l.toArray t with
      | none => rfl
      | some k =>
        simp only []
        by_cases hg : L.getD k false = true
        · have hk : k < j := Nat.lt_of_not_le fun hle => by rw [hJ k hle] at hg; cases hg
          rw [if_pos hg, if_pos hg, wlt k hk]
        · rw [if_neg hg, if_neg hg]
  · intro L w' hJ hall _
    have := hall n hnN
    rw [hJ n (Nat.le_refl _)] at this
    cases this
  · intro j _; exact getD_replicate_false _ _
  · cases hw : writer l.toArray t with
    | none => rfl
    | some k => simp only [getD_replicate_false]; simp
end
end Go.Proofs.Ytgnnikjpnmalmaa

/-
  What both readings answer of any octets, in one form.
-/


namespace Go.Proofs.Ytgnnikjpnmalmaa
open Go.RowKit
set_option linter.unusedVariables false
set_option linter.unusedSimpArgs false

def rdLf (l : List UInt8) : Bool := (leafR l).isSome
def rdL (l : List UInt8) : List Pt := (leafR l).getD []
def rdOk (l : List UInt8) : Bool := (leafR l).isSome || otherR l
def rdX (l : List UInt8) : Int := if (leafR l).isSome then (byteAt l 1 : Int) else 0
def rdKk (l : List UInt8) : Nat → Int := if (leafR l).isNone && otherR l then kidsR l else zf
def rdCc (l : List UInt8) : Nat → Int := if (leafR l).isNone && otherR l then cntsR l else zf
theorem nd_canon {l : List UInt8} {w : World} {e : Ending} {w' : World} (h : NdPost l w e w') : ∃ pv cv, e = .returned (.tuple #[ndval (rdLf l) (.slice pv (rdL l).length cv) (rdX l) (rdKk l) (rdCc l), .int .i64 (if rdOk l then 0 else 16)]) ∧ (rdL l).length ≤ cv ∧ cv ≤ maxLen ∧ RowP w' pv 4 (rdL l).length (fun i => pcells (ptAt (rdL l) i)) ∧ Below w.heap.size w w' := by
  rcases h with ⟨L, v, q1, rfl, OV, hb⟩ | ⟨q1, q2, rfl, hb⟩ | ⟨q1, q2, rfl, hb⟩
  · obtain ⟨pv, cv, rfl, d1, d2, R⟩ := OV.open
    have e1 : rdL l = L := by unfold rdL; rw [q1]; rfl
    refine ⟨pv, cv, ?_, by rw [e1]; exact d1, d2, by rw [e1]; exact R, hb⟩
    rw [e1]
    unfold rdLf rdX rdKk rdCc rdOk
    rw [q1]
    rfl
  · have e1 : rdL l = [] := by unfold rdL; rw [q1]; rfl
    refine ⟨none, 0, ?_, by rw [e1]; exact Nat.le_refl _, Nat.zero_le _, by rw [e1]; exact .inl rfl, hb⟩
    rw [e1]
    unfold rdLf rdX rdKk rdCc rdOk
    rw [q1, q2]
    rfl
  · have e1 : rdL l = [] := by unfold rdL; rw [q1]; rfl
    refine ⟨none, 0, ?_, by rw [e1]; exact Nat.le_refl _, Nat.zero_le _, by rw [e1]; exact .inl rfl, hb⟩
    rw [e1]
    unfold rdLf rdX rdKk rdCc rdOk
    rw [q1, q2]
    rfl
theorem ref_canon {l : List UInt8} {w : World} {e : Ending} {w' : World} (h : RefPost l w e w') : ∃ pv cv, e = .returned (.tuple #[ndval (rdLf l) (.slice pv (rdL l).length cv) (rdX l) (rdKk l) (rdCc l), .bool (rdOk l)]) ∧ (rdL l).length ≤ cv ∧ cv ≤ maxLen ∧ RowP w' pv 4 (rdL l).length (fun i => pcells (ptAt (rdL l) i)) ∧ Below w.heap.size w w' := by
  rcases h with ⟨L, v, q1, rfl, OV, hb⟩ | ⟨q1, q2, rfl, hb⟩ | ⟨q1, q2, rfl, hb⟩
  · obtain ⟨pv, cv, rfl, d1, d2, R⟩ := OV.open
    have e1 : rdL l = L := by unfold rdL; rw [q1]; rfl
    refine ⟨pv, cv, ?_, by rw [e1]; exact d1, d2, by rw [e1]; exact R, hb⟩
    rw [e1]
    unfold rdLf rdX rdKk rdCc rdOk
    rw [q1]
    rfl
  · have e1 : rdL l = [] := by unfold rdL; rw [q1]; rfl
    refine ⟨none, 0, ?_, by rw [e1]; exact Nat.le_refl _, Nat.zero_le _, by rw [e1]; exact .inl rfl, hb⟩
    rw [e1]
    unfold rdLf rdX rdKk rdCc rdOk
    rw [q1, q2]
    rfl
  · have e1 : rdL l = [] := by unfold rdL; rw [q1]; rfl
    refine ⟨none, 0, ?_, by rw [e1]; exact Nat.le_refl _, Nat.zero_le _, by rw [e1]; exact .inl rfl, hb⟩
    rw [e1]
    unfold rdLf rdX rdKk rdCc rdOk
    rw [q1, q2]
    rfl
theorem nSame_self (lf : Bool) (n : Nat) (f : Nat → Pt) (nx : Int) (k c : Nat → Int) : nSame lf lf n n f f nx nx k k c c = true := by
  unfold nSame
  rw [eqA_self, eqA_self, allP_self f f n fun _ _ => rfl]
  simp
end Go.Proofs.Ytgnnikjpnmalmaa

/-
  Package node: Total, Same.
-/


namespace Go.Proofs.Ytgnnikjpnmalmaa
open Go.RowKit
set_option linter.unusedVariables false
set_option linter.unusedSimpArgs false

set_option maxRecDepth 100000 in
set_option maxHeartbeats 4000000 in
theorem eqPts_any (p p' : Option Addr) (n n' cap cap' : Nat) (f g : Nat → Pt) (h1 : n ≤ cap) (h2 : cap ≤ maxLen) (h3 : n' ≤ cap') (h4 : cap' ≤ maxLen) (w : World) (HR : RowP w p 4 n (fun i => pcells (f i))) (HQ : RowP w p' 4 n' (fun i => pcells (g i))) :
    Calls Try.prog 91 #[.slice p n cap, .slice p' n' cap'] w fun e w' => e = .returned (.bool (decide (n = n') && allP f g n)) ∧ Below w.heap.size w w' := by
  have hR0 := hid HR
  have hQ0 := hid HQ
  unfold maxLen at h2 h4
  clear HR HQ
  by_cases hn : n = n'
  · subst hn
    have hB2 := hid (show (decide (n = n) && allP f g n) = allP f g n by simp)
    generalize (decide (n = n) && allP f g n) = B at *
    go_enter Try.func91, Try.ntmps91
    go_wp2_with fail
    go_loopw [5, 13] (fun z i wx => ∃ k : Nat, k ≤ n ∧ i = .int .i64 (k : Int) ∧ allP f g k = true ∧ Below w.heap.size w wx) (fun _ i _ => n - (intOf i).toNat)
    case atStart => exact ⟨0, by omega, rfl, rfl, Below.refl _ _⟩
    case round =>
      obtain ⟨k, hk, rfl, ha, hb⟩ := hrel
      by_cases hlt : k < n
      · obtain ⟨b, o, rfl, R0⟩ := hR0.out.row (by omega)
        obtain ⟨b', o', rfl, Q0⟩ := hQ0.out.row (by omega)
        have R := R0.more hb
        have Q := Q0.more hb
        have z0 := R.at0 hlt (v := .int .i64 (f k).id) rfl
        have z1 := R.at1 hlt (v := .int .u32 (f k).x) rfl
        have z2 := R.at2 hlt (v := .int .u32 (f k).y) rfl
        have z3 := R.at3 hlt (v := .string (f k).d) rfl
        have y0 := Q.at0 hlt (v := .int .i64 (g k).id) rfl
        have y1 := Q.at1 hlt (v := .int .u32 (g k).x) rfl
        have y2 := Q.at2 hlt (v := .int .u32 (g k).y) rfl
        have y3 := Q.at3 hlt (v := .string (g k).d) rfl
        have hst : allP f g (k + 1) = (allP f g k && ptEq (f k) (g k)) := rfl
        have hbad := hid (allP_bad f g (k := k))
        clear R R0 Q Q0
        replace hb := hid hb
        cases he : ptEq (f k) (g k) with
        | false =>
          have hBf := hid (show B = false by rw [hB2.out]; exact hbad.out he n hlt)
          unfold ptEq at he
          replace ha := hid ha
          replace hst := hid hst
          go_wp2_with fail
          go_quiet (fail)
          go_wp2_with fail
          go_ret
          exact ⟨by rw [hBf.out]; rfl, ⟨hb.out.os, hb.out.tape, hb.out.output, hb.out.size, hb.out.block⟩⟩
        | true =>
          rw [he, ha] at hst
          unfold ptEq at he
          replace ha := hid ha
          replace hst := hid hst
          go_wp2_with fail
          go_quiet (fail)
          go_wp2_with fail
          go_roundw
          case rel => exact ⟨k + 1, by omega, by go_num, hst.out, ⟨hb.out.os, hb.out.tape, hb.out.output, hb.out.size, hb.out.block⟩⟩
          case measure => simp [intOf]; omega
      · obtain rfl : k = n := by omega
        have hBt := hid (show B = true by rw [hB2.out]; exact ha)
        replace ha := hid ha
        replace hb := hid hb
        go_wp2
        go_ret
        exact ⟨by rw [hBt.out]; rfl, hb.out⟩
  · have hn3 : ((n : Int) != (n' : Int)) = true := by simp; omega
    have hB2 := hid (show (decide (n = n') && allP f g n) = false by rw [decide_eq_false hn]; rfl)
    clear hn
    go_enter Try.func91, Try.ntmps91
    go_wp2_with fail
    go_ret
    exact ⟨by rw [hB2.out]; rfl, Below.refl _ _⟩

set_option maxRecDepth 100000 in
set_option maxHeartbeats 16000000 in
theorem nsame_any (lf lf' : Bool) (p p' : Option Addr) (n n' cap cap' : Nat) (f g : Nat → Pt) (nx nx' : Int) (k k' c c' : Nat → Int) (h1 : n ≤ cap) (h2 : cap ≤ maxLen) (h3 : n' ≤ cap') (h4 : cap' ≤ maxLen) (w : World) (HR : RowP w p 4 n (fun i => pcells (f i))) (HQ : RowP w p' 4 n' (fun i => pcells (g i))) :
    Calls Try.prog 46 #[ndval lf (.slice p n cap) nx k c, ndval lf' (.slice p' n' cap') nx' k' c'] w fun e w' => e = .returned (.bool (nSame lf lf' n n' f g nx nx' k k' c c')) ∧ Below w.heap.size w w' := by
  obtain ⟨W0, hW0, hb0, BX, BY⟩ := box2n w (ndcells lf (.slice p n cap) nx k c) (ndcells lf' (.slice p' n' cap') nx' k' c')
  have hB : nSame lf lf' n n' f g nx nx' k k' c c' = ((lf == lf') && ((nx == nx') && (eqA (k 0) (k 1) (k 2) (k 3) (k' 0) (k' 1) (k' 2) (k' 3) && (eqA (c 0) (c 1) (c 2) (c 3) (c' 0) (c' 1) (c' 2) (c' 3) && (decide (n = n') && allP f g n))))) := rfl
  have KE := hid (eqPts_any p p' n n' cap cap' f g h1 h2 h3 h4 W0 (HR.more hb0) (HQ.more hb0))
  have D0 := hid hb0
  have HBX := hid BX
  have HBY := hid BY
  unfold maxLen at h2 h4
  generalize nSame lf lf' n n' f g nx nx' k k' c c' = B at *
  clear HR HQ hb0 BX BY
  obtain ⟨lx, kx, fx⟩ := HBX.out
  obtain ⟨ly, ky, fy⟩ := HBY.out
  cases g1 : (lf == lf') with
  | false =>
    rw [g1, Bool.false_and] at hB
    replace hB := hid hB
    go_enter Try.func46, Try.ntmps46
    go_wp2_with fail
    go_ret
    exact ⟨by rw [hB.out]; rfl, D0.out⟩
  | true =>
    cases g2 : (nx == nx') with
    | false =>
      rw [g2, Bool.false_and, Bool.and_false] at hB
      replace hB := hid hB
      go_enter Try.func46, Try.ntmps46
      go_wp2_with fail
      go_ret
      exact ⟨by rw [hB.out]; rfl, D0.out⟩
    | true =>
      rw [g1, g2, Bool.true_and, Bool.true_and] at hB
      cases g3 : eqA (k 0) (k 1) (k 2) (k 3) (k' 0) (k' 1) (k' 2) (k' 3) with
      | false =>
        rw [g3, Bool.false_and] at hB
        replace hB := hid hB
        go_enter Try.func46, Try.ntmps46
        go_wp2_with fail
        go_ret
        exact ⟨by rw [hB.out]; rfl, D0.out⟩
      | true =>
        cases g4 : eqA (c 0) (c 1) (c 2) (c 3) (c' 0) (c' 1) (c' 2) (c' 3) with
        | false =>
          rw [g3, g4, Bool.false_and, Bool.and_false] at hB
          replace hB := hid hB
          go_enter Try.func46, Try.ntmps46
          go_wp2_with fail
          go_ret
          exact ⟨by rw [hB.out]; rfl, D0.out⟩
        | true =>
          rw [g3, g4, Bool.true_and, Bool.true_and] at hB
          rw [← hB] at KE
          clear hB
          go_enter Try.func46, Try.ntmps46
          go_wp2_with fail
          refine KE.out.mono ?_
          rintro e w1 ⟨rfl, hb1⟩
          have D1 := hid (below2 D0.out hb1 D0.out.size)
          clear hb1
          go_wp2_with fail
          go_ret
          exact ⟨rfl, D1.out⟩

set_option maxRecDepth 100000 in
set_option maxHeartbeats 4000000 in
theorem total_any (lf : Bool) (p : Option Addr) (n cap : Nat) (nx : Int) (k c : Nat → Int) (S1 S2 S3 : Int) (h0 : wrap64 (c 0) = c 0) (h1 : wrap64 (c 0 + c 1) = S1) (h2 : wrap64 (S1 + c 2) = S2) (h3 : wrap64 (S2 + c 3) = S3) (w : World) :
    Calls Try.prog 45 #[ndval lf (.slice p n cap) nx k c] w fun e w' => e = .returned (.int .i64 (if lf then (n : Int) else S3)) ∧ Below w.heap.size w w' := by
  have hb0 : Below w.heap.size w (w.alloc (.cells (ndcells lf (.slice p n cap) nx k c) 61)) := (Below.refl _ _).alloc (Nat.le_refl _) _
  have BX := Blk.new w (ndcells lf (.slice p n cap) nx k c) 61
  have D0 := hid hb0
  have HBX := hid BX
  clear hb0 BX
  have i0 : IntKind.i64.wrap (c 0) = c 0 := by rw [IntWalk.i64_left]; exact h0
  have i1 : IntKind.i64.wrap (c 0 + c 1) = S1 := by rw [IntWalk.i64_left]; exact h1
  have i2 : IntKind.i64.wrap (S1 + c 2) = S2 := by rw [IntWalk.i64_left]; exact h2
  have i3 : IntKind.i64.wrap (S2 + c 3) = S3 := by rw [IntWalk.i64_left]; exact h3
  cases lf with
  | true =>
    obtain ⟨lx, kx, fx⟩ := HBX.out
    go_enter Try.func45, Try.ntmps45
    go_wp2_with fail
    go_ret
    exact ⟨rfl, D0.out⟩
  | false =>
    obtain ⟨lx, kx, fx⟩ := HBX.out
    go_enter Try.func45, Try.ntmps45
    go_wp2_with fail
    clear lx kx fx
    refine wp_loop_rounds 5 ?_
    rw [rounds_succ]
    go_wp2_with fail
    rw [rounds_succ]
    go_wp2_with fail
    rw [rounds_succ]
    go_wp2_with fail
    rw [rounds_succ]
    go_wp2_with fail
    rw [rounds_succ]
    go_wp2_with fail
    go_ret
    exact ⟨rfl, D0.out⟩
end Go.Proofs.Ytgnnikjpnmalmaa

/-
  The document's own nodes: a node's octets.
-/


namespace Go.Proofs.Ytgnnikjpnmalmaa
open Go.RowKit
set_option linter.unusedVariables false
set_option linter.unusedSimpArgs false

theorem oct_int (z : Int) (h0 : 0 ≤ z) (h1 : z ≤ 255) : ((UInt8.ofNat z.toNat).toNat : Int) = z := by
  have := byte_ofNat z.toNat
  omega
theorem leB_one (z : Nat) : leB z 1 = [UInt8.ofNat z] := rfl
theorem three8 (w : World) (x y z : UInt8) (t : TypeId) : Octs (w.alloc (.cells #[.int .u8 (x.toNat : Int), .int .u8 (y.toNat : Int), .int .u8 (z.toNat : Int)] t)) (some ⟨w.heap.size, 0, none⟩) [x, y, z] := by
  refine .inr ⟨w.heap.size, 0, rfl, by simp, fun i hi => ?_⟩
  have : i = 0 ∨ i = 1 ∨ i = 2 := by simp at hi; omega
  rcases this with rfl | rfl | rfl <;> simp
theorem one8 (w : World) (x : UInt8) : (w.alloc (.cells #[.int .u8 (x.toNat : Int)] 5)).ownsRow w.heap.size 5 1 (.slice (some ⟨w.heap.size, 0, none⟩) 1 1) 1 (Lib.byteCells [x]) := by
  refine ⟨by simp [Lib.byteCells], .inr ⟨w.heap.size, 1, _, rfl, Nat.le_refl _, heap_alloc_new w _, Nat.le_refl _, by decide, rfl, ?_⟩⟩
  rfl
theorem own_shape8 {w : World} {b n : Nat} {v : Value} {L : List UInt8} (own : w.ownsRow b 5 1 v n (Lib.byteCells L)) : ∃ a cap, v = .slice a n cap := by
  rcases own.2 with ⟨rfl, h0⟩ | ⟨g, c, cur, rfl, _⟩
  · exact ⟨none, 0, by rw [h0]⟩
  · exact ⟨_, c, rfl⟩

set_option maxRecDepth 100000 in
set_option maxHeartbeats 16000000 in
theorem refPutLeaf_any (p : Option Addr) (n cap : Nat) (f : Nat → Pt) (hf : ∀ i, i < n → (f i).ok) (nx : Int) (k c : Nat → Int) (h1 : n ≤ cap) (h2 : cap ≤ maxLen) (w : World) (HR : RowP w p 4 n (fun i => pcells (f i))) (hB : leafB n f nx k c = true) :
    Calls Try.prog 41 #[ndval true (.slice p n cap) nx k c] w fun e w' => ∃ a c', e = .returned (.slice a (leafO nx n f).length c') ∧ Octs w' a (leafO nx n f) ∧ Below w.heap.size w w' := by
  obtain ⟨n4, x0, x1, _, _, hg⟩ := leafB_parts hB
  have hb0 : Below w.heap.size w (w.alloc (.cells (ndcells true (.slice p n cap) nx k c) 61)) := (Below.refl _ _).alloc (Nat.le_refl _) _
  have BX := Blk.new w (ndcells true (.slice p n cap) nx k c) 61
  have D0 := hid hb0
  have HBX := hid BX
  have HR0 := hid HR
  have HF := hid hf
  have HG := hid hg
  have u1 : IntKind.u8.wrap nx = nx := IntWalk.u8_in _ (by omega)
  have u2 : nx % 256 = nx := by omega
  have u3 : IntKind.u8.wrap (n : Int) = (n : Int) := IntWalk.u8_in _ (by omega)
  have u4 : (n : Int) % 256 = (n : Int) := by omega
  have OT := fun wx => three8 wx 1 (UInt8.ofNat nx.toNat) (UInt8.ofNat n) 5
  rw [oct_int nx x0 x1, show ((UInt8.ofNat n).toNat : Int) = (n : Int) from oct_int (n : Int) (by omega) (by omega), show (((1 : UInt8).toNat : Nat) : Int) = 1 from rfl, show [(1 : UInt8), UInt8.ofNat nx.toNat, UInt8.ofNat n] = lheadB nx n by simp [lheadB, leB]] at OT
  have hhl := lheadB_length nx n
  replace OT := hid OT
  obtain ⟨LO, hLO⟩ : ∃ LO, leafO nx n f = LO := ⟨_, rfl⟩
  rw [hLO]
  replace hLO := hid hLO
  unfold maxLen at h2
  clear hb0 BX HR hf hg hB
  obtain ⟨lx, kx, fx⟩ := HBX.out
  go_enter Try.func41, Try.ntmps41
  go_wp2_with fail
  clear lx kx fx u1 u2 u3 u4
  go_loopw [3, 4] (fun v i wx => ∃ (q : Nat) (va : Option Addr) (vc : Nat), q ≤ n ∧ i = .int .i64 (q : Int) ∧ v = .slice va (lheadB nx n ++ ptsB f q).length vc ∧ Octs wx va (lheadB nx n ++ ptsB f q) ∧ Below (w.alloc (.cells (ndcells true (.slice p n cap) nx k c) 61)).heap.size (w.alloc (.cells (ndcells true (.slice p n cap) nx k c) 61)) wx) (fun _ i _ => n - (intOf i).toNat)
  case atStart =>
    have h9 := OT.out (w.alloc (.cells (ndcells true (.slice p n cap) nx k c) 61))
    rw [World.size_alloc] at h9
    exact ⟨0, some ⟨w.heap.size + 1, 0, none⟩, 3, by omega, rfl, by simp [ptsB, hhl], by simpa [ptsB] using h9, (Below.refl _ _).alloc (Nat.le_refl _) _⟩
  case round =>
    obtain ⟨q, va, vc, hq, rfl, rfl, OV, hb⟩ := hrel
    have HB := hid (HBX.out.more hb)
    have D1 := hid (below2 D0.out hb D0.out.size)
    obtain ⟨l1, hl1⟩ : ∃ l1, (lheadB nx n ++ ptsB f q).length = l1 := ⟨_, rfl⟩
    have hlen := ptsB_length f q fun i hi => (goodL_may (HG.out i (by omega))).2.2
    have hl1b : l1 ≤ 119 := by rw [← hl1, List.length_append, hhl]; omega
    by_cases hlt : q < n
    · obtain ⟨b, o, rfl, R0⟩ := HR0.out.row (by omega)
      have RR := R0.more D1.out
      have z0 := RR.at0 hlt (v := .int .i64 (f q).id) rfl
      have z1 := RR.at1 hlt (v := .int .u32 (f q).x) rfl
      have z2 := RR.at2 hlt (v := .int .u32 (f q).y) rfl
      have z3 := RR.at3 hlt (v := .string (f q).d) rfl
      have hm := goodL_may (HG.out q hlt)
      have KP := hid (fun wx => refPoint_any (f q) (HF.out q hlt) hm wx)
      have hpl := pointB_length (f q)
      have hms := hm.2.2
      have hst : lheadB nx n ++ ptsB f (q + 1) = (lheadB nx n ++ ptsB f q) ++ pointB (f q) := by simp only [ptsB]; rw [List.append_assoc]
      replace hst := hid hst
      have hpl2 : (pointB (f q)).length ≤ 29 := by omega
      have hb2 := hid hb
      have OV2 := hid OV
      rw [hl1]
      replace hl1 := hid hl1
      obtain ⟨lx, kx, fx⟩ := HB.out
      clear hb OV RR R0 hm hms hpl hlen
      generalize lheadB nx n ++ ptsB f q = LL at *
      go_wp2_with fail
      refine (KP.out _).mono ?_
      rintro e w5 ⟨v5, rfl, pa, pc, rfl, OP, hb5⟩
      have KC := hid (refCat_len LL (pointB (f q)) l1 (pointB (f q)).length hl1.out rfl va pa vc pc w5 (OV2.out.more hb5) (Octs.of_own OP) (by omega))
      have hb6 := hid (below2 hb2.out hb5 hb2.out.size)
      clear OP hb5 KP lx kx fx z0 z1 z2 z3
      generalize hpn : (pointB (f q)).length = pn at *
      replace hpn := hid hpn
      go_wp2_with fail
      refine KC.out.mono ?_
      rintro e w6 ⟨ca, cc, rfl, OC, hb7⟩
      have hl2 : (LL ++ pointB (f q)).length = l1 + pn := by rw [List.length_append, hl1.out, hpn.out]
      have O7 := hid (Octs.of_own (l := LL ++ pointB (f q)) (by rw [hl2]; exact OC))
      have hb8 := hid (below2 hb6.out hb7 hb6.out.size)
      replace hl2 := hid hl2
      clear OC hb7 KC hb6
      go_wp2_with fail
      go_roundw
      case rel => exact ⟨q + 1, ca, cc, by omega, by go_num, by rw [hst.out, hl2.out], by rw [hst.out]; exact O7.out, hb8.out⟩
      case measure => simp [intOf]; omega
    · obtain rfl : q = n := by omega
      have hLL : lheadB nx q ++ ptsB f q = LO := hLO.out
      rw [hLL] at OV
      rw [hLL]
      have HO := hid OV
      replace hLL := hid hLL
      obtain ⟨lx, kx, fx⟩ := HB.out
      replace hb := hid hb
      clear OV hl1 hl1b hlen hhl
      go_wp2_with fail
      go_ret
      exact ⟨_, _, rfl, HO.out, D1.out⟩

set_option maxRecDepth 100000 in
set_option maxHeartbeats 16000000 in
theorem refPutOther_any (v : Value) (nx : Int) (k c : Nat → Int) (w : World) (hk : ∀ i, i < 4 → 0 ≤ k i ∧ k i ≤ 255 ∧ 0 ≤ c i ∧ c i ≤ 65535) :
    Calls Try.prog 41 #[ndval false v nx k c] w fun e w' => ∃ a c', e = .returned (.slice a (otherO k c).length c') ∧ Octs w' a (otherO k c) ∧ Below w.heap.size w w' := by
  obtain ⟨a0, b0, c0, d0⟩ := hk 0 (by omega)
  obtain ⟨a1, b1, c1, d1⟩ := hk 1 (by omega)
  obtain ⟨a2, b2, c2, d2⟩ := hk 2 (by omega)
  obtain ⟨a3, b3, c3, d3⟩ := hk 3 (by omega)
  have hl : (otherO k c).length = 13 := by simp [otherO, numsB_length, leB_length]
  have hO : otherO k c = [0] ++ [UInt8.ofNat (k 0).toNat] ++ [UInt8.ofNat (k 1).toNat] ++ [UInt8.ofNat (k 2).toNat] ++ [UInt8.ofNat (k 3).toNat] ++ leB (c 0).toNat 2 ++ leB (c 1).toNat 2 ++ leB (c 2).toNat 2 ++ leB (c 3).toNat 2 := by
    simp [otherO, numsB, leB]
  have e0 := oct_int (k 0) a0 b0
  have e1 := oct_int (k 1) a1 b1
  have e2 := oct_int (k 2) a2 b2
  have e3 := oct_int (k 3) a3 b3
  have u0 : IntKind.u8.wrap (k 0) = k 0 := IntWalk.u8_in _ (by omega)
  have u1 : IntKind.u8.wrap (k 1) = k 1 := IntWalk.u8_in _ (by omega)
  have u2 : IntKind.u8.wrap (k 2) = k 2 := IntWalk.u8_in _ (by omega)
  have u3 : IntKind.u8.wrap (k 3) = k 3 := IntWalk.u8_in _ (by omega)
  have m0 : k 0 % 256 = k 0 := by omega
  have m1 : k 1 % 256 = k 1 := by omega
  have m2 : k 2 % 256 = k 2 := by omega
  have m3 : k 3 % 256 = k 3 := by omega
  obtain ⟨W0, hW0⟩ : ∃ W0, w.alloc (.cells (ndcells false v nx k c) 61) = W0 := ⟨_, rfl⟩
  have hb0 : Below w.heap.size w W0 := by rw [← hW0]; exact (Below.refl _ _).alloc (Nat.le_refl _) _
  have BX : Blk W0 w.heap.size (ndcells false v nx k c) := by rw [← hW0]; exact Blk.new w _ _
  have OW0 := one8 W0 0
  rw [show (((0 : UInt8).toNat : Nat) : Int) = 0 from rfl] at OW0
  have hW1b : Below W0.heap.size W0 (W0.alloc (.cells #[.int .u8 0] 5)) := (Below.refl _ _).alloc (Nat.le_refl _) _
  obtain ⟨W1, hW1⟩ : ∃ W1, W0.alloc (.cells #[.int .u8 0] 5) = W1 := ⟨_, rfl⟩
  rw [hW1] at OW0 hW1b
  have X0 := hid (BX.more hW1b)
  have P0 := hid OW0
  have D0 := hid (below2 hb0 hW1b hb0.size)
  have hz0 := hid hW1b.size
  have hB := hid (show w.heap.size ≤ W0.heap.size from hb0.size)
  have hBX := hid BX.lt
  replace hO := hid hO
  clear hk OW0 hW1b hb0 hl
  obtain ⟨lx, kx, fx⟩ := BX
  go_enter Try.func41, Try.ntmps41
  go_wp2_with fail
  clear lx kx fx hW1 hW0
  have P0' : W1.ownsRow W0.heap.size 5 1 (.slice (some ⟨W0.heap.size, 0, none⟩) 1 1) ([0] : List UInt8).length (Lib.byteCells [0]) := P0.out
  replace P0' := hid P0'
  clear P0
  refine wp_loop_rounds 5 ?_
  rw [rounds_succ]
  obtain ⟨v1, w1, hr1, R1, S1, _⟩ := push_octet W0.heap.size 22 W1 (.slice (some ⟨W0.heap.size, 0, none⟩) 1 1) (([0] : List UInt8)) P0'.out (UInt8.ofNat (k 0).toNat) (by simp) hz0.out
  rw [e0] at hr1
  have X1 := hid (X0.out.sole S1 (fun h => by have h1 := (P0'.out.lt _ h).1; have h2 := hBX.out; omega))
  have D1 := hid (D0.out.trans (S1.below (B := w.heap.size) D0.out.size fun j hj => by have h1 := (P0'.out.lt _ hj).1; have h2 := hB.out; omega))
  have hz1 := hid (show W0.heap.size ≤ w1.heap.size from Nat.le_trans hz0.out S1.size)
  obtain ⟨va1, vc1, rfl⟩ := own_shape8 R1
  have P1 := hid R1
  clear S1 R1
  obtain ⟨lx, kx, fx⟩ := X0.out
  go_wp2_with (at_builtin; refine Lib.wpList_append_run _ rfl _ _ _ _ rfl _ _ rfl rfl _ _ hr1 ?_)
  clear lx kx fx hr1 P0' X0 D0
  rw [rounds_succ]
  obtain ⟨v2, w2, hr2, R2, S2, _⟩ := push_octet W0.heap.size 22 w1 (.slice va1 2 vc1) (([0] : List UInt8) ++ [UInt8.ofNat (k 0).toNat]) P1.out (UInt8.ofNat (k 1).toNat) (by simp) hz1.out
  rw [e1] at hr2
  have X2 := hid (X1.out.sole S2 (fun h => by have h1 := (P1.out.lt _ h).1; have h2 := hBX.out; omega))
  have D2 := hid (D1.out.trans (S2.below (B := w.heap.size) D1.out.size fun j hj => by have h1 := (P1.out.lt _ hj).1; have h2 := hB.out; omega))
  have hz2 := hid (show W0.heap.size ≤ w2.heap.size from Nat.le_trans hz1.out S2.size)
  obtain ⟨va2, vc2, rfl⟩ := own_shape8 R2
  have P2 := hid R2
  clear S2 R2
  obtain ⟨lx, kx, fx⟩ := X1.out
  go_wp2_with (at_builtin; refine Lib.wpList_append_run _ rfl _ _ _ _ rfl _ _ rfl rfl _ _ hr2 ?_)
  clear lx kx fx hr2 P1 X1 D1
  rw [rounds_succ]
  obtain ⟨v3, w3, hr3, R3, S3, _⟩ := push_octet W0.heap.size 22 w2 (.slice va2 3 vc2) (([0] : List UInt8) ++ [UInt8.ofNat (k 0).toNat] ++ [UInt8.ofNat (k 1).toNat]) P2.out (UInt8.ofNat (k 2).toNat) (by simp) hz2.out
  rw [e2] at hr3
  have X3 := hid (X2.out.sole S3 (fun h => by have h1 := (P2.out.lt _ h).1; have h2 := hBX.out; omega))
  have D3 := hid (D2.out.trans (S3.below (B := w.heap.size) D2.out.size fun j hj => by have h1 := (P2.out.lt _ hj).1; have h2 := hB.out; omega))
  have hz3 := hid (show W0.heap.size ≤ w3.heap.size from Nat.le_trans hz2.out S3.size)
  obtain ⟨va3, vc3, rfl⟩ := own_shape8 R3
  have P3 := hid R3
  clear S3 R3
  obtain ⟨lx, kx, fx⟩ := X2.out
  go_wp2_with (at_builtin; refine Lib.wpList_append_run _ rfl _ _ _ _ rfl _ _ rfl rfl _ _ hr3 ?_)
  clear lx kx fx hr3 P2 X2 D2
  rw [rounds_succ]
  obtain ⟨v4, w4, hr4, R4, S4, _⟩ := push_octet W0.heap.size 22 w3 (.slice va3 4 vc3) (([0] : List UInt8) ++ [UInt8.ofNat (k 0).toNat] ++ [UInt8.ofNat (k 1).toNat] ++ [UInt8.ofNat (k 2).toNat]) P3.out (UInt8.ofNat (k 3).toNat) (by simp) hz3.out
  rw [e3] at hr4
  have X4 := hid (X3.out.sole S4 (fun h => by have h1 := (P3.out.lt _ h).1; have h2 := hBX.out; omega))
  have D4 := hid (D3.out.trans (S4.below (B := w.heap.size) D3.out.size fun j hj => by have h1 := (P3.out.lt _ hj).1; have h2 := hB.out; omega))
  have hz4 := hid (show W0.heap.size ≤ w4.heap.size from Nat.le_trans hz3.out S4.size)
  obtain ⟨va4, vc4, rfl⟩ := own_shape8 R4
  have P4 := hid R4
  clear S4 R4
  obtain ⟨lx, kx, fx⟩ := X3.out
  go_wp2_with (at_builtin; refine Lib.wpList_append_run _ rfl _ _ _ _ rfl _ _ rfl rfl _ _ hr4 ?_)
  clear lx kx fx hr4 P3 X3 D3
  rw [rounds_succ]
  go_wp2_with fail
  have OO4 := hid (Octs.of_own (l := ([0] : List UInt8) ++ [UInt8.ofNat (k 0).toNat] ++ [UInt8.ofNat (k 1).toNat] ++ [UInt8.ofNat (k 2).toNat] ++ [UInt8.ofNat (k 3).toNat]) P4.out)
  clear P4
  refine wp_loop_rounds 5 ?_
  rw [rounds_succ]
  have KN5 := hid (fun wx => refNum_fit (c 0) 2 2 rfl (by omega) (by omega) (by omega) wx)
  obtain ⟨lx, kx, fx⟩ := X4.out
  go_wp2_with fail
  refine (KN5.out _).mono ?_
  rintro e x5 ⟨na5, nc5, rfl, ON5, hb5⟩
  have KC5 := hid (refCat_len (([0] : List UInt8) ++ [UInt8.ofNat (k 0).toNat] ++ [UInt8.ofNat (k 1).toNat] ++ [UInt8.ofNat (k 2).toNat] ++ [UInt8.ofNat (k 3).toNat]) (leB (c 0).toNat 2) 5 2 (by simp [leB_length]) (leB_length _ _) va4 na5 vc4 nc5 x5 (OO4.out.more hb5) ON5 (by omega))
  have DD5 := hid (below2 D4.out hb5 D4.out.size)
  have XX5 := hid (X4.out.more hb5)
  clear lx kx fx KN5 ON5 hb5 D4 X4 OO4
  go_wp2_with fail
  refine KC5.out.mono ?_
  rintro e y5 ⟨ca5, cc5, rfl, OC5, hc5⟩
  have OO5 := hid (Octs.of_own (l := ([0] : List UInt8) ++ [UInt8.ofNat (k 0).toNat] ++ [UInt8.ofNat (k 1).toNat] ++ [UInt8.ofNat (k 2).toNat] ++ [UInt8.ofNat (k 3).toNat] ++ leB (c 0).toNat 2) (a := ca5) (cap := cc5) (by rw [show (([0] : List UInt8) ++ [UInt8.ofNat (k 0).toNat] ++ [UInt8.ofNat (k 1).toNat] ++ [UInt8.ofNat (k 2).toNat] ++ [UInt8.ofNat (k 3).toNat] ++ leB (c 0).toNat 2).length = 7 by simp [leB_length]]; exact OC5))
  have D5 := hid (below2 DD5.out hc5 DD5.out.size)
  have X5 := hid (XX5.out.more hc5)
  clear OC5 hc5 KC5 DD5 XX5
  go_wp2_with fail
  rw [rounds_succ]
  have KN6 := hid (fun wx => refNum_fit (c 1) 2 2 rfl (by omega) (by omega) (by omega) wx)
  obtain ⟨lx, kx, fx⟩ := X5.out
  go_wp2_with fail
  refine (KN6.out _).mono ?_
  rintro e x6 ⟨na6, nc6, rfl, ON6, hb6⟩
  have KC6 := hid (refCat_len (([0] : List UInt8) ++ [UInt8.ofNat (k 0).toNat] ++ [UInt8.ofNat (k 1).toNat] ++ [UInt8.ofNat (k 2).toNat] ++ [UInt8.ofNat (k 3).toNat] ++ leB (c 0).toNat 2) (leB (c 1).toNat 2) 7 2 (by simp [leB_length]) (leB_length _ _) ca5 na6 cc5 nc6 x6 (OO5.out.more hb6) ON6 (by omega))
  have DD6 := hid (below2 D5.out hb6 D5.out.size)
  have XX6 := hid (X5.out.more hb6)
  clear lx kx fx KN6 ON6 hb6 D5 X5 OO5
  go_wp2_with fail
  refine KC6.out.mono ?_
  rintro e y6 ⟨ca6, cc6, rfl, OC6, hc6⟩
  have OO6 := hid (Octs.of_own (l := ([0] : List UInt8) ++ [UInt8.ofNat (k 0).toNat] ++ [UInt8.ofNat (k 1).toNat] ++ [UInt8.ofNat (k 2).toNat] ++ [UInt8.ofNat (k 3).toNat] ++ leB (c 0).toNat 2 ++ leB (c 1).toNat 2) (a := ca6) (cap := cc6) (by rw [show (([0] : List UInt8) ++ [UInt8.ofNat (k 0).toNat] ++ [UInt8.ofNat (k 1).toNat] ++ [UInt8.ofNat (k 2).toNat] ++ [UInt8.ofNat (k 3).toNat] ++ leB (c 0).toNat 2 ++ leB (c 1).toNat 2).length = 9 by simp [leB_length]]; exact OC6))
  have D6 := hid (below2 DD6.out hc6 DD6.out.size)
  have X6 := hid (XX6.out.more hc6)
  clear OC6 hc6 KC6 DD6 XX6
  go_wp2_with fail
  rw [rounds_succ]
  have KN7 := hid (fun wx => refNum_fit (c 2) 2 2 rfl (by omega) (by omega) (by omega) wx)
  obtain ⟨lx, kx, fx⟩ := X6.out
  go_wp2_with fail
  refine (KN7.out _).mono ?_
  rintro e x7 ⟨na7, nc7, rfl, ON7, hb7⟩
  have KC7 := hid (refCat_len (([0] : List UInt8) ++ [UInt8.ofNat (k 0).toNat] ++ [UInt8.ofNat (k 1).toNat] ++ [UInt8.ofNat (k 2).toNat] ++ [UInt8.ofNat (k 3).toNat] ++ leB (c 0).toNat 2 ++ leB (c 1).toNat 2) (leB (c 2).toNat 2) 9 2 (by simp [leB_length]) (leB_length _ _) ca6 na7 cc6 nc7 x7 (OO6.out.more hb7) ON7 (by omega))
  have DD7 := hid (below2 D6.out hb7 D6.out.size)
  have XX7 := hid (X6.out.more hb7)
  clear lx kx fx KN7 ON7 hb7 D6 X6 OO6
  go_wp2_with fail
  refine KC7.out.mono ?_
  rintro e y7 ⟨ca7, cc7, rfl, OC7, hc7⟩
  have OO7 := hid (Octs.of_own (l := ([0] : List UInt8) ++ [UInt8.ofNat (k 0).toNat] ++ [UInt8.ofNat (k 1).toNat] ++ [UInt8.ofNat (k 2).toNat] ++ [UInt8.ofNat (k 3).toNat] ++ leB (c 0).toNat 2 ++ leB (c 1).toNat 2 ++ leB (c 2).toNat 2) (a := ca7) (cap := cc7) (by rw [show (([0] : List UInt8) ++ [UInt8.ofNat (k 0).toNat] ++ [UInt8.ofNat (k 1).toNat] ++ [UInt8.ofNat (k 2).toNat] ++ [UInt8.ofNat (k 3).toNat] ++ leB (c 0).toNat 2 ++ leB (c 1).toNat 2 ++ leB (c 2).toNat 2).length = 11 by simp [leB_length]]; exact OC7))
  have D7 := hid (below2 DD7.out hc7 DD7.out.size)
  have X7 := hid (XX7.out.more hc7)
  clear OC7 hc7 KC7 DD7 XX7
  go_wp2_with fail
  rw [rounds_succ]
  have KN8 := hid (fun wx => refNum_fit (c 3) 2 2 rfl (by omega) (by omega) (by omega) wx)
  obtain ⟨lx, kx, fx⟩ := X7.out
  go_wp2_with fail
  refine (KN8.out _).mono ?_
  rintro e x8 ⟨na8, nc8, rfl, ON8, hb8⟩
  have KC8 := hid (refCat_len (([0] : List UInt8) ++ [UInt8.ofNat (k 0).toNat] ++ [UInt8.ofNat (k 1).toNat] ++ [UInt8.ofNat (k 2).toNat] ++ [UInt8.ofNat (k 3).toNat] ++ leB (c 0).toNat 2 ++ leB (c 1).toNat 2 ++ leB (c 2).toNat 2) (leB (c 3).toNat 2) 11 2 (by simp [leB_length]) (leB_length _ _) ca7 na8 cc7 nc8 x8 (OO7.out.more hb8) ON8 (by omega))
  have DD8 := hid (below2 D7.out hb8 D7.out.size)
  have XX8 := hid (X7.out.more hb8)
  clear lx kx fx KN8 ON8 hb8 D7 X7 OO7
  go_wp2_with fail
  refine KC8.out.mono ?_
  rintro e y8 ⟨ca8, cc8, rfl, OC8, hc8⟩
  have OO8 := hid (Octs.of_own (l := ([0] : List UInt8) ++ [UInt8.ofNat (k 0).toNat] ++ [UInt8.ofNat (k 1).toNat] ++ [UInt8.ofNat (k 2).toNat] ++ [UInt8.ofNat (k 3).toNat] ++ leB (c 0).toNat 2 ++ leB (c 1).toNat 2 ++ leB (c 2).toNat 2 ++ leB (c 3).toNat 2) (a := ca8) (cap := cc8) (by rw [show (([0] : List UInt8) ++ [UInt8.ofNat (k 0).toNat] ++ [UInt8.ofNat (k 1).toNat] ++ [UInt8.ofNat (k 2).toNat] ++ [UInt8.ofNat (k 3).toNat] ++ leB (c 0).toNat 2 ++ leB (c 1).toNat 2 ++ leB (c 2).toNat 2 ++ leB (c 3).toNat 2).length = 13 by simp [leB_length]]; exact OC8))
  have D8 := hid (below2 DD8.out hc8 DD8.out.size)
  have X8 := hid (XX8.out.more hc8)
  clear OC8 hc8 KC8 DD8 XX8
  go_wp2_with fail
  rw [rounds_succ]
  have hl : (otherO k c).length = 13 := by simp [otherO, numsB_length, leB_length]
  go_wp2_with fail
  go_ret
  exact ⟨_, _, by rw [hl]; rfl, by rw [hO.out]; exact OO8.out, D8.out⟩
/-- The document's own octets of a node that may be. -/
theorem refNPut_any (lf : Bool) (p : Option Addr) (n cap : Nat) (f : Nat → Pt) (hf : ∀ i, i < n → (f i).ok) (nx : Int) (k c : Nat → Int) (h1 : n ≤ cap) (h2 : cap ≤ maxLen) (w : World) (HR : RowP w p 4 n (fun i => pcells (f i))) (hB : nodeB lf n f nx k c = true) :
    Calls Try.prog 41 #[ndval lf (.slice p n cap) nx k c] w fun e w' => ∃ a c', e = .returned (.slice a (nodeO lf n f nx k c).length c') ∧ Octs w' a (nodeO lf n f nx k c) ∧ Below w.heap.size w w' := by
  cases lf with
  | true => exact refPutLeaf_any p n cap f hf nx k c h1 h2 w HR hB
  | false => exact refPutOther_any _ nx k c w (fun i hi => by obtain ⟨_, _, q⟩ := otherB_parts hB; have := q i hi; omega)
end Go.Proofs.Ytgnnikjpnmalmaa

/-
  The document's own nodes: of any octets.
-/



namespace Go.Proofs.Ytgnnikjpnmalmaa
open Go.RowKit
set_option linter.unusedVariables false

/-- The document's own reading of any octets. -/
theorem refRead8_any (l : List UInt8) (a : Option Addr) (cap : Nat) (h1 : l.length ≤ cap) (h2 : cap ≤ maxLen) (w : World) (O : Octs w a l) :
    Calls Try.prog 43 #[.slice a l.length cap] w (RefPost l w) := by
  by_cases h3 : l.length < 3
  · exact refReadNone_any l a cap h1 h2 w O (.inl h3)
  · by_cases h0 : byteAt l 0 = 1
    · by_cases h13 : l.length = 13
      · exact refReadLeafC l a cap h1 h2 w O (by omega) h0 ⟨h13, by omega⟩
      · by_cases hc : cap = 3
        · exact refReadLeafB l a cap h1 h2 w O (by omega) h0 ⟨h13, hc⟩
        · exact refReadLeafA l a cap h1 h2 w O (by omega) h0 ⟨h13, hc⟩
    · by_cases h13 : l.length = 13 ∧ byteAt l 0 = 0
      · exact refReadOther_any l a cap h1 h2 w O h13.1 h13.2
      · exact refReadNone_any l a cap h1 h2 w O (.inr ⟨h0, by omega⟩)
end Go.Proofs.Ytgnnikjpnmalmaa

/-
  Layer 8: which nodes may be, any one's octets, and a node of any octets, are as the page says. The walk.
-/






namespace Go.Proofs.Ytgnnikjpnmalmaa
open Go.RowKit
set_option linter.unusedVariables false
set_option linter.unusedSimpArgs false

theorem row_less {w : World} {p : Option Addr} {sz n N : Nat} {f : Nat → List Value} (h : RowP w p sz n f) (hN : N ≤ n) : RowP w p sz N f := by
  by_cases h0 : N = 0
  · exact .inl h0
  · obtain ⟨b, o, e, r⟩ := h.resolve_left (by omega)
    exact .inr ⟨b, o, e, r.lt, fun i hi => r.cell i (by omega)⟩

/-- A slice with these octets. -/
def NewOct (l : List UInt8) (v : Value) (w : World) : Prop := ∃ ra rc, v = .slice ra l.length rc ∧ Octs w ra l
theorem NewOct.stable (l : List UInt8) (v : Value) : Stable (NewOct l v) := by
  rintro w w' ⟨ra, rc, e, h⟩ hb
  exact ⟨ra, rc, e, h.more hb⟩
theorem NewOct.conv {l : List UInt8} {ra : Option Addr} {rc : Nat} {w : World} (h : NewOct l (.slice ra l.length rc) w) : (convert 22 9 (.slice ra l.length rc)).run Try.prog w = .ok (.string (textOf l)) w := by
  obtain ⟨ra', rc', e, O⟩ := h
  cases e
  exact conv_octs O rc

set_option maxRecDepth 100000 in
set_option maxHeartbeats 16000000 in
theorem nodeTells (lf : Bool) (p : Option Addr) (n cap : Nat) (f : Nat → Pt) (hf : ∀ i, i < n → (f i).ok) (nx : Int) (k c : Nat → Int) (hc : ∀ i, i < 4 → -9223372036854775808 ≤ c i ∧ c i ≤ 9223372036854775807)
    (lf' : Bool) (p' : Option Addr) (n' cap' : Nat) (f' : Nat → Pt) (nx' : Int) (k' c' : Nat → Int) (l : List UInt8) (a1 : Option Addr) (c1 : Nat) (h1 : n ≤ cap) (h2 : cap ≤ maxLen) (h3 : n' ≤ cap') (h4 : cap' ≤ maxLen) (h5 : l.length ≤ c1) (h6 : c1 ≤ maxLen) (hl : l.length ≤ 140737488355328) (w : World)
    (HR : RowP w p 4 n (fun i => pcells (f i))) (HQ : RowP w p' 4 n' (fun i => pcells (f' i))) (O : Octs w a1 l) :
    Calls Try.prog 7 #[ndval lf (.slice p n cap) nx k c, ndval lf' (.slice p' n' cap') nx' k' c', .slice a1 l.length c1] w fun e w' => e = .returned (.bool true) ∧ Below w.heap.size w w' := by
  obtain ⟨W0, hW0, hb0, BX, BY⟩ := box2n w (ndcells lf (.slice p n cap) nx k c) (ndcells lf' (.slice p' n' cap') nx' k' c')
  have KA := hid alive08
  have KD := hid (fun wx (hb : Below w.heap.size w wx) => (nread_any l a1 c1 hl wx (O.more hb)).mono (fun e w' h => nd_canon h))
  have KR := hid (fun wx (hb : Below w.heap.size w wx) => (refRead8_any l a1 c1 h5 h6 wx (O.more hb)).mono (fun e w' h => ref_canon h))
  have KY := hid (fun p1 p2 q1 q2 z1 z2 z3 z4 wx H1 H2 => refSame_any (rdLf l) (rdLf l) p1 p2 (rdL l).length (rdL l).length q1 q2 (ptAt (rdL l)) (ptAt (rdL l)) (rdX l) (rdX l) (rdKk l) (rdKk l) (rdCc l) (rdCc l) z1 z2 z3 z4 wx H1 H2)
  simp only [nSame_self] at KY
  generalize ptAt (rdL l) = yg at *
  generalize (rdL l).length = ym at *
  generalize rdLf l = yl at *
  generalize rdX l = yx at *
  generalize rdKk l = yk at *
  generalize rdCc l = yc at *
  generalize rdOk l = yo at *
  obtain ⟨er, her⟩ : ∃ er : Int, (if yo = true then (0 : Int) else 16) = er := ⟨_, rfl⟩
  simp only [her] at KD
  replace her := hid her
  obtain ⟨S1, hS1⟩ : ∃ S1, wrap64 (c 0 + c 1) = S1 := ⟨_, rfl⟩
  obtain ⟨S2, hS2⟩ : ∃ S2, wrap64 (S1 + c 2) = S2 := ⟨_, rfl⟩
  obtain ⟨S3, hS3⟩ : ∃ S3, wrap64 (S2 + c 3) = S3 := ⟨_, rfl⟩
  have hS0 : wrap64 (c 0) = c 0 := IntWalk.wrap64_in _ (hc 0 (by omega))
  have i1 : IntKind.i64.wrap (c 0 + c 1) = S1 := by rw [IntWalk.i64_left]; exact hS1
  have i2 : IntKind.i64.wrap (S1 + c 2) = S2 := by rw [IntWalk.i64_left]; exact hS2
  have i3 : IntKind.i64.wrap (S2 + c 3) = S3 := by rw [IntWalk.i64_left]; exact hS3
  have hR0 := hid HR
  have hQ0 := hid HQ
  have HF := hid hf
  have HO := hid O
  have D0 := hid hb0
  have HBX := hid BX
  have HBY := hid BY
  have h2' : cap ≤ 9223372036854775807 := by unfold maxLen at h2; exact h2
  have H24 := hid (And.intro h2 (And.intro h3 h4))
  clear HR HQ O hb0 BX BY hf hc h2 h3 h4
  obtain ⟨lx, kx, fx⟩ := HBX.out
  go_enter Try.func7, Try.ntmps7
  go_wp2_with fail
  refine (KA.out _).mono ?_
  rintro e w1 ⟨rfl, hb1⟩
  have X1 := hid (HBX.out.more hb1)
  have Y1 := hid (HBY.out.more hb1)
  have D1 := hid (below2 D0.out hb1 D0.out.size)
  clear hb1 lx kx fx HBX HBY D0 hW0 KA
  obtain ⟨lx, kx, fx⟩ := X1.out
  go_upto_if 20 with (fail)
  go_cut [21] (fun s21 wx => ∃ N, N ≤ n ∧ N ≤ 20 ∧ Blk wx w.heap.size (ndcells lf (.slice p N cap) nx k c) ∧ Blk wx (w.heap.size + 1) (ndcells lf' (.slice p' n' cap') nx' k' c') ∧ Below w.heap.size w wx)
  case first =>
    by_cases g : 20 < (n : Int)
    · have gc : (20 : Int) ≤ (cap : Int) := by omega
      have E1 := hid (X1.out.set 1 (.slice p 20 cap) (by simp))
      have S1' : Sole (fun j => j = w.heap.size) w1 (w1.setCell ⟨w.heap.size, 1, none⟩ (.slice p 20 cap)) := Sole.setCell _ _ rfl
      have E2 := hid (Y1.out.sole S1' (fun h => by have h' : w.heap.size + 1 = w.heap.size := h; omega))
      have E3 := hid (D1.out.trans (S1'.below (B := w.heap.size) D1.out.size fun j hj => by have h' : j = w.heap.size := hj; omega))
      have h20 : 20 ≤ n := by omega
      clear S1'
      go_wp2_with fail
      go_meet
      case rel => exact ⟨20, h20, by omega, E1.out, E2.out, E3.out⟩
    · have h20 : n ≤ 20 := by omega
      go_wp2_with fail
      go_meet
      case rel => exact ⟨n, Nat.le_refl _, h20, X1.out, Y1.out, D1.out⟩
  case rest =>
    obtain ⟨N, hN, hN20, X2, Y2, D2⟩ := hcut
    clear lx kx fx X1 Y1 D1
    have HX2 := hid X2
    have HY2 := hid Y2
    have HD2 := hid D2
    obtain ⟨m2, m3, m4⟩ := H24.out
    have HRN := row_less hR0.out hN
    have hfN : ∀ i, i < N → (f i).ok := fun i hi => HF.out i (by omega)
    have hNc : N ≤ cap := by omega
    have KN := hid (fun wx (hb : Below w.heap.size w wx) => refNode_any lf p N cap f hfN nx k c hNc m2 wx (HRN.more hb))
    have KP := hid (fun wx (hb : Below w.heap.size w wx) => nput_any lf p N cap f hfN nx k c hNc m2 wx (HRN.more hb))
    have KC := hid (fun wx (hb : Below w.heap.size w wx) => ncheck_any lf p N cap f hfN nx k c hNc m2 wx (HRN.more hb))
    have KF := hid (fun (hB : nodeB lf N f nx k c = true) wx (hb : Below w.heap.size w wx) => refNPut_any lf p N cap f hfN nx k c hNc m2 wx (HRN.more hb) hB)
    have KT := hid (fun wx => total_any lf p N cap nx k c S1 S2 S3 hS0 hS1 hS2 hS3 wx)
    have KS := hid (fun wx (hb : Below w.heap.size w wx) => nsame_any lf lf' p p' N n' cap cap' f f' nx nx' k k' c c' hNc m2 m3 m4 wx (HRN.more hb) (hQ0.out.more hb))
    have KM := hid (fun wx (hb : Below w.heap.size w wx) => refSame_any lf lf' p p' N n' cap cap' f f' nx nx' k k' c c' hNc m2 m3 m4 wx (HRN.more hb) (hQ0.out.more hb))
    have hL : nodeL lf N f nx k c = if nodeB lf N f nx k c then nodeO lf N f nx k c else [] := rfl
    generalize nSame lf lf' N n' f f' nx nx' k k' c c' = SM at *
    generalize nodeL lf N f nx k c = SL at *
    generalize nodeO lf N f nx k c = SO at *
    generalize nodeB lf N f nx k c = B at *
    replace hL := hid hL
    clear X2 Y2 D2 m2 m3 m4 HRN hfN hNc H24 HF hR0 hQ0
    obtain ⟨lx, kx, fx⟩ := HX2.out
    go_wp2_with fail
    refine (KN.out _ HD2.out).mono ?_
    rintro e w3 ⟨rfl, hb3⟩
    have X3 := hid (HX2.out.more hb3)
    have Y3 := hid (HY2.out.more hb3)
    have D3 := hid (below2 HD2.out hb3 HD2.out.size)
    clear hb3 lx kx fx HX2 HY2 HD2 KN
    obtain ⟨lx, kx, fx⟩ := X3.out
    go_wp2_with fail
    refine (KP.out _ D3.out).mono ?_
    rintro e w4 ⟨v4, rfl, xa, xc, rfl, OX, hb4⟩
    have X4 := hid (X3.out.more hb4)
    have Y4 := hid (Y3.out.more hb4)
    have D4 := hid (below2 D3.out hb4 D3.out.size)
    have XO := hid (Octs.of_own OX)
    clear hb4 lx kx fx X3 Y3 D3 KP OX
    obtain ⟨lx, kx, fx⟩ := X4.out
    go_upto_region 7 with (fail)
    go_cut [66] (fun s wx => s = .bool false ∧ Below w4.heap.size w4 wx)
    case first =>
      cases B with
      | false =>
        obtain rfl : SL = [] := hL.out
        rw [show nodeC false = 9 from rfl] at KC ⊢
        have q0 := fun u : Later w4 => u.blk X4.out
        have BU := hid (fun u : Later w4 => (D4.out.trans (u.h.mono (by have := D4.out.size; omega)) : Below w.heap.size w u.val))
        refine wp_region_late 34 (by kernel_rfl) (by kernel_rfl) ?_
        simp only [List.take_succ_cons, List.take_zero, List.drop_succ_cons, List.drop_zero]
        iterate 34 (go_big_quiet_step (((go_at_call 40; (with_reducible exact late_call (KC.out _ (BU.out _)))))))
        refine wpQuiet_nil ?_
        intro w7 h7'
        have h7 := late_out h7'
        clear h7' q0
        go_wp2_with fail
        go_meet
        case rel => exact ⟨by simp, h7⟩
      | true =>
        obtain rfl : SL = SO := hL.out
        rw [show nodeC true = 0 from rfl] at KC ⊢
        have KF' := hid (KF.out rfl)
        clear lx kx fx KF KD KR KY KT KS KM
        refine wp_region_late_wild 30 34 ?A (NewOct SL) ?hG (by kernel_rfl) (by kernel_rfl) (by kernel_rfl) (by decide) ?walk ?hc ?h2
        case hG => exact NewOct.stable SL
        case walk =>
          intro S hS hN
          have q0 := fun u : LaterC w4 S => LaterC.blk X4.out u
          have BU := hid (fun u : LaterC w4 S => (D4.out.trans (u.h.mono (by have := D4.out.size; omega)) : Below w.heap.size w u.val))
          have kx4 := fun u : LaterC w4 S => conv_octs (XO.out.more u.h) xc
          simp only [List.take_succ_cons, List.take_zero, List.drop_succ_cons, List.drop_zero]
          iterate 30 (go_big_quiet_step (((go_at_call 40; (with_reducible exact latec_call hS (KC.out _ (BU.out _)))))))
          refine wpQuiet_nil ?_
          rfl
        case hc =>
          refine ⟨_, 41, #[ndval lf (.slice p N cap) nx k c], rfl, by simp, by kernel_rfl, fun w => by kernel_rfl, fun u => ?_⟩
          refine (KF'.out _ (D4.out.trans (u.h.mono (by have := D4.out.size; omega)))).mono ?_
          rintro e w6 ⟨ra, rc, rfl, RO, hb6⟩
          exact ⟨_, rfl, hb6, ra, rc, rfl, RO⟩
        case h2 =>
          intro v hN
          obtain ⟨ra, rc, rfl, _⟩ := (Classical.choice hN).s
          have kr := fun u : LaterC w4 (NewOct SL (.slice ra SL.length rc)) => u.s.conv
          simp only [List.take_succ_cons, List.take_zero, List.drop_succ_cons, List.drop_zero, List.getElem?_toArray, List.getElem?_cons_succ, List.getElem?_cons_zero, Option.bind_some, Act.put, List.setIfInBounds_toArray, List.set_cons_succ, List.set_cons_zero]
          iterate 3 (go_big_quiet_step (fail))
          refine wpQuiet_nil ?_
          rintro w7 ⟨u7, rfl⟩
          have h7 := u7.h
          generalize u7.val = w7 at *
          clear kr
          go_wp2_with fail
          go_meet
          case rel => exact ⟨by simp, h7⟩
    case rest =>
      obtain ⟨rfl, hb5⟩ := hcut
      have X5 := hid (X4.out.more hb5)
      have Y5 := hid (Y4.out.more hb5)
      have D5 := hid (below2 D4.out hb5 D4.out.size)
      clear hb5 lx kx fx X4 Y4 D4 KC KF XO
      obtain ⟨TT, hTT⟩ : ∃ TT, (if lf then (N : Int) else S3) = TT := ⟨_, rfl⟩
      rw [hTT] at KT
      replace hTT := hid hTT
      obtain ⟨lx, kx, fx⟩ := X5.out
      go_upto_if 83 with (fail)
      go_cut [10] (fun s wx => s = .int .i64 TT ∧ Blk wx w.heap.size (ndcells lf (.slice p N cap) nx k c) ∧ Blk wx (w.heap.size + 1) (ndcells lf' (.slice p' n' cap') nx' k' c') ∧ Below w.heap.size w wx)
      case first =>
        have z0 : _ := X5.out.cell 0
        have z1 : _ := X5.out.cell 1
        clear lx kx fx
        go_wp2_with fail
        all_goals
          go_meet
          case rel =>
            refine ⟨?_, X5.out, Y5.out, D5.out⟩
            rw [← hTT.out]
            first
              | (rw [if_pos (by assumption)]; done)
              | (rw [if_neg (by assumption)]; done)
              | (rw [if_neg (by simp_all)]; done)
              | simp_all
      case rest =>
        obtain ⟨rfl, X6, Y6, D6⟩ := hcut
        replace X6 := hid X6
        replace Y6 := hid Y6
        replace D6 := hid D6
        clear lx kx fx X5 Y5 D5 hTT
        go_wp2_with fail
        refine (KD.out _ D6.out).mono ?_
        rintro e w7 ⟨pv, cv, rfl, d1, d2, RY, hb7⟩
        have hbA : Below w7.heap.size w7 (w7.alloc (.cells (ndcells yl (.slice pv ym cv) yx yk yc) 61)) := (Below.refl _ _).alloc (Nat.le_refl _) _
        have BA := hid (Blk.new w7 (ndcells yl (.slice pv ym cv) yx yk yc) 61)
        have hb7' := below2 hb7 hbA hb7.size
        have X7 := hid (X6.out.more hb7')
        have Y7 := hid (Y6.out.more hb7')
        have D7 := hid (below2 D6.out hb7' D6.out.size)
        have RY7 := hid (RY.more hbA)
        have dd := hid (And.intro d1 d2)
        clear hb7 hbA hb7' X6 Y6 D6 RY KD d1 d2
        go_wp2_with fail
        refine (KR.out _ D7.out).mono ?_
        rintro e w8 ⟨pz, cz, rfl, d3, d4, RZ, hb8⟩
        have hbB : Below w8.heap.size w8 (w8.alloc (.cells (ndcells yl (.slice pz ym cz) yx yk yc) 61)) := (Below.refl _ _).alloc (Nat.le_refl _) _
        have BB := Blk.new w8 (ndcells yl (.slice pz ym cz) yx yk yc) 61
        have hb8' := below2 hb8 hbB hb8.size
        have X8 := X7.out.more hb8'
        have Y8 := Y7.out.more hb8'
        have A8 := BA.out.more hb8'
        have D8 := hid (below2 D7.out hb8' D7.out.size)
        have RY8 := RY7.out.more hb8'
        have RZ8 := RZ.more hbB
        have dc := dd.out
        have KY8 := hid (fun u : Later (w8.alloc (.cells (ndcells yl (.slice pz ym cz) yx yk yc) 61)) => KY.out pv pz cv cz dc.1 dc.2 d3 d4 u.val (RY8.more u.h) (RZ8.more u.h))
        clear hb8 hbB hb8' X7 Y7 D7 RY7 RZ KR dd dc RY8 RZ8 d3 d4 BA KY
        go_wp2_with fail
        generalize hW8 : w8.alloc (.cells (ndcells yl (.slice pz ym cz) yx yk yc) 61) = W8 at *
        replace hW8 := hid hW8
        have q0 := fun u : Later W8 => u.blk X8
        have q1 := fun u : Later W8 => u.blk Y8
        have q2 := fun u : Later W8 => u.blk A8
        have q3 := fun u : Later W8 => u.blk BB
        have BU := hid (fun u : Later W8 => (D8.out.trans (u.h.mono (by have := D8.out.size; omega)) : Below w.heap.size w u.val))
        have tt : (TT == TT) = true := by simp
        have ss : (SM == SM) = true := by simp
        cases yo
        all_goals
          have her' := her.out
          simp at her'
          subst her'
          refine wp_region_late 31 (by kernel_rfl) (by kernel_rfl) ?_
          simp only [List.take_succ_cons, List.take_zero, List.drop_succ_cons, List.drop_zero]
          repeat (go_big_quiet_step ((first | (go_at_call 44; (with_reducible first | exact late_call (KY8.out _) | exact late_call (KM.out _ (BU.out _)))) | (go_at_call 45; (with_reducible exact late_call (KT.out _))) | (go_at_call 46; (with_reducible exact late_call (KS.out _ (BU.out _)))))))
          refine wpQuiet_nil ?_
          intro w9 h9'
          have h9 := late_out h9'
          have D9 := hid (below2 D8.out h9 D8.out.size)
          clear h9' q0 q1 q2 q3 h9
          go_wp2_with fail
          go_ret
          exact ⟨by simp, D9.out⟩
end Go.Proofs.Ytgnnikjpnmalmaa

/-
  What an argument that comes in is: a node.
-/




namespace Go.Proofs.Ytgnnikjpnmalmaa
open Go.ChangeShapes Go.WideShapes Go.ChangeAt Go.RowKit Go.Joins Go.Deep
set_option linter.unusedVariables false

section
variable {H : Type} {enc : TypeId × Value → H} {P : Program} {w : World} {base : Nat} {spare : Nat → Bool} {held : Bool}
/-- A slice of structs of one-cell fields in a field. -/
theorem sl_in8 {t e : TypeId} {fs : Array Field} {v : Value} {fuel : Nat} {x : DataW H × List MemPlace} (ht : P.underlying t = some (.slice e)) (he : P.underlying e = some (.struct fs))
    (hone : oneCellFields P fs = true) (hC : P.cellsOf e = fs.size) (hpos : 0 < fs.size) (h : DataW.trod enc P w base spare held fuel t [v] = some x) :
    ∃ (n : Nat) (F : Nat → Nat → Value), (∃ p cap, v = .slice p n cap ∧ n ≤ cap ∧ cap ≤ maxLen ∧ (n = 0 ∨ ∃ b o, p = some ⟨b, o, none⟩ ∧ b < w.heap.size ∧ ∀ i, i < n → ∀ j, j < fs.size → w.cell? ⟨b, o + i * fs.size + j, none⟩ = some (F i j))) ∧
      (∀ i, i < n → ∀ j f, fs[j]? = some f → ∃ m y, DataW.trod enc P w base spare held m f.type [F i j] = some y) ∧ (n = 0 ∨ ∃ el sp, x.1 = .slice el sp ∧ el.length = n) := by
  rcases open_slice_fields ht he hone hC h with hcs | ⟨a, len, cap, m, hcs, hl, hm, hmm, hi⟩
  · simp at hcs
    subst hcs
    exact ⟨0, fun _ _ => undef, ⟨none, 0, rfl, by omega, by unfold maxLen; omega, .inl rfl⟩, fun i hi => absurd hi (Nat.not_lt_zero _), .inl rfl⟩
  · simp at hcs
    subst hcs
    have hx : ∃ el sp, x.1 = .slice el sp ∧ el.length = len := by
      rcases open_slice ht h with ⟨h0, _⟩ | ⟨a', len', cap', m', n', D, Pl, hcs', _, _, _, _, hx, _⟩
      · simp at h0
      · simp at hcs'
        obtain ⟨_, rfl, _⟩ := hcs'
        exact ⟨_, _, by rw [hx], by simp⟩
    have hlm : len ≤ m := by rw [hmm]; split <;> omega
    by_cases h0 : len = 0
    · subst h0
      exact ⟨0, fun _ _ => undef, ⟨some a, cap, rfl, by omega, hm, .inl rfl⟩, fun i hi => absurd hi (Nat.not_lt_zero _), .inl rfl⟩
    · have hex : ∀ i j, i < len → j < fs.size → ∃ v, w.cell? (a.add (i * fs.size + j)) = some v ∧ ∀ f, fs[j]? = some f → ∃ m y, DataW.trod enc P w base spare held m f.type [v] = some y := by
        intro i j h1 h2
        obtain ⟨v, n, y, hc, hy⟩ := hi i (by omega) j fs[j] (Array.getElem?_eq_getElem h2)
        refine ⟨v, hc, fun f hfj => ?_⟩
        rw [Array.getElem?_eq_getElem h2] at hfj
        cases hfj
        exact ⟨n, y, hy⟩
      have hexF : ∃ F : Nat → Nat → Value, ∀ i j, i < len → j < fs.size → w.cell? (a.add (i * fs.size + j)) = some (F i j) ∧ ∀ f, fs[j]? = some f → ∃ m y, DataW.trod enc P w base spare held m f.type [F i j] = some y := by
        haveI : Nonempty Value := ⟨undef⟩
        exact ⟨fun i j => Classical.epsilon fun v => w.cell? (a.add (i * fs.size + j)) = some v ∧ ∀ f, fs[j]? = some f → ∃ m y, DataW.trod enc P w base spare held m f.type [v] = some y, fun i j h1 h2 => Classical.epsilon_spec (hex i j h1 h2)⟩
      obtain ⟨F, hF⟩ := hexF
      have c0 := (hF 0 0 (by omega) hpos).1
      have hsp : a.spot = none := by
        have := World.cell?_spot c0
        simpa [Addr.add] using this
      obtain ⟨b, o, sp⟩ := a
      simp only at hsp
      subst hsp
      have hadd : ∀ k, Addr.add ⟨b, o, none⟩ k = ⟨b, o + k, none⟩ := by
        intro k
        unfold Addr.add
        split
        · subst k; rfl
        · rfl
      refine ⟨len, F, ⟨_, cap, rfl, hl, hm, .inr ⟨b, o, rfl, ?_, fun i h1 j h2 => ?_⟩⟩, fun i h1 j f hfj => ?_, .inr hx⟩
      · have := cell_lt c0
        rwa [hadd] at this
      · have := (hF i j h1 h2).1
        rw [hadd, ← Nat.add_assoc] at this
        exact this
      · exact (hF i j h1 (Array.getElem?_eq_some_iff.1 hfj).1).2 f hfj
end

set_option maxRecDepth 100000 in
/-- A node that comes in. -/
theorem nd_of {H : Type} {enc : TypeId × Value → H} {W : World} {b0 : Nat} {v : Value} {d : DataW H} {p : List MemPlace} (hv : Value.okWide Try.prog W .any b0 61 v) (h : DataW.Trod enc Try.prog W 0 (fun _ => true) true 61 v d p) :
    ∃ (lf : Bool) (q : Option Addr) (n cap : Nat) (f : Nat → Pt) (nx : Int) (k c : Nat → Int), v = ndval lf (.slice q n cap) nx k c ∧ n ≤ cap ∧ cap ≤ maxLen ∧ RowP W q 4 n (fun i => pcells (f i)) ∧ (∀ i, i < n → (f i).ok) ∧ ∀ i, i < 4 → -9223372036854775808 ≤ c i ∧ c i ≤ 9223372036854775807 := by
  obtain ⟨cs, rfl, hsz⟩ := okWide_struct Try.underlying61 hv
  obtain ⟨fuel, hf⟩ := h
  obtain ⟨xs, m, _, hx, hl, hxl, hfield⟩ := DataW.trod_struct Try.underlying61 hf
  have hC : Try.prog.cellsOf 61 = 11 := by kernel_rfl
  have hcb : Try.prog.cellsOf 4 = 1 := by kernel_rfl
  have hcs : Try.prog.cellsOf 51 = 1 := by kernel_rfl
  have hci : Try.prog.cellsOf 3 = 1 := by kernel_rfl
  have hca : Try.prog.cellsOf 59 = 4 := by kernel_rfl
  have hl' : cs.toList.length = 11 := by rw [← hC]; exact hl
  have hxl' : xs.length = 5 := hxl
  obtain ⟨l⟩ := cs
  match l, hl', xs, hxl' with
  | [e0, e1, e2, k0, k1, k2, k3, c0, c1, c2, c3], _, [y0, y1, y2, y3, y4], _ =>
    have h0 := hfield 0 _ rfl
    have h1 := hfield 1 _ rfl
    have h2 := hfield 2 _ rfl
    have h3 := hfield 3 _ rfl
    have h4 := hfield 4 _ rfl
    simp [Value.cells, hcb, hcs, hci, hca] at h0 h1 h2 h3 h4
    obtain ⟨lf, r0, _⟩ := DataW.trod_bool Try.underlying4 h0
    obtain ⟨nx, r2, _, _⟩ := DataW.trod_int Try.underlying3 h2
    obtain ⟨n, F, ⟨q, cap, hcv, g1, g2, g3⟩, hF, _⟩ := sl_in8 Try.underlying51 Try.underlying33 (by kernel_rfl) (by kernel_rfl) (by decide) h1
    obtain ⟨_, _, _, _, _, _, a0, a1, a2, a3⟩ := trod_array4 Try.underlying59 hci h3
    obtain ⟨_, _, _, _, _, _, b0', b1, b2, b3⟩ := trod_array4 Try.underlying59 hci h4
    obtain ⟨z0, s0, _, _⟩ := DataW.trod_int Try.underlying3 a0
    obtain ⟨z1, s1, _, _⟩ := DataW.trod_int Try.underlying3 a1
    obtain ⟨z2, s2, _, _⟩ := DataW.trod_int Try.underlying3 a2
    obtain ⟨z3, s3, _, _⟩ := DataW.trod_int Try.underlying3 a3
    obtain ⟨u0, t0, _, w0⟩ := DataW.trod_int Try.underlying3 b0'
    obtain ⟨u1, t1, _, w1⟩ := DataW.trod_int Try.underlying3 b1
    obtain ⟨u2, t2, _, w2⟩ := DataW.trod_int Try.underlying3 b2
    obtain ⟨u3, t3, _, w3⟩ := DataW.trod_int Try.underlying3 b3
    simp at r0 r2 s0 s1 s2 s3 t0 t1 t2 t3
    subst r0 r2 s0 s1 s2 s3 t0 t1 t2 t3 hcv
    have each : ∀ i, i < n → ∃ q : Pt, q.ok ∧ [F i 0, F i 1, F i 2, F i 3] = pcells q := by
      intro i hi
      obtain ⟨m0, y0, t0⟩ := hF i hi 0 _ rfl
      obtain ⟨m1, y1, t1⟩ := hF i hi 1 _ rfl
      obtain ⟨m2, y2, t2⟩ := hF i hi 2 _ rfl
      obtain ⟨m3, y3, t3⟩ := hF i hi 3 _ rfl
      obtain ⟨a, e0, _, w0⟩ := DataW.trod_int Try.underlying3 t0
      obtain ⟨b, e1, _, w1⟩ := DataW.trod_int Try.underlying24 t1
      obtain ⟨c, e2, _, w2⟩ := DataW.trod_int Try.underlying24 t2
      obtain ⟨s, e3, _, w3⟩ := DataW.trod_string Try.underlying9 t3
      simp at e0 e1 e2 e3
      have g0 := bounds_i64 w0
      have g1 := bounds_u32 w1
      have g2 := bounds_u32 w2
      exact ⟨⟨a, b, c, s⟩, ⟨g0.1, g0.2, g1.1, g1.2, g2.1, g2.2, w3⟩, by rw [e0, e1, e2, e3]; rfl⟩
    have hg : ∃ g : Nat → Pt, ∀ i, i < n → (g i).ok ∧ [F i 0, F i 1, F i 2, F i 3] = pcells (g i) := by
      haveI : Nonempty Pt := ⟨⟨0, 0, 0, ByteArray.empty⟩⟩
      exact ⟨fun i => Classical.epsilon fun q => q.ok ∧ [F i 0, F i 1, F i 2, F i 3] = pcells q, fun i hi => Classical.epsilon_spec (each i hi)⟩
    obtain ⟨g, hg⟩ := hg
    refine ⟨lf, q, n, cap, g, nx, fun i => if i = 0 then z0 else if i = 1 then z1 else if i = 2 then z2 else z3, fun i => if i = 0 then u0 else if i = 1 then u1 else if i = 2 then u2 else u3, rfl, g1, g2, g3.imp id fun ⟨b, o, e, hlt, hc⟩ => ⟨b, o, e, hlt, fun i hi j v hv => ?row⟩, fun i hi => (hg i hi).1, fun i hi => ?bd⟩
    case row =>
      rw [← (hg i hi).2] at hv
      match j, hv with
      | 0, hv => simp at hv; subst hv; exact hc i hi 0 (by decide)
      | 1, hv => simp at hv; subst hv; exact hc i hi 1 (by decide)
      | 2, hv => simp at hv; subst hv; exact hc i hi 2 (by decide)
      | 3, hv => simp at hv; subst hv; exact hc i hi 3 (by decide)
    case bd =>
      match i, hi with
      | 0, _ => exact bounds_i64 w0
      | 1, _ => exact bounds_i64 w1
      | 2, _ => exact bounds_i64 w2
      | 3, _ => exact bounds_i64 w3
end Go.Proofs.Ytgnnikjpnmalmaa

/-
  Octets that come in, as a list; a text that comes in.
-/



namespace Go.Proofs.Ytgnnikjpnmalmaa
open Go.ChangeShapes Go.WideShapes Go.ChangeAt Go.RowKit Go.Joins Go.Deep
set_option linter.unusedVariables false

set_option maxRecDepth 100000 in
/-- A slice of octets that comes in, as a list. -/
theorem octl_of {H : Type} {enc : TypeId × Value → H} {W : World} {b0 : Nat} {v : Value} {d : DataW H} {p : List MemPlace} (hv : Value.okWide Try.prog W .any b0 22 v) (h : DataW.Trod enc Try.prog W 0 (fun _ => true) true 22 v d p) :
    ∃ (l : List UInt8) (a : Option Addr) (cap : Nat), v = .slice a l.length cap ∧ l.length ≤ cap ∧ cap ≤ maxLen ∧ Octs W a l ∧ ((a = none ∧ cap = 0) ∨ (l = [] ∧ ∃ x, a = some x) ∨ ∃ b o, a = some ⟨b, o, none⟩) ∧
      (l = [] ∨ ∃ el sp, d = .slice el sp ∧ l.length ≤ el.length + sp.length) := by
  obtain ⟨fuel, hf⟩ := h
  obtain ⟨a0, len, cap, rfl⟩ := okWide_slice Try.underlying22 hv
  rcases open_ints Try.underlying22 Try.underlying5 (by kernel_rfl) hf with ⟨hcs, _⟩ | ⟨a, len', cap', zs, hcs, _, hl, hm, hz, hx, hcell, hwz⟩
  · simp [Value.cells] at hcs
    obtain ⟨rfl, rfl, rfl⟩ := hcs
    exact ⟨[], none, 0, rfl, Nat.le_refl _, Nat.zero_le _, .inl rfl, .inl ⟨rfl, rfl⟩, .inl rfl⟩
  · simp [Value.cells] at hcs
    obtain ⟨rfl, rfl, rfl⟩ := hcs
    simp only [if_true] at hz
    have hll : ((zs.take len).map fun z => UInt8.ofNat z.toNat).length = len := by rw [List.length_map, List.length_take]; omega
    refine ⟨(zs.take len).map fun z => UInt8.ofNat z.toNat, some a, cap, by rw [hll], by rw [hll]; exact hl, hm, ?_, ?_⟩
    · by_cases h0 : len = 0
      · subst h0; exact .inl (by simp)
      · have c0 := hcell 0 (by omega)
        have hsp : a.spot = none := by
          have := World.cell?_spot c0
          simpa [Addr.add] using this
        obtain ⟨b, o, sp⟩ := a
        simp only at hsp
        subst hsp
        have hadd : ∀ k, Addr.add ⟨b, o, none⟩ k = ⟨b, o + k, none⟩ := by
          intro k
          unfold Addr.add
          split
          · subst k; rfl
          · rfl
        refine .inr ⟨b, o, rfl, ?_, fun i hi => ?_⟩
        · have := cell_lt c0
          rwa [hadd] at this
        · rw [hll] at hi
          have hi' : i < zs.length := by omega
          have hc := hcell i hi'
          have hb := bounds_u8 (hwz zs[i] (List.getElem_mem hi'))
          rw [hadd] at hc
          rw [hc]
          have e1 : zs.getD i 0 = zs[i] := by simp [hi']
          rw [e1]
          simp only [List.getElem_map, List.getElem_take]
          rw [byte_ofNat]
          congr 2
          omega
    · refine ⟨?_, .inr ⟨_, _, congrArg Prod.fst hx, ?_⟩⟩
      · by_cases h0 : len = 0
        · subst h0; exact .inr (.inl ⟨by simp, a, rfl⟩)
        · have c0 := hcell 0 (by omega)
          have hsp : a.spot = none := by
            have := World.cell?_spot c0
            simpa [Addr.add] using this
          obtain ⟨b, o, sp⟩ := a
          simp only at hsp
          subst hsp
          exact .inr (.inr ⟨b, o, rfl⟩)
      · rw [hll]
        simp only [lits, List.length_map, List.length_take, List.length_drop]
        omega
/-- One parameter off the list, with its datum. -/
theorem args_consd {H : Type} {enc : TypeId × Value → H} {P : Program} {w : World} {base : Nat} {spare : Nat → Bool} {held : Bool} {t : TypeId} {ts : List TypeId} {vs : List Value} {ds : List (DataW H)} {ps : List MemPlace} (h : DataW.TrodAll enc P w base spare held (t :: ts) vs ds ps) :
    ∃ v vs' d ds' p q, vs = v :: vs' ∧ ds = d :: ds' ∧ DataW.Trod enc P w base spare held t v d p ∧ DataW.TrodAll enc P w base spare held ts vs' ds' q := by
  obtain ⟨v, vs', d, ds', p, q, h1, h2, _, h3, h4⟩ := trodAll_cons h
  exact ⟨v, vs', d, ds', p, q, h1, h2, h3, h4⟩
theorem bytes_u8 : Try.prog.bytesOf 5 = 1 := by kernel_rfl
/-- How long they may be. -/
theorem oct_reach {H : Type} {ts : List TypeId} {ds : List (DataW H)} (h : (DataW.weightsEach Try.prog ts ds).all (· ≤ reachBytes) = true) {j : Nat} {d : DataW H} {l : List UInt8} (ht : ts[j]? = some 22) (hd : ds[j]? = some d) (hl : l = [] ∨ ∃ el sp, d = .slice el sp ∧ l.length ≤ el.length + sp.length) : l.length ≤ 140737488351232 := by
  rcases hl with rfl | ⟨el, sp, rfl, hl⟩
  · simp
  · have := sized_slice h ht hd Try.underlying22
    rw [bytes_u8] at this
    simp only [reachBytes] at this
    omega
end Go.Proofs.Ytgnnikjpnmalmaa

/-
  From a walk to its row, where the walk asks how long an argument may be: the form's own reach.
-/

namespace Go.Proofs.Ytgnnikjpnmalmaa
open Go.ChangeShapes Go.WideShapes Go.ChangeAt Go.RowKit
set_option linter.unusedVariables false

/-- The row's step, of any law. -/
theorem lift_sized {C : Checked} {f : FuncId} {fn : Func} {s : ChangeSpec} {tb : TypeId} (hown : ownKnob C.prog.godebug = none) (noInit : C.prog.inits.idxOf? f = none) (hfn : C.prog.funcs[f]? = some fn)
    (hl : laidOutB C.prog = true) (hvars : s.vars = []) (hres : fn.resultTypes = #[tb]) (htb : C.prog.underlying tb = some .bool)
    (hts : (fn.params.toList.all fun t => C.prog.readableRec t && decide (t < C.prog.types.size)) = true)
    (hs : ∀ (H : Type) (ds : List (DataW H)), ds.length = fn.params.toList.length → s.fn H (ds ++ []) = { results := [.lit (.bool true)], args := ds })
    (os : Os) (started : os.Started) (H : Type) (enc : TypeId × Value → H)
    (witness : ∃ (w : World) (tape : Tape) (i : Input), w.os = os ∧ (w.forCall tape i).Shaped C.prog ∧ i.vars = [] ∧ Input.okWide C.prog (w.forCall tape i) .any w.heap.size f i ∧
      s.pre6 enc C.prog fn [] false (w.forCall tape i).memory i.args ∧ ({} : Assume).holds C.prog (lone (Frame.enter C.prog f i.args .normal) [] (w.forCall tape i)))
    (walk : ∀ (W : World) (base : Nat) (args : Array Value) (ds : List (DataW H)) (ps : List MemPlace),
      (∀ (j : Nat) t v, fn.params[j]? = some t → args[j]? = some v → Value.okWide C.prog W .any base t v) →
      DataW.TrodAll enc C.prog W 0 (fun _ => true) true fn.params.toList args.toList ds ps →
      (DataW.weightsEach C.prog (fn.params.toList ++ s.plain.varTypes C.prog) (ds ++ [])).all (· ≤ reachBytes) = true →
      Calls C.prog f args W fun e W' => e = .returned (.bool true) ∧ Below W.heap.size W W') :
    ReturnsInHanded {} C os f .any (s.pre6 enc C.prog fn [] false) (s.post enc C.prog fn false true false false) := by
  refine returnsInHanded_of_change_sized (C := C) hown started noInit hfn witness ?_
  intro W base args ds gs before hval hW _ hsz _
  have hW' := hW
  obtain ⟨p, q, hA, hV, rfl, hfz, hnd⟩ := hW
  rw [hvars] at hV
  obtain ⟨rfl, rfl⟩ := trodVars_none hV
  refine (walk W base args ds p hval hA hsz).mono fun e W' ⟨he, hb⟩ => ?_
  subst he
  have hfnv := hs H ds (trodAll_length hA)
  refine ⟨_, rfl, ds, [], p ++ [], [], p, [], hW', ?_, ?_, ?_, hb.frame _, fun h => by cases h⟩
  · rw [hfnv, hres]
    exact trodAll_mk1 (shut_bool htb true)
  · rw [hfnv]
    exact trodAll_below hl hb hts hA
  · rw [hfnv, hvars]
    exact rfl
end Go.Proofs.Ytgnnikjpnmalmaa

namespace Go.Proofs.Ytgnnikjpnmalmaa
open Go.ChangeShapes Go.WideShapes Go.ChangeAt Go.RowKit
set_option linter.unusedVariables false
set_option maxRecDepth 100000

theorem nodeTells_lifted (os : Os) (started : os.Started) (H : Type) (enc : TypeId × Value → H) :
    ReturnsInHanded {} Try.checked os 7 .any (Rows.nodeTellsSpec.pre6 enc Try.prog Try.f7 [] false) (Rows.nodeTellsSpec.post enc Try.prog Try.f7 false true false false) :=
  lift_sized (C := Try.checked) (s := Rows.nodeTellsSpec) own (by kernel_rfl) Try.func7 laidOut rfl rfl Try.underlying4 (by kernel_rfl)
    (fun H ds hd => by match ds, hd with | [d1, d2, d3], _ => rfl) os started H enc
    (ChangeSpec.witness6 (enc := enc) (C := Try.checked) false ⟨#[], #[.agg #[.bool false, .slice none 0 0, .int .i64 0, .int .i64 0, .int .i64 0, .int .i64 0, .int .i64 0, .int .i64 0, .int .i64 0, .int .i64 0, .int .i64 0], .agg #[.bool false, .slice none 0 0, .int .i64 0, .int .i64 0, .int .i64 0, .int .i64 0, .int .i64 0, .int .i64 0, .int .i64 0, .int .i64 0, .int .i64 0], .slice none 0 0], []⟩ 8 (by kernel_rfl) (by kernel_rfl) (by kernel_rfl) (by kernel_rfl))
    (fun W base args ds ps hval0 hA0 hsz0 => by
      have hval : ∀ (j : Nat) t v, Try.f7.params[j]? = some t → args[j]? = some v → Value.okWide Try.prog W .any base t v := hval0
      have hA : DataW.TrodAll enc Try.prog W 0 (fun _ => true) true Try.f7.params.toList args.toList ds ps := hA0
      have hsz : (DataW.weightsEach Try.prog (Try.f7.params.toList ++ Rows.nodeTellsSpec.plain.varTypes Try.prog) (ds ++ [])).all (· ≤ reachBytes) = true := hsz0
      rw [Try.params7] at hA hval hsz
      obtain ⟨v0, s0, d0, e0, p0, q0, g0, rfl, h0, r0⟩ := args_consd hA
      obtain ⟨v1, s1, d1, e1, p1, q1, rfl, rfl, h1, r1⟩ := args_consd r0
      obtain ⟨v2, s2, d2, e2, p2, q2, rfl, rfl, h2, r2⟩ := args_consd r1
      obtain ⟨rfl, rfl, _⟩ := trodAll_nil r2
      obtain rfl : args = #[v0, v1, v2] := by cases args; simp_all
      obtain ⟨lf, q, n, cap, f, nx, k, c, rfl, c1, c2, HR, hf, hc⟩ := nd_of (hval 0 61 v0 rfl rfl) h0
      obtain ⟨lf', q', n', cap', f', nx', k', c', rfl, c1', c2', HR', _, _⟩ := nd_of (hval 1 61 v1 rfl rfl) h1
      obtain ⟨l, a, cp, rfl, k1, k2, O, _, hx⟩ := octl_of (hval 2 22 v2 rfl rfl) h2
      have hl := oct_reach hsz (j := 2) rfl rfl hx
      exact nodeTells lf q n cap f hf nx k c hc lf' q' n' cap' f' nx' k' c' l a cp c1 c2 c1' c2' k1 k2 (by omega) W HR HR' O)

theorem nodeTells_holds : Rows.NodeTellsSaid :=
  OpenClaim.holds_of_wide 7 Try.f7 rfl rfl rfl rfl rfl rfl rfl ⟨rfl, rfl, rfl, rfl, rfl⟩ rfl rfl rfl rfl rfl (by kernel_rfl) Try.func7 (by kernel_rfl)
    (of_decide_eq_true (by kernel_rfl)) (by unfold Func.isWrapper; rw [if_neg (of_decide_eq_false (by kernel_rfl))]; exact ⟨rfl, rfl⟩)
    (fun os started H enc _ => nodeTells_lifted os started H enc)
#print axioms nodeTells_holds
end Go.Proofs.Ytgnnikjpnmalmaa
