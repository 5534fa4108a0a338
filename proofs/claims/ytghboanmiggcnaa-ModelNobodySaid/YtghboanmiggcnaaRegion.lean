/-
  A region that draws its order: its first operations are quiet in a class of worlds (each hands on one value, whatever the world), the others go one by one behind them: one walk in the text's order serves every order.
-/
import Derived.Orders
import Derived.StillTail
import Derived.Deep.Quiet
import Derived.WalkKit
import Derived.Test.YtghboanmiggcnaaAid
namespace Go.Proofs.Ytghboanmiggcnaa
open Go.RowKit

section
variable {P : Program} {ops : Array Oper}

/-- The first operation that writes a temporary. -/
def writer (ops : Array Oper) (t : Tmp) : Option Nat := (List.range ops.size).find? fun j => ((ops[j]?).bind (·.dst)) == some t

def soleB (ops : Array Oper) (m : Nat) : Bool :=
  (List.range ops.size).all fun j => match (ops[j]?).bind (·.dst) with
    | some t => (writer ops t == some j) && decide (t < m)
    | none => true

theorem sole_dst {m j t : Nat} {o : Oper} (h : soleB ops m = true) (hj : ops[j]? = some o) (hd : o.dst = some t) : writer ops t = some j ∧ t < m := by
  have hlt : j < ops.size := (Array.getElem?_eq_some_iff.1 hj).1
  have := List.all_eq_true.1 h j (List.mem_range.2 hlt)
  simp only [hj, Option.bind_some, hd, Bool.and_eq_true, beq_iff_eq, decide_eq_true_eq] at this
  exact this

theorem writer_some {t j : Nat} (h : writer ops t = some j) : ∃ o, ops[j]? = some o ∧ o.dst = some t := by
  have h1 := List.find?_some h
  have h2 : j < ops.size := List.mem_range.1 (List.mem_of_find?_eq_some h)
  refine ⟨ops[j], by simp [h2], ?_⟩
  simpa [h2] using h1

theorem writer_none {t j : Nat} {o : Oper} (h : writer ops t = none) (hj : ops[j]? = some o) : o.dst ≠ some t := by
  intro hd
  have hlt : j < ops.size := (Array.getElem?_eq_some_iff.1 hj).1
  have h1 := List.find?_eq_none.1 h j (List.mem_range.2 hlt)
  simp [hj, hd] at h1

/-- What the operation looks at was there at the region's beginning, or is written by what it waits for, of the first n. -/
def seenB (ops : Array Oper) (n : Nat) : Bool :=
  (List.range n).all fun j => match ops[j]? with
    | none => true
    | some o => ((o.looksAt ops).all fun t => match writer ops t with
      | none => true
      | some k => decide (n ≤ k) || (decide (k < j) && Region.waitsFor .any ops j k)) && o.after.all fun e => !Region.binds .any e || decide (e.on < j)

theorem seen {n j : Nat} {o : Oper} (h : seenB ops n = true) (hj : ops[j]? = some o) (hn : j < n) {t : Nat} (ht : t ∈ o.looksAt ops) {k : Nat} (hw : writer ops t = some k) : n ≤ k ∨ (k < j ∧ Region.waitsFor .any ops j k = true) := by
  have := List.all_eq_true.1 h j (List.mem_range.2 hn)
  simp only [hj, Bool.and_eq_true] at this
  have := List.all_eq_true.1 this.1 t ht
  simp only [hw, Bool.or_eq_true, decide_eq_true_eq, Bool.and_eq_true] at this
  exact this

theorem seen_after {n j : Nat} {o : Oper} (h : seenB ops n = true) (hj : ops[j]? = some o) (hn : j < n) {e : Edge} (he : e ∈ o.after) (hb : Region.binds .any e = true) : e.on < j := by
  have := List.all_eq_true.1 h j (List.mem_range.2 hn)
  simp only [hj, Bool.and_eq_true] at this
  have h2 := Array.all_eq_true_iff_forall_mem.1 this.2 e he
  simpa [hb] using h2

theorem put_get (a : Act) (d : Option Tmp) (v : Value) (t : Nat) : (a.put d v).tmps[t]? = if d = some t ∧ t < a.tmps.size then some v else a.tmps[t]? := by
  cases d with
  | none => simp [Act.put]
  | some d =>
    simp only [Act.put, Array.getElem?_setIfInBounds, Option.some.injEq]
    by_cases h : d = t
    · subst h
      by_cases h2 : d < a.tmps.size
      · simp [h2]
      · simp [h2]
    · simp [h]
theorem put_size (a : Act) (d : Option Tmp) (v : Value) : (a.put d v).tmps.size = a.tmps.size := by cases d <;> simp [Act.put]
theorem put_defers (a : Act) (d : Option Tmp) (v : Value) : (a.put d v).defers = a.defers := by cases d <;> rfl

/-- The frame behind these operations, each with its value. -/
def puts (ops : Array Oper) (vs : Nat → Value) (l : List Nat) (a : Act) : Act := l.foldl (fun a j => a.put ((ops[j]?).bind (·.dst)) (vs j)) a

theorem puts_size (vs : Nat → Value) : ∀ (l : List Nat) (a : Act), (puts ops vs l a).tmps.size = a.tmps.size
  | [], _ => rfl
  | j :: l, a => by unfold puts; rw [List.foldl_cons]; exact (puts_size vs l _).trans (put_size ..)
theorem puts_defers (vs : Nat → Value) : ∀ (l : List Nat) (a : Act), (puts ops vs l a).defers = a.defers
  | [], _ => rfl
  | j :: l, a => by unfold puts; rw [List.foldl_cons]; exact (puts_defers vs l _).trans (put_defers ..)
theorem puts_get (vs : Nat → Value) (t : Nat) : ∀ (l : List Nat) (a : Act),
    ((∀ j ∈ l, (ops[j]?).bind (·.dst) ≠ some t) → (puts ops vs l a).tmps[t]? = a.tmps[t]?) ∧
    (∀ j, (∀ k ∈ l, (ops[k]?).bind (·.dst) = some t → k = j) → j ∈ l → (ops[j]?).bind (·.dst) = some t → t < a.tmps.size → (puts ops vs l a).tmps[t]? = some (vs j))
  | [], a => ⟨fun _ => rfl, fun j _ h => by cases h⟩
  | k :: l, a => by
    have ih := puts_get vs t l (a.put ((ops[k]?).bind (·.dst)) (vs k))
    constructor
    · intro h
      show (puts ops vs l _).tmps[t]? = _
      rw [ih.1 (fun j hj => h j (List.mem_cons_of_mem _ hj)), put_get, if_neg (fun hx => h k List.mem_cons_self hx.1)]
    · intro j hu hj hd ht
      show (puts ops vs l _).tmps[t]? = _
      by_cases hjl : j ∈ l
      · exact ih.2 j (fun i hi hdi => hu i (List.mem_cons_of_mem _ hi) hdi) hjl hd (by rw [put_size]; exact ht)
      · have hjk : j = k := by
          rcases List.mem_cons.1 hj with h | h
          · exact h
          · exact absurd h hjl
        subst hjk
        rw [ih.1 (fun i hi hdi => hjl (hu i (List.mem_cons_of_mem _ hi) hdi ▸ hi)), put_get, if_pos ⟨hd, ht⟩]
theorem puts_congr {vs us : Nat → Value} : ∀ (l : List Nat) (a : Act), (∀ j ∈ l, vs j = us j) → puts ops vs l a = puts ops us l a
  | [], _, _ => rfl
  | j :: l, a, h => by
    have e := h j List.mem_cons_self
    show puts ops vs l (a.put _ (vs j)) = puts ops us l (a.put _ (us j))
    rw [e]
    exact puts_congr l _ fun k hk => h k (List.mem_cons_of_mem _ hk)
theorem puts_snoc (vs : Nat → Value) (l : List Nat) (j : Nat) (a : Act) : puts ops vs (l ++ [j]) a = (puts ops vs l a).put ((ops[j]?).bind (·.dst)) (vs j) := by
  simp [puts, List.foldl_append]

theorem count_set : ∀ (l : List Bool) (i : Nat), l[i]? = some false → (l.set i true).count false + 1 = l.count false
  | [], i, h => by simp at h
  | b :: l, 0, h => by simp at h; subst h; simp
  | b :: l, i + 1, h => by
    have := count_set l i (by simpa using h)
    simp only [List.set_cons_succ, List.count_cons]
    omega

/-- What the walk shows of the operation o in the frame a: it yields v in every world of the class; or its guard keeps it from running. -/
def Told (P : Program) (ops : Array Oper) (C : World → Prop) (o : Oper) (v : Value) (a : Act) : Prop :=
  (Region.wanted o (yielded ops a.tmps) = true ∧ ∀ w, C w → o.quietAt P a C w v) ∨ (Region.wanted o (yielded ops a.tmps) = false ∧ v = undef)

theorem walk_told {C : World → Prop} {Qf : Act → Prop} : ∀ (l : List Oper) (k : Nat) (a : Act), (∀ i, i < l.length → l[i]? = ops[k + i]?) → wpQuiet P ops C Qf l a →
    ∃ vs : Nat → Value, Qf (puts ops vs (List.range' k l.length) a) ∧ ∀ i o, i < l.length → ops[k + i]? = some o → Told P ops C o (vs (k + i)) (puts ops vs (List.range' k i) a)
  | [], k, a, _, h => ⟨fun _ => undef, h, fun i o hi => absurd hi (Nat.not_lt_zero _)⟩
  | x :: l, k, a, hl, h => by
    have h0 : ops[k]? = some x := by simpa using (hl 0 (by simp)).symm
    have key : ∃ v, Told P ops C x v a ∧ wpQuiet P ops C Qf l (a.put x.dst v) := by
      unfold wpQuiet at h
      by_cases hw : Region.wanted x (yielded ops a.tmps) = true
      · rw [if_pos hw] at h
        obtain ⟨v, h1, h2⟩ := h
        exact ⟨v, .inl ⟨hw, h1⟩, h2⟩
      · rw [if_neg hw] at h
        exact ⟨undef, .inr ⟨by simpa using hw, rfl⟩, h⟩
    obtain ⟨v, hv, hrest⟩ := key
    obtain ⟨us, hq, hu⟩ := walk_told l (k + 1) (a.put x.dst v) (fun i hi => by have := hl (i + 1) (by simp; omega); simpa [Nat.add_assoc, Nat.add_comm 1 i] using this) hrest
    let vs : Nat → Value := fun j => if j = k then v else us j
    have hne : ∀ j, j ≠ k → vs j = us j := fun j hj => by simp only [vs, if_neg hj]
    have hk : vs k = v := by simp only [vs, if_pos rfl]
    have step : ∀ m, puts ops vs (List.range' k (m + 1)) a = puts ops us (List.range' (k + 1) m) (a.put x.dst v) := by
      intro m
      rw [List.range'_succ]
      show puts ops vs (List.range' (k + 1) m) (a.put ((ops[k]?).bind (·.dst)) (vs k)) = _
      rw [h0, hk]
      exact puts_congr _ _ fun j hj => hne j (by have := (List.mem_range'_1.1 hj).1; omega)
    refine ⟨vs, by rw [List.length_cons, step]; exact hq, fun i o hi ho => ?_⟩
    cases i with
    | zero =>
      rw [Nat.add_zero] at ho ⊢
      rw [h0] at ho; cases ho
      rw [hk]
      exact hv
    | succ i =>
      rw [step]
      have := hu i o (by simp at hi; omega) (by rw [show k + 1 + i = k + (i + 1) by omega]; exact ho)
      rw [show k + 1 + i = k + (i + 1) by omega] at this
      rw [hne _ (by omega)]
      exact this

/-- The frame in the midst: those that are listed have their values, all else is as it was. -/
structure Mid (ops : Array Oper) (a0 : Act) (vs : Nat → Value) (L : Array Bool) (a : Act) : Prop where
  defers : a.defers = a0.defers
  size : a.tmps.size = a0.tmps.size
  slot : ∀ t, a.tmps[t]? = match writer ops t with
    | some k => if L.getD k false = true then some (vs k) else a0.tmps[t]?
    | none => a0.tmps[t]?

def quietTailB (ops : Array Oper) (n m : Nat) : Bool :=
  Region.noSelect ops && decide (n < ops.size) && Region.sinkB .any ops n && Region.chainB .any ops n && soleB ops m && seenB ops n &&
    Region.seqB .any ops (ops.size - n) n (Array.ofFn fun i : Fin ops.size => decide (i.val < n))

/-- **THE RULE.** -/
theorem wp_region_quiet_tail {id : Nat} {Q : Exit → Act → World → Prop} {a0 : Act} {w0 : World} {l : List Oper} {C : World → Prop} (n : Nat) (hm : P.follows .mixedOrders = true)
    (hB : quietTailB l.toArray n a0.tmps.size = true) (hC : C w0.drew)
    (h : wpQuiet P l.toArray C (fun a' => ∀ w', C w' → wpList P l.toArray Q (l.drop n) a' w') (l.take n) a0) : (Code.region id l.toArray true).wp P Q a0 w0 := by
  simp only [quietTailB, Bool.and_eq_true, decide_eq_true_eq] at hB
  obtain ⟨⟨⟨⟨⟨⟨hsel, hn⟩, hs⟩, hc⟩, hsole⟩, hseen⟩, hseq⟩ := hB
  have hn' : n < l.length := by simpa using hn
  have htl : (l.take n).length = n := by simp; omega
  obtain ⟨vs, hfin, htold⟩ := walk_told (ops := l.toArray) (l.take n) 0 a0 (fun i hi => by
    have hi' : i < n := by rw [htl] at hi; exact hi
    simp [hi']) h
  rw [htl] at hfin
  have hr0 : ∀ m, List.range' 0 m = List.range m := fun m => (List.range_eq_range' (n := m)).symm
  rw [hr0] at hfin
  -- what the walk's own frame holds, before operation j
  have lex : ∀ (j t : Nat), j ≤ n → (puts l.toArray vs (List.range j) a0).tmps[t]? = match writer l.toArray t with
      | some k => if k < j then some (vs k) else a0.tmps[t]?
      | none => a0.tmps[t]? := by
    intro j t hj
    cases hw : writer l.toArray t with
    | none =>
      refine (puts_get vs t _ _).1 fun i hi hd => ?_
      have hlt : i < l.toArray.size := by have := List.mem_range.1 hi; omega
      have hoi : l.toArray[i]? = some l.toArray[i] := Array.getElem?_eq_getElem hlt
      rw [hoi] at hd
      exact writer_none hw hoi hd
    | some k =>
      obtain ⟨o, ho, hd⟩ := writer_some hw
      have hsole' : ∀ i, i < l.toArray.size → (l.toArray[i]?).bind (·.dst) = some t → i = k := fun i hi hdi => by
        have hoi : l.toArray[i]? = some l.toArray[i] := Array.getElem?_eq_getElem hi
        rw [hoi] at hdi
        have := (sole_dst hsole hoi hdi).1
        rw [hw] at this
        exact (Option.some.inj this).symm
      by_cases hk : k < j
      · simp only [hk, if_true]
        exact (puts_get vs t _ _).2 k (fun i hi hdi => hsole' i (by have := List.mem_range.1 hi; omega) hdi) (List.mem_range.2 hk) (by rw [ho]; exact hd) (sole_dst hsole ho hd).2
      · simp only [hk, if_false]
        refine (puts_get vs t _ _).1 fun i hi hdi => hk ?_
        have h1 := List.mem_range.1 hi
        rw [← hsole' i (by omega) hdi]
        exact h1
  refine wp_region_any hm ?_
  have main : ∀ (fuel : Nat) (L : Array Bool) (a : Act) (w : World), Mid l.toArray a0 vs L a → HeadInv .any l.toArray n L → C w → L.toList.count false = fuel → wpAny P .any l.toArray Q fuel L a w := by
    intro fuel
    induction fuel with
    | zero =>
      intro L a w mid inv hCw hcnt
      exfalso
      have h1 := inv.tail n (Nat.le_refl _) hn
      have hl : n < L.size := by rw [inv.size]; exact hn
      have : false ∈ L.toList := by
        have h2 : L[n] = false := by simpa [hl] using h1
        rw [← h2]; simp
      have := List.count_pos_iff.2 this
      omega
    | succ fuel ih =>
      intro L a w mid inv hCw hcnt
      by_cases hall : ∀ i, i < n → L.getD i false = true
      · -- all of the first are done: the others, one by one
        have hL : L = Array.ofFn fun i : Fin l.toArray.size => decide (i.val < n) := by
          apply Array.ext
          · simp [inv.size]
          · intro i h1 h2
            have hi : i < l.toArray.size := by rw [← inv.size]; exact h1
            simp only [Array.getElem_ofFn]
            by_cases hin : i < n
            · have := hall i hin
              simp [h1] at this
              simp [hin, this]
            · have := inv.tail i (by omega) hi
              simp [h1] at this
              simp [hin, this]
        have ha : a = puts l.toArray vs (List.range n) a0 := by
          have e1 : a.tmps = (puts l.toArray vs (List.range n) a0).tmps := by
            apply Array.ext_getElem?
            intro t
            rw [mid.slot t, lex n t (Nat.le_refl _)]
            cases hw : writer l.toArray t with
            | none => rfl
            | some k =>
              simp only []
              by_cases hk : k < n
              · rw [if_pos (hall k hk), if_pos hk]
              · rw [if_neg hk, if_neg]
                obtain ⟨o, ho, _⟩ := writer_some hw
                have := getD_both (inv.tail k (by omega) (Array.getElem?_eq_some_iff.1 ho).1)
                rw [this]; simp
          have e2 : a.defers = (puts l.toArray vs (List.range n) a0).defers := by rw [mid.defers]; exact (puts_defers vs _ _).symm
          cases a
          cases hp : puts l.toArray vs (List.range n) a0
          simp only [hp] at e1 e2
          subst e1 e2
          rfl
        have hcnt2 : fuel + 1 = (l.drop n).length := by
          rw [← hcnt, hL]
          simp only [Array.toList_ofFn, List.length_drop]
          have gen : ∀ (m n : Nat), ((List.ofFn fun i : Fin m => decide (i.val < n)).count false) = m - n := by
            intro m
            induction m with
            | zero => intro n; simp
            | succ m ihm =>
              intro n
              cases n with
              | zero =>
                have := ihm 0
                simp [List.ofFn_succ] at this ⊢
                omega
              | succ n =>
                have := ihm n
                simp [List.ofFn_succ] at this ⊢
                omega
          simpa using gen l.toArray.size n
        rw [hcnt2]
        refine wpAny_of_seq (md := .any) (l.drop n) n L a w (fun j => by simp [List.getElem?_drop]) ?_ ?_
        · rw [hL]
          have e : (l.drop n).length = l.toArray.size - n := by simp
          rw [e]; exact hseq
        · rw [ha]; exact hfin w hCw
      · -- one of the first comes up
        have hex : ∃ i, i < n ∧ L.getD i true = false := by
          refine Classical.byContradiction fun hno => hall fun i hi => ?_
          cases hg : L.getD i true with
          | false => exact absurd ⟨i, hi, hg⟩ hno
          | true =>
            have hl : i < L.size := by rw [inv.size]; omega
            simp [hl] at hg ⊢
            exact hg
        obtain ⟨i0, hi0, hun0⟩ := hex
        have hready : ∀ j ∈ Region.ready .any l.toArray L, j < n := fun j hj => by
          rcases Nat.lt_or_ge j n with h | h
          · exact h
          · exact absurd hj (tail_waits hs hc hn inv _ i0 rfl hi0 hun0 j h)
        have hne : Region.ready .any l.toArray L ≠ [] := by
          -- the least that is not listed may come up
          intro hnil
          have hl : ∀ j, j < n → L.getD j false = true := by
            intro j
            induction j using Nat.strongRecOn with
            | _ j ihj =>
              intro hj
              cases hlj : L.getD j false with
              | true => rfl
              | false =>
                exfalso
                have hjo : j < l.toArray.size := by omega
                have hoj : l.toArray[j]? = some l.toArray[j] := Array.getElem?_eq_getElem hjo
                have : j ∈ Region.ready .any l.toArray L := mem_ready.2 ⟨getD_in (by rw [inv.size]; exact hjo) hlj, _, hoj, fun e he hb => by
                  have := seen_after hseen hoj hj he hb
                  exact ihj e.on this (by omega)⟩
                rw [hnil] at this
                cases this
          exact hall hl
        refine ⟨fun hr => absurd hr hne, fun j hj => ?_⟩
        have hjn := hready j hj
        obtain ⟨hun, o, ho, hpre⟩ := mem_ready.1 hj
        have hjs : j < L.size := by rw [inv.size]; omega
        -- what it looks at is as in the walk
        have same : ∀ t, t ∈ o.looksAt l.toArray → a.tmps[t]? = (puts l.toArray vs (List.range j) a0).tmps[t]? := by
          intro t ht
          rw [mid.slot t, lex j t (by omega)]
          cases hw : writer l.toArray t with
          | none => rfl
          | some k =>
            simp only []
            rcases seen hseen ho hjn ht hw with hk | ⟨hk, hwait⟩
            · obtain ⟨o', ho', _⟩ := writer_some hw
              have := getD_both (inv.tail k hk (Array.getElem?_eq_some_iff.1 ho').1)
              rw [if_neg (by rw [this]; simp), if_neg (by omega)]
            · obtain ⟨oj, hoj, e, he, hb, hon⟩ := Region.waitsFor_spec hwait
              have : oj = o := Option.some.inj (hoj.symm.trans ho)
              subst this
              have := hpre e he hb
              rw [hon] at this
              rw [if_pos this, if_pos hk]
        have hexec : execOp a.eval o = execOp (puts l.toArray vs (List.range j) a0).eval o := by
          refine execOp_congr o (fun cs b => Region.noSelect_spec hsel j o cs b ho) fun x hx => ?_
          cases x with
          | tmp t =>
            have := same t (List.mem_append_left _ (List.mem_filterMap.2 ⟨.tmp t, by simpa using hx, rfl⟩))
            simp only [Act.eval, Array.getD_eq_getD_getElem?, this]
          | _ => rfl
        have hwant : Region.wanted o (yielded l.toArray a.tmps) = Region.wanted o (yielded l.toArray (puts l.toArray vs (List.range j) a0).tmps) := by
          unfold Region.wanted
          cases hg : o.guard with
          | none => rfl
          | some gw =>
            obtain ⟨g, want⟩ := gw
            have hy : yielded l.toArray a.tmps g = yielded l.toArray (puts l.toArray vs (List.range j) a0).tmps g := by
              unfold yielded
              cases ht : (l.toArray[g]?).bind (·.dst) with
              | none => rfl
              | some t =>
                have := same t (List.mem_append_right _ (by simp only [hg, ht]; simp))
                simp only [Option.bind_some, this]
            simp only [hy]
        have told := htold j o (by rw [htl]; exact hjn) (by rw [Nat.zero_add]; exact ho)
        rw [Nat.zero_add, hr0] at told
        -- the frame behind it
        have mid' : Mid l.toArray a0 vs (L.setIfInBounds j true) (a.put o.dst (vs j)) := by
          refine ⟨by rw [put_defers]; exact mid.defers, by rw [put_size]; exact mid.size, fun t => ?_⟩
          rw [put_get]
          by_cases hd : o.dst = some t
          · obtain ⟨hw, ht⟩ := sole_dst hsole ho hd
            rw [if_pos ⟨hd, by rw [mid.size]; exact ht⟩, hw]
            simp [hjs]
          · rw [if_neg (fun h => hd h.1), mid.slot t]
            cases hw : writer l.toArray t with
            | none => rfl
            | some k =>
              have hkj : j ≠ k := by
                rintro rfl
                obtain ⟨o', ho', hd'⟩ := writer_some hw
                rw [ho] at ho'; cases ho'
                exact hd hd'
              simp only []
              rw [getD_set_ne false hkj]
        have hcnt' : (L.setIfInBounds j true).toList.count false = fuel := by
          have := count_set L.toList j (by simp [hjs] at hun ⊢; exact hun)
          simp only [Array.toList_setIfInBounds]
          omega
        have next : ∀ w', C w' → wpAny P .any l.toArray Q fuel (L.setIfInBounds j true) (a.put o.dst (vs j)) w' := fun w' hw' => ih _ _ _ mid' (inv.set hj hjn) hw' hcnt'
        unfold wpOp
        simp only [ho]
        rcases told with ⟨hwt, hq⟩ | ⟨hwt, hu⟩
        · rw [if_pos (by rw [hwant]; exact hwt)]
          left
          refine Oper.wp_of_quiet (C := C) (K := fun a' => a' = a.put o.dst (vs j)) hCw (fun a' w' hw' e => e ▸ next w' hw') ⟨vs j, fun w' hw' => ?_, rfl⟩
          have := hq w' hw'
          unfold Oper.quietAt at this ⊢
          rw [hexec]; exact this
        · rw [if_neg (by rw [hwant, hwt]; simp), ← hu]
          exact next w hCw
  refine main l.toArray.size _ a0 w0.drew ⟨rfl, rfl, fun t => ?_⟩ ⟨by simp, fun j oj _ hl => (by rw [getD_replicate_false] at hl; cases hl), fun t _ ht => getD_in (by simpa using ht) (getD_replicate_false _ _)⟩ hC (by simp)
  cases hw : writer l.toArray t with
  | none => rfl
  | some k => simp only [getD_replicate_false]; simp

/-- A world later than W: what was there is as it was. -/
structure Later (W : World) where
  val : World
  h : Below W.heap.size W val
instance (W : World) : Nonempty (Later W) := ⟨⟨W, Below.refl _ _⟩⟩
theorem Later.cell {W : World} (b o : Nat) (hb : b < W.heap.size) (u : Later W) : u.val.cell? ⟨b, o, none⟩ = W.cell? ⟨b, o, none⟩ := u.h.cell (p := ⟨b, o, none⟩) hb

theorem Later.blk {W : World} {b : Nat} {c : Array Value} (h : Blk W b c) (u : Later W) (o : Nat) : u.val.cell? ⟨b, o, none⟩ = c[o]? := (u.cell b o h.lt).trans (h.cell o)

theorem late_out {W w' : World} (h : ∃ u : Later W, w' = u.val) : Below W.heap.size W w' := by
  obtain ⟨u, rfl⟩ := h; exact u.h

/-- A callee that makes memory at most. -/
theorem late_call {W : World} {u : Later W} {f : FuncId} {args : Array Value} {v : Value} (h : Calls P f args u.val fun e w' => e = .returned v ∧ Below u.val.heap.size u.val w') :
    Calls P f args u.val fun e w'' => e = .returned v ∧ ∃ u' : Later W, w'' = u'.val :=
  h.mono fun _ w' ⟨he, hb⟩ => ⟨he, ⟨w', u.h.trans (hb.mono u.h.size)⟩, rfl⟩
theorem late_same {W : World} {u : Later W} {f : FuncId} {args : Array Value} {v : Value} (h : Calls P f args u.val fun e w' => e = .returned v ∧ w' = u.val) :
    Calls P f args u.val fun e w'' => e = .returned v ∧ ∃ u' : Later W, w'' = u'.val :=
  h.mono fun _ _ ⟨he, hw⟩ => ⟨he, u, hw⟩
theorem late_same' {W : World} {u : Later W} {f : FuncId} {args : Array Value} {v : Value} (h : Calls P f args u.val fun e w' => e = .returned v ∧ u.val = w') :
    Calls P f args u.val fun e w'' => e = .returned v ∧ ∃ u' : Later W, w'' = u'.val :=
  h.mono fun _ _ ⟨he, hw⟩ => ⟨he, u, hw.symm⟩

theorem wp_region_late {id : Nat} {Q : Exit → Act → World → Prop} {a0 : Act} {W : World} {l : List Oper} (n : Nat) (hm : P.follows .mixedOrders = true)
    (hB : quietTailB l.toArray n a0.tmps.size = true)
    (h : wpQuiet P l.toArray (fun w' => ∃ u : Later W, w' = u.val) (fun a' => ∀ w', (∃ u : Later W, w' = u.val) → wpList P l.toArray Q (l.drop n) a' w') (l.take n) a0) : (Code.region id l.toArray true).wp P Q a0 W :=
  wp_region_quiet_tail n hm hB ⟨⟨W.drew, Below.drew (Below.refl _ _)⟩, rfl⟩ h

/-- The same of a region that goes in the text's order. -/
theorem wpList_of_quiet {C : World → Prop} {Q : Exit → Act → World → Prop} {l2 : List Oper} : ∀ (l : List Oper) (a : Act) (w : World), C w → wpQuiet P ops C (fun a' => ∀ w', C w' → wpList P ops Q l2 a' w') l a → wpList P ops Q (l ++ l2) a w
  | [], a, w, hw, h => h w hw
  | o :: l, a, w, hw, h => by
    show wpList P ops Q (o :: (l ++ l2)) a w
    unfold wpQuiet at h
    unfold wpList
    by_cases hwant : Region.wanted o (yielded ops a.tmps) = true
    · rw [if_pos hwant] at h
      rw [if_pos hwant]
      exact .inl (Oper.wp_of_quiet (C := C) hw (fun a' w' hw' hk => wpList_of_quiet l a' w' hw' hk) h)
    · rw [if_neg hwant] at h
      rw [if_neg hwant]
      exact wpList_of_quiet l _ w hw h

theorem wp_region_late_seq {id : Nat} {Q : Exit → Act → World → Prop} {a0 : Act} {W : World} {l : List Oper} (n : Nat)
    (h : wpQuiet P l.toArray (fun w' => ∃ u : Later W, w' = u.val) (fun a' => ∀ w', (∃ u : Later W, w' = u.val) → wpList P l.toArray Q (l.drop n) a' w') (l.take n) a0) : (Code.region id l.toArray false).wp P Q a0 W := by
  refine wp_region_lit ?_
  have := wpList_of_quiet (l2 := l.drop n) (l.take n) a0 W ⟨⟨W, Below.refl _ _⟩, rfl⟩ h
  rwa [List.take_append_drop] at this
end
end Go.Proofs.Ytghboanmiggcnaa
