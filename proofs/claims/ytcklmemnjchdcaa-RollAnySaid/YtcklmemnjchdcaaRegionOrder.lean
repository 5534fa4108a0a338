/-
  A region that draws its order, walked in an order of one's own: quiet operations, and among them calls whose value nobody knows ahead, one behind the other; all that stands behind such a call waits for it.
-/
import Derived.Test.YtcklmemnjchdcaaRegionAlloc
namespace Go.Proofs.Ytcklmemnjchdcaa
open Go.RowKit
set_option linter.unusedVariables false
set_option linter.unusedSimpArgs false

section
variable {P : Program} {ops : Array Oper}

/-- What stands ahead of j in the order. -/
def preOf (π : List Nat) (j : Nat) : List Nat := π.takeWhile fun k => !(k == j)
theorem pre_split {A B : List Nat} {j : Nat} (h : j ∉ A) : preOf (A ++ j :: B) j = A := by
  unfold preOf
  induction A with
  | nil => simp
  | cons x A ih =>
    have hx : x ≠ j := fun e => h (by rw [e]; exact List.mem_cons_self)
    rw [List.cons_append, List.takeWhile_cons_of_pos (by simp [hx]), ih (fun hh => h (List.mem_cons_of_mem _ hh))]
theorem pre_mem {π : List Nat} {j k : Nat} (h : k ∈ preOf π j) : k ∈ π := (List.takeWhile_sublist _).subset h
theorem pre_short : ∀ {π : List Nat} {j k : Nat}, k ∈ preOf π j → (preOf π k).length < (preOf π j).length
  | [], j, k, h => by cases h
  | x :: π, j, k, h => by
    by_cases hx : x = j
    · subst hx; simp [preOf] at h
    · have e : preOf (x :: π) j = x :: preOf π j := by unfold preOf; rw [List.takeWhile_cons_of_pos (by simp [hx])]
      rw [e] at h ⊢
      by_cases hk : x = k
      · subst hk
        have : preOf (x :: π) x = [] := by simp [preOf]
        rw [this]; simp
      · have e2 : preOf (x :: π) k = x :: preOf π k := by unfold preOf; rw [List.takeWhile_cons_of_pos (by simp [hk])]
        rw [e2]
        have := pre_short (π := π) ((List.mem_cons.1 h).resolve_left fun e => hk e.symm)
        simp; omega

def nodupB : List Nat → Bool
  | [] => true
  | x :: l => !l.contains x && nodupB l
theorem nodup_of : ∀ {l : List Nat}, nodupB l = true → l.Nodup
  | [], _ => List.nodup_nil
  | x :: l, h => by
    simp only [nodupB, Bool.and_eq_true, Bool.not_eq_true', List.contains_eq_mem, decide_eq_false_iff_not] at h
    exact List.nodup_cons.2 ⟨h.1, nodup_of h.2⟩

/-- The order holds the first N, each once; what an operation looks at, and waits for, stands ahead of it. -/
def seenP (ops : Array Oper) (π : List Nat) (N : Nat) : Bool :=
  nodupB π && (List.range N).all (fun i => π.contains i) && π.all fun j => decide (j < N) && match ops[j]? with
    | none => true
    | some o => ((o.looksAt ops).all fun t => match writer ops t with
      | none => true
      | some k => decide (N ≤ k) || ((preOf π j).contains k && Region.waitsFor .any ops j k)) && o.after.all fun e => !Region.binds .any e || (preOf π j).contains e.on
def orderB (ops : Array Oper) (π : List Nat) (N m : Nat) : Bool :=
  Region.noSelect ops && decide (N < ops.size) && Region.sinkB .any ops N && Region.chainB .any ops N && soleB ops m && seenP ops π N &&
    Region.seqB .any ops (ops.size - N) N (Array.ofFn fun i : Fin ops.size => decide (i.val < N))
/-- All behind n waits, straight or by others behind n, for n. -/
def wildP (ops : Array Oper) (π : List Nat) (n : Nat) : Bool :=
  π.all fun j => !(preOf π j).contains n || (preOf π j).any fun k => !(preOf π n).contains k && Region.waitsFor .any ops j k

theorem seenP_nodup {π : List Nat} {N : Nat} (h : seenP ops π N = true) : π.Nodup := by
  simp only [seenP, Bool.and_eq_true] at h
  exact nodup_of h.1.1
theorem seenP_all {π : List Nat} {N : Nat} (h : seenP ops π N = true) {i : Nat} (hi : i < N) : i ∈ π := by
  simp only [seenP, Bool.and_eq_true] at h
  have := List.all_eq_true.1 h.1.2 i (List.mem_range.2 hi)
  simpa using this
theorem seenP_lt {π : List Nat} {N : Nat} (h : seenP ops π N = true) {j : Nat} (hj : j ∈ π) : j < N := by
  simp only [seenP, Bool.and_eq_true] at h
  have := List.all_eq_true.1 h.2 j hj
  simp only [Bool.and_eq_true, decide_eq_true_eq] at this
  exact this.1
theorem seenP_looks {π : List Nat} {N j : Nat} {o : Oper} (h : seenP ops π N = true) (hj : j ∈ π) (ho : ops[j]? = some o) {t : Nat} (ht : t ∈ o.looksAt ops) {k : Nat} (hw : writer ops t = some k) : N ≤ k ∨ (k ∈ preOf π j ∧ Region.waitsFor .any ops j k = true) := by
  simp only [seenP, Bool.and_eq_true] at h
  have := List.all_eq_true.1 h.2 j hj
  simp only [ho, Bool.and_eq_true] at this
  have := List.all_eq_true.1 this.2.1 t ht
  simp only [hw, Bool.or_eq_true, decide_eq_true_eq, Bool.and_eq_true, List.contains_eq_mem] at this
  exact this
theorem seenP_after {π : List Nat} {N j : Nat} {o : Oper} (h : seenP ops π N = true) (hj : j ∈ π) (ho : ops[j]? = some o) {e : Edge} (he : e ∈ o.after) (hb : Region.binds .any e = true) : e.on ∈ preOf π j := by
  simp only [seenP, Bool.and_eq_true] at h
  have := List.all_eq_true.1 h.2 j hj
  simp only [ho, Bool.and_eq_true] at this
  have := Array.all_eq_true_iff_forall_mem.1 this.2.2 e he
  simpa [hb] using this

/-- The frame of the walk with these values. -/
theorem lex_list {a0 : Act} {ws : Nat → Value} (hsole : soleB ops a0.tmps.size = true) (l : List Nat) (hl : ∀ k ∈ l, k < ops.size) (t : Nat) :
    (puts ops ws l a0).tmps[t]? = match writer ops t with
      | some k => if k ∈ l then some (ws k) else a0.tmps[t]?
      | none => a0.tmps[t]? := by
  cases hw : writer ops t with
  | none =>
    refine (puts_get ws t _ _).1 fun i hi hd => ?_
    have hi' := hl i hi
    have hoi : ops[i]? = some ops[i] := Array.getElem?_eq_getElem hi'
    rw [hoi] at hd
    exact writer_none hw hoi hd
  | some k =>
    obtain ⟨o, ho, hd⟩ := writer_some hw
    have hsole' : ∀ i, i < ops.size → (ops[i]?).bind (·.dst) = some t → i = k := fun i hi hdi => by
      have hoi : ops[i]? = some ops[i] := Array.getElem?_eq_getElem hi
      rw [hoi] at hdi
      have := (sole_dst hsole hoi hdi).1
      rw [hw] at this
      exact (Option.some.inj this).symm
    by_cases hk : k ∈ l
    · simp only [hk, if_true]
      exact (puts_get ws t _ _).2 k (fun i hi hdi => hsole' i (hl i hi) hdi) hk (by rw [ho]; exact hd) (sole_dst hsole ho hd).2
    · simp only [hk, if_false]
      exact (puts_get ws t _ _).1 fun i hi hdi => hk (hsole' i (hl i hi) hdi ▸ hi)

theorem mid_puts {a0 a : Act} {ws : Nat → Value} {L : Array Bool} {j : Nat} {o : Oper} {v : Value} (hsole : soleB ops a0.tmps.size = true) (mid : Mid ops a0 ws L a) (ho : ops[j]? = some o) (hjs : j < L.size)
    (hv : o.dst ≠ none → v = ws j) : Mid ops a0 ws (L.setIfInBounds j true) (a.put o.dst v) := by
  refine ⟨by rw [put_defers]; exact mid.defers, by rw [put_size]; exact mid.size, fun t => ?_⟩
  rw [put_get]
  by_cases hd : o.dst = some t
  · obtain ⟨hw, ht⟩ := sole_dst hsole ho hd
    rw [if_pos ⟨hd, by rw [mid.size]; exact ht⟩, hw]
    simp [hjs, hv (by rw [hd]; simp)]
  · rw [if_neg (fun h => hd h.1), mid.slot t]
    cases hw : writer ops t with
    | none => rfl
    | some k =>
      have hkj : j ≠ k := by
        rintro rfl
        obtain ⟨o', ho', hd'⟩ := writer_some hw
        rw [ho] at ho'; cases ho'
        exact hd hd'
      simp only []
      rw [getD_set_ne false hkj]

/-- What is told of operation j with these values, in the walk's own frame. -/
def ToldIn (P : Program) (ops : Array Oper) (C : World → Prop) (a0 : Act) (π : List Nat) (ws : Nat → Value) (j : Nat) (o : Oper) : Prop :=
  ∃ v, (o.dst ≠ none → v = ws j) ∧ Told P ops C o v (puts ops ws (preOf π j) a0)

/-- Whatever order: the quiet ones by their walk, the special ones as is told of them. -/
theorem run_order {Q : Exit → Act → World → Prop} {a0 : Act} {l : List Oper} {C : World → Prop} {N : Nat} {π : List Nat} (ws : Nat → Value) (special : Nat → Prop) (J : Array Bool → Prop)
    (hB : orderB l.toArray π N a0.tmps.size = true)
    (hJ : ∀ L j, J L → ¬ special j → J (L.setIfInBounds j true))
    (htold : ∀ j o, j < N → ¬ special j → l.toArray[j]? = some o → ToldIn P l.toArray C a0 π ws j o)
    (hspec : ∀ (fuel j : Nat) (o : Oper) (L : Array Bool) (a : Act) (w : World), special j → j < N → l.toArray[j]? = some o → J L → Mid l.toArray a0 ws L a → HeadInv .any l.toArray N L → C w → L.toList.count false = fuel + 1 → j ∈ Region.ready .any l.toArray L →
      (∀ t, t ∈ o.looksAt l.toArray → a.tmps[t]? = (puts l.toArray ws (preOf π j) a0).tmps[t]?) → wpOp P l.toArray Q j (wpAny P .any l.toArray Q fuel (L.setIfInBounds j true)) a w)
    (hfin : ∀ L w', J L → (∀ i, i < N → L.getD i false = true) → C w' → wpList P l.toArray Q (l.drop N) (puts l.toArray ws π a0) w') :
    ∀ (fuel : Nat) (L : Array Bool) (a : Act) (w : World), J L → Mid l.toArray a0 ws L a → HeadInv .any l.toArray N L → C w → L.toList.count false = fuel → wpAny P .any l.toArray Q fuel L a w := by
  simp only [orderB, Bool.and_eq_true, decide_eq_true_eq] at hB
  obtain ⟨⟨⟨⟨⟨⟨hsel, hn⟩, hs⟩, hc⟩, hsole⟩, hseen⟩, hseq⟩ := hB
  have hn' : N < l.length := by simpa using hn
  have hsz : l.toArray.size = l.length := by simp
  have hall' : ∀ i, i < N → i ∈ π := fun i hi => seenP_all hseen hi
  have hlt' : ∀ j, j ∈ π → j < N := fun j hj => seenP_lt hseen hj
  have lex := fun l' hl t => lex_list (ops := l.toArray) (ws := ws) (a0 := a0) hsole l' hl t
  have hpre : ∀ j k, k ∈ preOf π j → k < l.toArray.size := fun j k hk => by have := hlt' k (pre_mem hk); omega
  intro fuel
  induction fuel with
  | zero =>
    intro L a w hJL mid inv hCw hcnt
    exfalso
    have h1 := inv.tail N (Nat.le_refl _) hn
    have hl : N < L.size := by rw [inv.size]; exact hn
    have : false ∈ L.toList := by
      have h2 : L[N] = false := by simpa [hl] using h1
      rw [← h2]; simp
    have := List.count_pos_iff.2 this
    omega
  | succ fuel ih =>
    intro L a w hJL mid inv hCw hcnt
    by_cases hall : ∀ i, i < N → L.getD i false = true
    · have hL : L = Array.ofFn fun i : Fin l.toArray.size => decide (i.val < N) := by
        apply Array.ext
        · simp [inv.size]
        · intro i h1 h2
          have hi : i < l.toArray.size := by rw [← inv.size]; exact h1
          simp only [Array.getElem_ofFn]
          by_cases hin : i < N
          · have := hall i hin
            simp [h1] at this
            simp [hin, this]
          · have := inv.tail i (by omega) hi
            simp [h1] at this
            simp [hin, this]
      have ha : a = puts l.toArray ws π a0 := by
        have e1 : a.tmps = (puts l.toArray ws π a0).tmps := by
          apply Array.ext_getElem?
          intro t
          rw [mid.slot t, lex π (fun k hk => by have := hlt' k hk; omega) t]
          cases hw : writer l.toArray t with
          | none => rfl
          | some k =>
            simp only []
            by_cases hk : k < N
            · rw [if_pos (hall k hk), if_pos (hall' k hk)]
            · rw [if_neg (fun h => hk (hlt' k h)), if_neg]
              obtain ⟨o, ho, _⟩ := writer_some hw
              have := getD_both (inv.tail k (by omega) (Array.getElem?_eq_some_iff.1 ho).1)
              rw [this]; simp
        have e2 : a.defers = (puts l.toArray ws π a0).defers := by rw [mid.defers]; exact (puts_defers ws _ _).symm
        cases a
        cases hp : puts l.toArray ws π a0
        simp only [hp] at e1 e2
        subst e1 e2
        rfl
      have hfin' := hfin L w hJL hall hCw
      have hcnt2 : fuel + 1 = (l.drop N).length := by
        rw [← hcnt, hL]
        simp only [Array.toList_ofFn, List.length_drop]
        have gen : ∀ (m n : Nat), ((List.ofFn fun i : Fin m => decide (i.val < n)).count false) = m - n := by
          intro m
          induction m with
          | zero => intro n; simp
          | succ m ihm =>
            intro n
            cases n with
            | zero =>
              have := ihm 0
              simp [List.ofFn_succ] at this ⊢
              omega
            | succ n =>
              have := ihm n
              simp [List.ofFn_succ] at this ⊢
              omega
        simpa using gen l.toArray.size N
      rw [hcnt2]
      refine wpAny_of_seq (md := .any) (l.drop N) N L a w (fun j => by simp [List.getElem?_drop]) ?_ ?_
      · rw [hL]
        have e : (l.drop N).length = l.toArray.size - N := by simp
        rw [e]; exact hseq
      · rw [ha]; exact hfin'
    · have hex : ∃ i, i < N ∧ L.getD i true = false := by
        refine Classical.byContradiction fun hno => hall fun i hi => ?_
        cases hg : L.getD i true with
        | false => exact absurd ⟨i, hi, hg⟩ hno
        | true =>
          have hl : i < L.size := by rw [inv.size]; omega
          simp [hl] at hg ⊢
          exact hg
      obtain ⟨i0, hi0, hun0⟩ := hex
      have hready : ∀ j ∈ Region.ready .any l.toArray L, j < N := fun j hj => by
        rcases Nat.lt_or_ge j N with h | h
        · exact h
        · exact absurd hj (tail_waits hs hc hn inv _ i0 rfl hi0 hun0 j h)
      have hne : Region.ready .any l.toArray L ≠ [] := by
        intro hnil
        have hl : ∀ (d j : Nat), (preOf π j).length = d → j < N → L.getD j false = true := by
          intro d
          induction d using Nat.strongRecOn with
          | _ d ihd =>
            intro j hd hj
            cases hlj : L.getD j false with
            | true => rfl
            | false =>
              exfalso
              have hjo : j < l.toArray.size := by omega
              have hoj : l.toArray[j]? = some l.toArray[j] := Array.getElem?_eq_getElem hjo
              have : j ∈ Region.ready .any l.toArray L := mem_ready.2 ⟨getD_in (by rw [inv.size]; exact hjo) hlj, _, hoj, fun e he hb => by
                have h1 := seenP_after hseen (hall' j hj) hoj he hb
                have h2 := pre_short h1
                exact ihd _ (by omega) e.on rfl (hlt' _ (pre_mem h1))⟩
              rw [hnil] at this
              cases this
        exact hall fun i hi => hl _ i rfl hi
      refine ⟨fun hr => absurd hr hne, fun j hj => ?_⟩
      have hjn := hready j hj
      obtain ⟨hun, o, ho, hpr⟩ := mem_ready.1 hj
      have hjs : j < L.size := by rw [inv.size]; omega
      have same : ∀ t, t ∈ o.looksAt l.toArray → a.tmps[t]? = (puts l.toArray ws (preOf π j) a0).tmps[t]? := by
        intro t ht
        rw [mid.slot t, lex (preOf π j) (hpre j) t]
        cases hw : writer l.toArray t with
        | none => rfl
        | some k =>
          simp only []
          rcases seenP_looks hseen (hall' j hjn) ho ht hw with hk | ⟨hk, hwait⟩
          · obtain ⟨o', ho', _⟩ := writer_some hw
            have := getD_both (inv.tail k hk (Array.getElem?_eq_some_iff.1 ho').1)
            rw [if_neg (by rw [this]; simp), if_neg (fun h => by have := hlt' k (pre_mem h); omega)]
          · obtain ⟨oj, hoj, e, he, hb, hon⟩ := Region.waitsFor_spec hwait
            have : oj = o := Option.some.inj (hoj.symm.trans ho)
            subst this
            have := hpr e he hb
            rw [hon] at this
            rw [if_pos this, if_pos hk]
      by_cases hsp : special j
      · exact hspec fuel j o L a w hsp hjn ho hJL mid inv hCw hcnt hj same
      · have hexec : execOp a.eval o = execOp (puts l.toArray ws (preOf π j) a0).eval o := by
          refine execOp_congr o (fun cs b => Region.noSelect_spec hsel j o cs b ho) fun x hx => ?_
          cases x with
          | tmp t =>
            have := same t (List.mem_append_left _ (List.mem_filterMap.2 ⟨.tmp t, by simpa using hx, rfl⟩))
            simp only [Act.eval, Array.getD_eq_getD_getElem?, this]
          | _ => rfl
        have hwant : Region.wanted o (yielded l.toArray a.tmps) = Region.wanted o (yielded l.toArray (puts l.toArray ws (preOf π j) a0).tmps) := by
          unfold Region.wanted
          cases hg : o.guard with
          | none => rfl
          | some gw =>
            obtain ⟨g, want⟩ := gw
            have hy : yielded l.toArray a.tmps g = yielded l.toArray (puts l.toArray ws (preOf π j) a0).tmps g := by
              unfold yielded
              cases ht : (l.toArray[g]?).bind (·.dst) with
              | none => rfl
              | some t =>
                have := same t (List.mem_append_right _ (by simp only [hg, ht]; simp))
                simp only [Option.bind_some, this]
            simp only [hy]
        have hcnt' : (L.setIfInBounds j true).toList.count false = fuel := by
          have := count_set L.toList j (by simp [hjs] at hun ⊢; exact hun)
          simp only [Array.toList_setIfInBounds]
          omega
        obtain ⟨v, hv, told⟩ := htold j o hjn hsp ho
        have next : ∀ w', C w' → wpAny P .any l.toArray Q fuel (L.setIfInBounds j true) (a.put o.dst v) w' := fun w' hw' => ih _ _ _ (hJ L j hJL hsp) (mid_puts hsole mid ho hjs hv) (inv.set hj hjn) hw' hcnt'
        unfold wpOp
        simp only [ho]
        rcases told with ⟨hwt, hq⟩ | ⟨hwt, hu⟩
        · rw [if_pos (by rw [hwant]; exact hwt)]
          left
          refine Oper.wp_of_quiet (C := C) (K := fun a' => a' = a.put o.dst v) hCw (fun a' w' hw' e => e ▸ next w' hw') ⟨v, fun w' hw' => ?_, rfl⟩
          have := hq w' hw'
          unfold Oper.quietAt at this ⊢
          rw [hexec]; exact this
        · rw [if_neg (by rw [hwant, hwt]; simp), ← hu]
          exact next w hCw

theorem walk_list {C : World → Prop} {Qf : Act → Prop} : ∀ (js : List Nat) (a : Act), js.Nodup → (∀ j ∈ js, j < ops.size) → wpQuiet P ops C Qf (js.filterMap (ops[·]?)) a →
    ∃ vs : Nat → Value, Qf (puts ops vs js a) ∧ ∀ A j B o, js = A ++ j :: B → ops[j]? = some o → Told P ops C o (vs j) (puts ops vs A a)
  | [], a, _, _, h => ⟨fun _ => undef, h, fun A j B o e => by cases A <;> cases e⟩
  | k :: js, a, hn, hl, h => by
    have hk := hl k List.mem_cons_self
    have h0 : ops[k]? = some ops[k] := Array.getElem?_eq_getElem hk
    obtain ⟨hnk, hnj⟩ := List.nodup_cons.1 hn
    generalize ops[k] = x at h0
    have hf : (k :: js).filterMap (ops[·]?) = x :: js.filterMap (ops[·]?) := by rw [List.filterMap_cons, h0]
    rw [hf] at h
    have key : ∃ v, Told P ops C x v a ∧ wpQuiet P ops C Qf (js.filterMap (ops[·]?)) (a.put x.dst v) := by
      unfold wpQuiet at h
      by_cases hw : Region.wanted x (yielded ops a.tmps) = true
      · rw [if_pos hw] at h
        obtain ⟨v, h1, h2⟩ := h
        exact ⟨v, .inl ⟨hw, h1⟩, h2⟩
      · rw [if_neg hw] at h
        exact ⟨undef, .inr ⟨by simpa using hw, rfl⟩, h⟩
    obtain ⟨v, hv, hrest⟩ := key
    obtain ⟨us, hq, hu⟩ := walk_list js (a.put x.dst v) hnj (fun j hj => hl j (List.mem_cons_of_mem _ hj)) hrest
    let vs : Nat → Value := fun j => if j = k then v else us j
    have hne : ∀ j, j ≠ k → vs j = us j := fun j hj => by simp only [vs, if_neg hj]
    have hk' : vs k = v := by simp only [vs, if_pos rfl]
    have step : ∀ m : List Nat, (∀ j ∈ m, j ∈ js) → puts ops vs (k :: m) a = puts ops us m (a.put x.dst v) := by
      intro m hm
      show puts ops vs m (a.put ((ops[k]?).bind (·.dst)) (vs k)) = _
      rw [h0, hk']
      exact puts_congr _ _ fun j hj => hne j (fun e => hnk (e ▸ hm j hj))
    refine ⟨vs, by rw [step js (fun _ h => h)]; exact hq, fun A j B o e ho => ?_⟩
    cases A with
    | nil =>
      simp only [List.nil_append, List.cons.injEq] at e
      obtain ⟨rfl, rfl⟩ := e
      rw [h0] at ho; cases ho
      rw [hk']
      exact hv
    | cons y A =>
      simp only [List.cons_append, List.cons.injEq] at e
      obtain ⟨rfl, e⟩ := e
      rw [step A (fun i hi => by rw [e]; exact List.mem_append_left _ hi)]
      have := hu A j B o e ho
      rw [hne j (fun h => hnk (by rw [← h, e]; exact List.mem_append_right _ List.mem_cons_self))]
      exact this

/-- The order, laid flat. -/
def flatO (segs : List (List Nat × Nat)) (last : List Nat) : List Nat := segs.flatMap (fun s => s.1 ++ [s.2]) ++ last

/-- Quiet ones, whatever else lasts. -/
def quietAll (P : Program) (l : List Oper) (W : World) (S : World → Prop) (js : List Nat) (a A : Act) : Prop :=
  ∀ S', Stable S' → (∀ w, S' w → S w) → Nonempty (LaterC W S') → wpQuiet P l.toArray (fun w' => ∃ u : LaterC W S', w' = u.val) (fun a' => a' = A) (js.filterMap (l.toArray[·]?)) a

/-- The walk, in the order of one's own. -/
def walkW (P : Program) (l : List Oper) (Q : Exit → Act → World → Prop) (N : Nat) (W : World) (last : List Nat) : (World → Prop) → List (List Nat × Nat) → Act → Prop
  | S, [], a => ∃ A, quietAll P l W S last a A ∧ ∀ u : LaterC W S, wpList P l.toArray Q (l.drop N) A u.val
  | S, s :: segs, a => ∃ A, quietAll P l W S s.1 a A ∧ ∃ (o : Oper) (f : FuncId) (args : Array Value) (G : Value → World → Prop), l.toArray[s.2]? = some o ∧ o.dst ≠ none ∧ Region.wanted o (yielded l.toArray A.tmps) = true ∧ (∀ w, (execOp A.eval o).run P w = .ok (.enter f args) w) ∧
      (∀ v, Stable (G v)) ∧ (∀ u : LaterC W S, Calls P f args u.val fun e w' => ∃ v, e = .returned v ∧ Below u.val.heap.size u.val w' ∧ G v w') ∧
      ∀ v, Nonempty (LaterC W fun w => S w ∧ G v w) → walkW P l Q N W last (fun w => S w ∧ G v w) segs (A.put o.dst v)

/-- What a segment of quiet ones tells: values that the walk's last frame holds. -/
theorem seg_told {a0 : Act} {l : List Oper} {W : World} {S : World → Prop} {N : Nat} {π pre js rest : List Nat} {ws : Nat → Value} {A : Act} (hB : orderB l.toArray π N a0.tmps.size = true) (hπ : π = pre ++ (js ++ rest)) (hS : Stable S) (hN : Nonempty (LaterC W S))
    (h : quietAll P l W S js (puts l.toArray ws pre a0) A) :
    ∃ ws' : Nat → Value, (∀ k, k ∉ js → ws' k = ws k) ∧ A = puts l.toArray ws' (pre ++ js) a0 ∧ puts l.toArray ws' pre a0 = puts l.toArray ws pre a0 ∧
      ∀ j o, j ∈ js → l.toArray[j]? = some o → ∀ S', Stable S' → (∀ w, S' w → S w) → Nonempty (LaterC W S') → ToldIn P l.toArray (fun w' => ∃ u : LaterC W S', w' = u.val) a0 π ws' j o := by
  have hB0 := hB
  simp only [orderB, Bool.and_eq_true, decide_eq_true_eq] at hB
  obtain ⟨⟨⟨⟨⟨⟨hsel, hn⟩, hs⟩, hc⟩, hsole⟩, hseen⟩, hseq⟩ := hB
  have hnd := seenP_nodup hseen
  have hlt : ∀ j ∈ π, j < l.toArray.size := fun j hj => Nat.lt_trans (seenP_lt hseen hj) hn
  rw [hπ] at hnd
  have hjs : js.Nodup := (List.nodup_append.1 (List.nodup_append.1 hnd).2.1).1
  have hpj : ∀ k ∈ pre, k ∉ js := fun k hk hj => (List.nodup_append.1 hnd).2.2 k hk k (List.mem_append_left _ hj) rfl
  have hjlt : ∀ j ∈ js, j < l.toArray.size := fun j hj => hlt j (by rw [hπ]; exact List.mem_append_right _ (List.mem_append_left _ hj))
  let ws' : Nat → Value := fun k => if k ∈ js then valOf l.toArray A k else ws k
  have hw1 : ∀ k, k ∉ js → ws' k = ws k := fun k hk => if_neg hk
  have hw2 : ∀ k, k ∈ js → ws' k = valOf l.toArray A k := fun k hk => if_pos hk
  have hpre : puts l.toArray ws' pre a0 = puts l.toArray ws pre a0 := puts_congr _ _ fun k hk => hw1 k (hpj k hk)
  have happ : ∀ (us : Nat → Value) (X Y : List Nat), puts l.toArray us (X ++ Y) a0 = puts l.toArray us Y (puts l.toArray us X a0) := fun us X Y => by unfold puts; rw [List.foldl_append]
  have get : ∀ S', Stable S' → (∀ w, S' w → S w) → Nonempty (LaterC W S') → ∃ us : Nat → Value, A = puts l.toArray us js (puts l.toArray ws pre a0) ∧ (∀ j ∈ js, (l.toArray[j]?).bind (·.dst) ≠ none → us j = ws' j) ∧
      ∀ X j Y o, js = X ++ j :: Y → l.toArray[j]? = some o → Told P l.toArray (fun w' => ∃ u : LaterC W S', w' = u.val) o (us j) (puts l.toArray us X (puts l.toArray ws pre a0)) := by
    intro S' h1 h2 h3
    obtain ⟨us, hfin, htold⟩ := walk_list (ops := l.toArray) js _ hjs hjlt (h S' h1 h2 h3)
    refine ⟨us, hfin.symm, fun j hj hd => ?_, htold⟩
    obtain ⟨t, ht⟩ := Option.ne_none_iff_exists'.1 hd
    have hlj := hjlt j hj
    have hoj : l.toArray[j]? = some l.toArray[j] := Array.getElem?_eq_getElem hlj
    have hd2 : l.toArray[j].dst = some t := by rw [hoj] at ht; simpa using ht
    have hsd := sole_dst hsole hoj hd2
    have := (puts_get us t js (puts l.toArray ws pre a0)).2 j (fun k hk hdk => by
      have hkl := hjlt k hk
      have hok : l.toArray[k]? = some l.toArray[k] := Array.getElem?_eq_getElem hkl
      rw [hok] at hdk
      have := (sole_dst hsole hok (by simpa using hdk)).1
      rw [hsd.1] at this
      exact (Option.some.inj this).symm) hj ht (by rw [puts_size]; exact hsd.2)
    rw [hfin] at this
    rw [hw2 j hj]
    show us j = valOf l.toArray A j
    unfold valOf
    rw [ht]
    simp [this]
  have conv : ∀ (us : Nat → Value), (∀ j ∈ js, (l.toArray[j]?).bind (·.dst) ≠ none → us j = ws' j) → ∀ X, (∀ k ∈ X, k ∈ js) → puts l.toArray us X (puts l.toArray ws pre a0) = puts l.toArray ws' (pre ++ X) a0 := by
    intro us hus X hX
    rw [happ, hpre]
    exact puts_val _ _ fun j hj hd => hus j (hX j hj) hd
  refine ⟨ws', hw1, ?_, hpre, fun j o hj ho S' h1 h2 h3 => ?_⟩
  · obtain ⟨us, e, hus, _⟩ := get S hS (fun _ h => h) hN
    rw [e, conv us hus js (fun _ h => h)]
  · obtain ⟨us, e, hus, htold⟩ := get S' h1 h2 h3
    obtain ⟨X, Y, hXY⟩ := List.append_of_mem hj
    refine ⟨us j, fun hd => hus j hj (by rw [ho]; simpa using hd), ?_⟩
    have hp : preOf π j = pre ++ X := by
      rw [hπ, hXY, List.append_assoc, List.cons_append, ← List.append_assoc]
      refine pre_split fun hm => ?_
      rcases List.mem_append.1 hm with hm | hm
      · exact hpj j hm hj
      · rw [hXY] at hjs
        exact (List.nodup_append.1 hjs).2.2 j hm j List.mem_cons_self rfl
    rw [hp, ← conv us hus X (fun k hk => by rw [hXY]; exact List.mem_append_left _ hk)]
    exact htold X j Y o hXY ho

theorem told_congr {l : List Oper} {a0 : Act} {C : World → Prop} {π pre rest : List Nat} {ws ws' : Nat → Value} (hnd : π.Nodup) (hπ : π = pre ++ rest) (h : ∀ k ∈ pre, ws' k = ws k) {j : Nat} {o : Oper} (hj : j ∈ pre) (ht : ToldIn P l.toArray C a0 π ws j o) : ToldIn P l.toArray C a0 π ws' j o := by
  obtain ⟨v, hv, ht⟩ := ht
  obtain ⟨X, Y, hXY⟩ := List.append_of_mem hj
  have hp : preOf π j = X := by
    rw [hπ, hXY] at hnd ⊢
    rw [List.append_assoc, List.cons_append] at hnd ⊢
    exact pre_split fun hm => (List.nodup_append.1 hnd).2.2 j hm j List.mem_cons_self rfl
  refine ⟨v, fun hd => (hv hd).trans (h j hj).symm, ?_⟩
  rw [hp] at ht ⊢
  rw [puts_congr (vs := ws') (us := ws) X a0 fun k hk => h k (by rw [hXY]; exact List.mem_append_left _ hk)]
  exact ht

theorem mid_congr {a0 a : Act} {ws ws' : Nat → Value} {L : Array Bool} (h : ∀ k, L.getD k false = true → ws' k = ws k) (mid : Mid ops a0 ws L a) : Mid ops a0 ws' L a := by
  refine ⟨mid.defers, mid.size, fun t => ?_⟩
  rw [mid.slot t]
  cases hw : writer ops t with
  | none => rfl
  | some k =>
    simp only []
    by_cases hk : L.getD k false = true
    · rw [if_pos hk, if_pos hk, h k hk]
    · rw [if_neg hk, if_neg hk]

theorem run_walk {Q : Exit → Act → World → Prop} {a0 : Act} {l : List Oper} {W : World} {N : Nat} {π : List Nat} (last : List Nat) (hB : orderB l.toArray π N a0.tmps.size = true) :
    ∀ (segs : List (List Nat × Nat)) (S : World → Prop) (pre done : List Nat) (ws : Nat → Value), π = pre ++ flatO segs last → Stable S → (∀ s ∈ segs, wildP l.toArray π s.2 = true) → (∀ j ∈ done, j ∈ pre) →
      (∀ j ∈ pre, j ∉ done → ∀ o, l.toArray[j]? = some o → ∀ S', Stable S' → (∀ w, S' w → S w) → Nonempty (LaterC W S') → ToldIn P l.toArray (fun w' => ∃ u : LaterC W S', w' = u.val) a0 π ws j o) →
      walkW P l Q N W last S segs (puts l.toArray ws pre a0) →
      ∀ (fuel : Nat) (L : Array Bool) (a : Act) (w : World), (∀ j ∈ flatO segs last, L.getD j false = false) → (∀ j ∈ done, L.getD j false = true) → Mid l.toArray a0 ws L a → HeadInv .any l.toArray N L → (∃ u : LaterC W S, w = u.val) → L.toList.count false = fuel → wpAny P .any l.toArray Q fuel L a w := by
  have hB0 := hB
  simp only [orderB, Bool.and_eq_true, decide_eq_true_eq] at hB
  obtain ⟨⟨⟨⟨⟨⟨hsel, hn⟩, hs⟩, hc⟩, hsole⟩, hseen⟩, hseq⟩ := hB
  have hnd := seenP_nodup hseen
  have hsz : l.toArray.size = l.length := by simp
  intro segs
  induction segs with
  | nil =>
    intro S pre done ws hπ hS hW hdp told hwalk fuel L a w hL hD mid inv hw hcnt
    have hNe : Nonempty (LaterC W S) := hw.elim fun u _ => ⟨u⟩
    obtain ⟨A, hq, hfin⟩ := hwalk
    have hπ' : π = pre ++ (last ++ []) := by rw [hπ]; simp [flatO]
    obtain ⟨ws', w1, hA, hpre, told2⟩ := seg_told hB0 hπ' hS hNe hq
    have hndp := hnd
    rw [hπ'] at hndp
    have hpl : ∀ k ∈ pre, k ∉ last := fun k hk hj => (List.nodup_append.1 hndp).2.2 k hk k (by simpa using hj) rfl
    refine run_order (C := fun w' => ∃ u : LaterC W S, w' = u.val) (N := N) ws' (fun j => j ∈ done) (fun L => ∀ j ∈ done, L.getD j false = true) hB0 ?_ ?_ ?_ ?_ fuel L a w hD (mid_congr (fun k hk => w1 k fun hj => by rw [hL k (by simpa [flatO] using hj)] at hk; cases hk) mid) inv hw hcnt
    · intro L j hJ hj k hk
      rw [getD_set_ne false (fun e => hj (show j ∈ done by rw [e]; exact hk))]
      exact hJ k hk
    · intro j o hjN hj ho
      have hjπ := seenP_all hseen hjN
      rw [hπ'] at hjπ
      rcases List.mem_append.1 hjπ with h | h
      · exact told_congr hnd hπ' (fun k hk => w1 k (hpl k hk)) h (told j h hj o ho S hS (fun _ h => h) hNe)
      · exact told2 j o (by simpa using h) ho S hS (fun _ h => h) hNe
    · intro fuel j o L a w hj _ _ hJ _ _ _ _ hrd _
      obtain ⟨hun, _⟩ := mem_ready.1 hrd
      have := getD_both hun
      rw [hJ j hj] at this
      cases this
    · rintro L w' _ _ ⟨u, rfl⟩
      have e : puts l.toArray ws' π a0 = A := by rw [hA, hπ']; simp
      rw [e]
      exact hfin u
  | cons s segs ih =>
    intro S pre done ws hπ hS hW hdp told hwalk fuel L a w hL hD mid inv hw hcnt
    have hNe : Nonempty (LaterC W S) := hw.elim fun u _ => ⟨u⟩
    obtain ⟨A, hq, on, f, args, G, hon, hdn, hwn, hrun, hG, hcall, hnext⟩ := hwalk
    obtain ⟨js, n⟩ := s
    simp only at hq hon
    have hfl : flatO ((js, n) :: segs) last = js ++ (n :: flatO segs last) := by simp [flatO]
    rw [hfl] at hπ hL
    obtain ⟨ws', w1, hA, hpre, told2⟩ := seg_told hB0 hπ hS hNe hq
    have hndp := hnd
    rw [hπ] at hndp
    have hd1 := List.nodup_append.1 hndp
    have hd2 := List.nodup_append.1 hd1.2.1
    have hpl : ∀ k ∈ pre, k ∉ js := fun k hk hj => hd1.2.2 k hk k (List.mem_append_left _ hj) rfl
    have hcurn : ∀ k, k ∈ pre ∨ k ∈ js → k ≠ n ∧ k ∉ flatO segs last := by
      rintro k (hk | hk)
      · exact ⟨fun e => hd1.2.2 k hk k (List.mem_append_right _ (by rw [e]; exact List.mem_cons_self)) rfl, fun hf => hd1.2.2 k hk k (List.mem_append_right _ (List.mem_cons_of_mem _ hf)) rfl⟩
      · exact ⟨fun e => hd2.2.2 k hk k (by rw [e]; exact List.mem_cons_self) rfl, fun hf => hd2.2.2 k hk k (List.mem_cons_of_mem _ hf) rfl⟩
    have hnπ : n ∈ π := by rw [hπ]; simp
    have hpn : preOf π n = pre ++ js := by
      rw [hπ, ← List.append_assoc]
      exact pre_split fun hm => by
        rcases List.mem_append.1 hm with h | h
        · exact (hcurn n (.inl h)).1 rfl
        · exact (hcurn n (.inr h)).1 rfl
    have toldAll : ∀ j, (j ∈ pre ∧ j ∉ done) ∨ j ∈ js → ∀ o, l.toArray[j]? = some o → ∀ S', Stable S' → (∀ w, S' w → S w) → Nonempty (LaterC W S') → ToldIn P l.toArray (fun w' => ∃ u : LaterC W S', w' = u.val) a0 π ws' j o := by
      rintro j (⟨h, hd⟩ | h) o ho S' h1 h2 h3
      · exact told_congr hnd hπ (fun k hk => w1 k (hpl k hk)) h (told j h hd o ho S' h1 h2 h3)
      · exact told2 j o h ho S' h1 h2 h3
    refine run_order (C := fun w' => ∃ u : LaterC W S, w' = u.val) (N := N) ws' (fun j => j ∈ done ∨ j ∈ n :: flatO segs last) (fun L => (∀ j ∈ done, L.getD j false = true) ∧ ∀ j ∈ n :: flatO segs last, L.getD j false = false) hB0 ?_ ?_ ?_ ?_ fuel L a w
      ⟨hD, fun j hj => hL j (List.mem_append_right _ hj)⟩ (mid_congr (fun k hk => w1 k fun hj => by rw [hL k (List.mem_append_left _ hj)] at hk; cases hk) mid) inv hw hcnt
    · rintro L j ⟨h1, h2⟩ hj
      have g1 : j ∉ done := fun h => hj (.inl h)
      have g2 : j ∉ n :: flatO segs last := fun h => hj (.inr h)
      exact ⟨fun k hk => by rw [getD_set_ne false (fun e => g1 (by rw [e]; exact hk))]; exact h1 k hk, fun k hk => by rw [getD_set_ne false (fun e => g2 (by rw [e]; exact hk))]; exact h2 k hk⟩
    · intro j o hjN hj ho
      have hjπ := seenP_all hseen hjN
      rw [hπ] at hjπ
      refine toldAll j ?_ o ho S hS (fun _ h => h) hNe
      rcases List.mem_append.1 hjπ with h | h
      · exact .inl ⟨h, fun hd => hj (.inl hd)⟩
      · rcases List.mem_append.1 h with h | h
        · exact .inr h
        · exact absurd (.inr h) hj
    · intro fuel j o L a w hj hjN ho hJ mid inv hCw hcnt hrd same
      obtain ⟨hun, o', ho', hpr⟩ := mem_ready.1 hrd
      have e1 : o' = o := Option.some.inj (ho'.symm.trans ho)
      subst e1
      have hjs : j < L.size := by rw [inv.size]; omega
      have hjn : j = n := by
        rcases hj with hj | hj
        · have := getD_both hun
          rw [hJ.1 j hj] at this
          cases this
        · rcases List.mem_cons.1 hj with h | h
          · exact h
          · exfalso
            have hjn : j ≠ n := fun e => (List.nodup_cons.1 hd2.2.1).1 (e ▸ h)
            have hnj : n ∈ preOf π j := by
              obtain ⟨X, Y, hXY⟩ := List.append_of_mem h
              have e : π = (pre ++ (js ++ (n :: X))) ++ j :: Y := by rw [hπ, hXY]; simp
              have : preOf π j = pre ++ (js ++ (n :: X)) := by
                rw [e] at hnd ⊢
                exact pre_split fun hm => (List.nodup_append.1 hnd).2.2 j hm j List.mem_cons_self rfl
              rw [this]; simp
            have hw := List.all_eq_true.1 (hW (js, n) List.mem_cons_self) j (seenP_all hseen hjN)
            simp only [Bool.or_eq_true, Bool.not_eq_true', List.contains_eq_mem, decide_eq_false_iff_not] at hw
            rcases hw with hw | hw
            · exact hw hnj
            · obtain ⟨k, hk, h2⟩ := List.any_eq_true.1 hw
              simp only [Bool.and_eq_true, Bool.not_eq_true', List.contains_eq_mem, decide_eq_false_iff_not] at h2
              obtain ⟨h2, hwt⟩ := h2
              obtain ⟨oj, hoj, e, he, hb, hone⟩ := Region.waitsFor_spec hwt
              have : oj = o' := Option.some.inj (hoj.symm.trans ho)
              subst this
              have hdone := hpr e he hb
              have hkπ := pre_mem hk
              rw [hπ] at hkπ
              rw [hpn] at h2
              rcases List.mem_append.1 hkπ with h3 | h3
              · exact h2 (List.mem_append_left _ h3)
              · rcases List.mem_append.1 h3 with h3 | h3
                · exact h2 (List.mem_append_right _ h3)
                · rw [hone, hJ.2 k h3] at hdone
                  cases hdone
      subst hjn
      have e2 : on = o' := Option.some.inj (hon.symm.trans ho)
      subst e2
      have hcnt' : (L.setIfInBounds j true).toList.count false = fuel := by
        have := count_set L.toList j (by simp [hjs] at hun ⊢; exact hun)
        simp only [Array.toList_setIfInBounds]
        omega
      rw [hpn, ← hA] at same
      have hexec : execOp a.eval on = execOp A.eval on := by
        refine execOp_congr on (fun cs b => Region.noSelect_spec hsel j on cs b ho) fun x hx => ?_
        cases x with
        | tmp t =>
          have := same t (List.mem_append_left _ (List.mem_filterMap.2 ⟨.tmp t, by simpa using hx, rfl⟩))
          simp only [Act.eval, Array.getD_eq_getD_getElem?, this]
        | _ => rfl
      have hwant : Region.wanted on (yielded l.toArray a.tmps) = Region.wanted on (yielded l.toArray A.tmps) := by
        unfold Region.wanted
        cases hg : on.guard with
        | none => rfl
        | some gw =>
          obtain ⟨g, want⟩ := gw
          have hy : yielded l.toArray a.tmps g = yielded l.toArray A.tmps g := by
            unfold yielded
            cases ht : (l.toArray[g]?).bind (·.dst) with
            | none => rfl
            | some t =>
              have := same t (List.mem_append_right _ (by simp only [hg, ht]; simp))
              simp only [Option.bind_some, this]
          simp only [hy]
      unfold wpOp
      simp only [ho]
      rw [if_pos (by rw [hwant]; exact hwn)]
      left
      unfold Oper.wp
      rw [hexec, hrun w, Oper.upon_enter]
      obtain ⟨u0, rfl⟩ := hCw
      refine (hcall u0).mono ?_
      rintro e w' ⟨v, rfl, hb, hg⟩
      show wpAny P .any l.toArray Q fuel (L.setIfInBounds j true) (a.put on.dst v) w'
      obtain ⟨u1, hu1⟩ : ∃ u : LaterC W fun w => S w ∧ G v w, w' = u.val := ⟨⟨w', u0.h.trans (hb.mono u0.h.size), hS _ _ u0.s hb, hg⟩, rfl⟩
      let ws'' : Nat → Value := fun k => if k = j then v else ws' k
      have v1 : ∀ k, k ≠ j → ws'' k = ws' k := fun k hk => if_neg hk
      have v2 : ws'' j = v := if_pos rfl
      have hpc : ∀ k ∈ pre ++ js, ws'' k = ws' k := fun k hk => v1 k ((hcurn k (List.mem_append.1 hk)).1)
      have hfr : puts l.toArray ws'' (pre ++ js ++ [j]) a0 = A.put on.dst v := by
        rw [puts_snoc, puts_congr (vs := ws'') (us := ws') _ _ hpc, ← hA, v2, ho]
        rfl
      refine ih (fun w => S w ∧ G v w) (pre ++ js ++ [j]) (j :: done) ws'' (by rw [hπ]; simp) (fun w1 w2 h hb => ⟨hS _ _ h.1 hb, hG v _ _ h.2 hb⟩) (fun s hs => hW s (List.mem_cons_of_mem _ hs)) ?_ ?_ ?_ fuel _ _ w' ?_ ?_ ?_ (inv.set hrd hjN) ⟨u1, hu1⟩ hcnt'
      · intro k hk
        rcases List.mem_cons.1 hk with h | h
        · rw [h]; simp
        · exact List.mem_append_left _ (List.mem_append_left _ (hdp k h))
      · intro k hk hkd o2 ho2 S' h1 h2 h3
        have hk' : k ∈ pre ++ js := by
          rcases List.mem_append.1 hk with h | h
          · exact h
          · exact absurd (List.mem_cons.2 (.inl (by simpa using h))) hkd
        refine told_congr (pre := pre ++ js) (rest := j :: flatO segs last) hnd (by rw [hπ]; simp) hpc hk' (toldAll k ?_ o2 ho2 S' h1 (fun w h => (h2 w h).1) h3)
        rcases List.mem_append.1 hk' with h | h
        · exact .inl ⟨h, fun hd => hkd (List.mem_cons_of_mem _ hd)⟩
        · exact .inr h
      · rw [hfr]
        exact hnext v ⟨u1⟩
      · intro k hk
        have hne : j ≠ k := fun e => (List.nodup_cons.1 hd2.2.1).1 (e ▸ hk)
        rw [getD_set_ne false hne]
        exact hJ.2 k (List.mem_cons_of_mem _ hk)
      · intro k hk
        rcases List.mem_cons.1 hk with h | h
        · rw [h]; simp [hjs]
        · by_cases e : j = k
          · rw [← e]; simp [hjs]
          · rw [getD_set_ne false e]; exact hJ.1 k h
      · refine mid_puts hsole (mid_congr (fun k hk => v1 k fun e => ?_) mid) ho hjs (fun _ => v2.symm)
        rw [e, hJ.2 j List.mem_cons_self] at hk
        cases hk
    · intro L w' hJ hall _
      have := hall n (seenP_lt hseen hnπ)
      rw [hJ.2 n List.mem_cons_self] at this
      cases this

/-- **THE RULE.** An order of one's own: segments of quiet operations, a call behind each of whose value something is known; quiet ones at last; then the rest, one by one. -/
theorem wp_region_order {id : Nat} {Q : Exit → Act → World → Prop} {a0 : Act} {W : World} {l : List Oper} (segs : List (List Nat × Nat)) (last : List Nat) (N : Nat) (hm : P.follows .mixedOrders = true)
    (hB : orderB l.toArray (flatO segs last) N a0.tmps.size = true) (hW : (segs.all fun s => wildP l.toArray (flatO segs last) s.2) = true)
    (h : walkW P l Q N W last (fun _ => True) segs a0) : (Code.region id l.toArray true).wp P Q a0 W := by
  refine wp_region_any hm ?_
  refine run_walk (W := W) last hB segs (fun _ => True) [] [] (fun _ => undef) (by simp) (fun _ _ _ _ => trivial) (fun s hs => List.all_eq_true.1 hW s hs) (by simp) (by simp) h l.toArray.size _ a0 W.drew (fun j _ => getD_replicate_false _ _) (by simp) ⟨rfl, rfl, fun t => ?_⟩
    ⟨by simp, fun j oj _ hl => (by rw [getD_replicate_false] at hl; cases hl), fun t _ ht => getD_in (by simpa using ht) (getD_replicate_false _ _)⟩ ⟨⟨W.drew, Below.drew (Below.refl _ _), trivial⟩, rfl⟩ (by simp)
  cases hw : writer l.toArray t with
  | none => rfl
  | some k => simp only [getD_replicate_false]; simp
/-- A call behind quiet ones. -/
theorem order_call {Q : Exit → Act → World → Prop} {l : List Oper} {W : World} {S : World → Prop} {N : Nat} {last js : List Nat} {n : Nat} {segs : List (List Nat × Nat)} {a : Act} (A : Act)
    (hq : ∀ S', Stable S' → (∀ w, S' w → S w) → Nonempty (LaterC W S') → wpQuiet P l.toArray (fun w' => ∃ u : LaterC W S', w' = u.val) (fun a' => a' = A) (js.filterMap (l.toArray[·]?)) a)
    (o : Oper) (f : FuncId) (args : Array Value) (G : Value → World → Prop) (hG : ∀ v, Stable (G v)) (ho : l[n]? = some o) (hd : o.dst.isSome = true) (hw : Region.wanted o (yielded l.toArray A.tmps) = true) (hr : ∀ w, (execOp A.eval o).run P w = .ok (.enter f args) w)
    (hc : ∀ u : LaterC W S, Calls P f args u.val fun e w' => ∃ v, e = .returned v ∧ Below u.val.heap.size u.val w' ∧ G v w')
    (hn : ∀ v, Nonempty (LaterC W fun w => S w ∧ G v w) → walkW P l Q N W last (fun w => S w ∧ G v w) segs (A.put o.dst v)) : walkW P l Q N W last S ((js, n) :: segs) a :=
  ⟨A, hq, o, f, args, G, by simpa using ho, (fun h => by rw [h] at hd; cases hd), hw, hr, hG, hc, hn⟩
/-- Quiet ones at last. -/
theorem order_last {Q : Exit → Act → World → Prop} {l : List Oper} {W : World} {S : World → Prop} {N : Nat} {last : List Nat} {a : Act} (A : Act)
    (hq : ∀ S', Stable S' → (∀ w, S' w → S w) → Nonempty (LaterC W S') → wpQuiet P l.toArray (fun w' => ∃ u : LaterC W S', w' = u.val) (fun a' => a' = A) (last.filterMap (l.toArray[·]?)) a)
    (h : ∀ u : LaterC W S, wpList P l.toArray Q (l.drop N) A u.val) : walkW P l Q N W last S [] a := ⟨A, hq, h⟩
end
end Go.Proofs.Ytcklmemnjchdcaa
