/-
  A region that draws its order: quiet operations, new blocks that may come at any time among them, and the others one by one behind them.
-/
import Derived.Test.YtghboanmiggcnaaRegion
namespace Go.Proofs.Ytghboanmiggcnaa
open Go.RowKit

section
variable {P : Program} {ops : Array Oper}

/-- What lasts in any later world. -/
def Stable (S : World → Prop) : Prop := ∀ w w' : World, S w → Below w.heap.size w w' → S w'

/-- A world later than W, with S. -/
structure LaterC (W : World) (S : World → Prop) where
  val : World
  h : Below W.heap.size W val
  s : S val

theorem LaterC.blk {W : World} {S : World → Prop} {b : Nat} {c : Array Value} (h : Blk W b c) (u : LaterC W S) (o : Nat) : u.val.cell? ⟨b, o, none⟩ = c[o]? :=
  (u.h.cell (p := ⟨b, o, none⟩) h.lt).trans (h.cell o)
theorem LaterC.cell {W : World} {S : World → Prop} (b o : Nat) (hb : b < W.heap.size) (u : LaterC W S) : u.val.cell? ⟨b, o, none⟩ = W.cell? ⟨b, o, none⟩ := u.h.cell (p := ⟨b, o, none⟩) hb

theorem latec_call {W : World} {S : World → Prop} (hS : Stable S) {u : LaterC W S} {f : FuncId} {args : Array Value} {v : Value} (h : Calls P f args u.val fun e w' => e = .returned v ∧ Below u.val.heap.size u.val w') :
    Calls P f args u.val fun e w'' => e = .returned v ∧ ∃ u' : LaterC W S, w'' = u'.val :=
  h.mono fun _ w' ⟨he, hb⟩ => ⟨he, ⟨w', u.h.trans (hb.mono u.h.size), hS _ _ u.s hb⟩, rfl⟩
theorem latec_same {W : World} {S : World → Prop} {u : LaterC W S} {f : FuncId} {args : Array Value} {v : Value} (h : Calls P f args u.val fun e w' => e = .returned v ∧ w' = u.val) :
    Calls P f args u.val fun e w'' => e = .returned v ∧ ∃ u' : LaterC W S, w'' = u'.val :=
  h.mono fun _ _ ⟨he, hw⟩ => ⟨he, u, hw⟩

/-- The frame with new blocks in the slots of the operations n, n + 1, .. -/
def laid (ops : Array Oper) (β : Nat → Nat) (n m : Nat) (a : Act) : Act := puts ops (fun j => .pointer (some ⟨β j, 0, none⟩)) (List.range' n m) a

/-- The operation makes a block of these cells, whatever the world. -/
def Makes (P : Program) (o : Oper) (z : Array Value) : Prop :=
  o.guard = none ∧ (∃ t, o.op = .alloc t ∧ ∀ w, (execOp (fun _ => undef) o).run P w = .ok (.value (.pointer (some ⟨w.heap.size, 0, none⟩))) (w.alloc (.cells z t)))

theorem makes_run {o : Oper} {z : Array Value} (h : Makes P o z) (ρ : Operand → Value) (w : World) : ∃ t, (execOp ρ o).run P w = .ok (.value (.pointer (some ⟨w.heap.size, 0, none⟩))) (w.alloc (.cells z t)) := by
  obtain ⟨_, t, ht, hr⟩ := h
  refine ⟨t, ?_⟩
  rw [← hr w]
  have : execOp ρ o = execOp (fun _ => undef) o := execOp_congr o (fun cs b e => by rw [ht] at e; cases e) (fun x hx => by rw [ht] at hx; simp [Op.operands] at hx)
  rw [this]

/-- What a walk's frame says of each value. -/
def valOf (ops : Array Oper) (A : Act) (j : Nat) : Value := match (ops[j]?).bind (·.dst) with
  | some t => A.tmps.getD t undef
  | none => undef

theorem puts_val {vs us : Nat → Value} : ∀ (l : List Nat) (a : Act), (∀ j ∈ l, (ops[j]?).bind (·.dst) ≠ none → vs j = us j) → puts ops vs l a = puts ops us l a
  | [], _, _ => rfl
  | j :: l, a, h => by
    show puts ops vs l (a.put _ (vs j)) = puts ops us l (a.put _ (us j))
    have e : a.put ((ops[j]?).bind (·.dst)) (vs j) = a.put ((ops[j]?).bind (·.dst)) (us j) := by
      cases hd : (ops[j]?).bind (·.dst) with
      | none => rfl
      | some t => rw [h j List.mem_cons_self (by rw [hd]; simp)]
    rw [e]
    exact puts_val l _ fun k hk => h k (List.mem_cons_of_mem _ hk)

theorem wp_region_late_alloc {id : Nat} {Q : Exit → Act → World → Prop} {a0 : Act} {W : World} {l : List Oper} (n : Nat) (zs : List (Array Value)) (A : Act) (hm : P.follows .mixedOrders = true)
    (hB : quietTailB l.toArray (n + zs.length) a0.tmps.size = true)
    (hz : ∀ i z, zs[i]? = some z → ∃ o, l[n + i]? = some o ∧ Makes P o z)
    (h : ∀ S, Stable S → Nonempty (LaterC W S) → wpQuiet P l.toArray (fun w' => ∃ u : LaterC W S, w' = u.val) (fun a' => a' = A) (l.take n) a0)
    (hrest : ∀ (β : Nat → Nat) (w' : World), Below W.heap.size W w' → (∀ i z, zs[i]? = some z → W.heap.size ≤ β (n + i) ∧ Blk w' (β (n + i)) z) → (∀ i j, i < zs.length → j < zs.length → i ≠ j → β (n + i) ≠ β (n + j)) →
      wpList P l.toArray Q (l.drop (n + zs.length)) (laid l.toArray β n zs.length A) w') : (Code.region id l.toArray true).wp P Q a0 W := by
  have hB0 := hB
  simp only [quietTailB, Bool.and_eq_true, decide_eq_true_eq] at hB
  obtain ⟨⟨⟨⟨⟨⟨hsel, hn⟩, hs⟩, hc⟩, hsole⟩, hseen⟩, hseq⟩ := hB
  have hN : n + zs.length < l.length := by simpa using hn
  generalize hNm : n + zs.length = N at *
  have htl : (l.take n).length = n := by simp; omega
  have hr0 : ∀ m, List.range' 0 m = List.range m := fun m => (List.range_eq_range' (n := m)).symm
  -- the values, once for all
  let vs : Nat → Value := valOf l.toArray A
  have told : ∀ S, Stable S → Nonempty (LaterC W S) → A = puts l.toArray vs (List.range n) a0 ∧ ∀ j o, j < n → l.toArray[j]? = some o → ∃ v, (o.dst ≠ none → v = vs j) ∧ Told P l.toArray (fun w' => ∃ u : LaterC W S, w' = u.val) o v (puts l.toArray vs (List.range j) a0) := by
    intro S hS hN
    obtain ⟨us, hfin, htold⟩ := walk_told (ops := l.toArray) (l.take n) 0 a0 (fun i hi => by
      have hi' : i < n := by rw [htl] at hi; exact hi
      simp [hi']) (h S hS hN)
    rw [htl, hr0] at hfin
    have hus : ∀ j, j < n → (l.toArray[j]?).bind (·.dst) ≠ none → us j = vs j := by
      intro j hj hd
      obtain ⟨t, ht⟩ := Option.ne_none_iff_exists'.1 hd
      have hlt : j < l.toArray.size := by simp; omega
      have hoj : l.toArray[j]? = some l.toArray[j] := Array.getElem?_eq_getElem hlt
      have hd2 : l.toArray[j].dst = some t := by rw [hoj] at ht; simpa using ht
      have hsd := sole_dst hsole hoj hd2
      have := (puts_get us t (List.range n) a0).2 j (fun k hk hdk => by
        have hkl : k < l.toArray.size := by have := List.mem_range.1 hk; simp; omega
        have hok : l.toArray[k]? = some l.toArray[k] := Array.getElem?_eq_getElem hkl
        rw [hok] at hdk
        have := (sole_dst hsole hok (by simpa using hdk)).1
        rw [hsd.1] at this
        exact (Option.some.inj this).symm) (List.mem_range.2 hj) ht hsd.2
      rw [hfin] at this
      show us j = valOf l.toArray A j
      unfold valOf
      rw [ht]
      simp [this]
    refine ⟨?_, fun j o hj ho => ⟨us j, fun hd => hus j hj (by rw [ho]; simpa using hd), ?_⟩⟩
    · rw [← hfin]
      exact puts_val _ _ fun j hj hd => hus j (List.mem_range.1 hj) hd
    · have := htold j o (by rw [htl]; exact hj) (by rw [Nat.zero_add]; exact ho)
      rw [Nat.zero_add, hr0] at this
      have e : puts l.toArray us (List.range j) a0 = puts l.toArray vs (List.range j) a0 := puts_val _ _ fun k hk hd => hus k (by have := List.mem_range.1 hk; omega) hd
      rw [← e]; exact this
  have hAeq := (told (fun _ => True) (fun _ _ _ _ => trivial) ⟨⟨W, Below.refl _ _, trivial⟩⟩).1
  -- which operations make blocks
  have mk : ∀ j, n ≤ j → j < N → ∃ o z, l.toArray[j]? = some o ∧ zs[j - n]? = some z ∧ Makes P o z := by
    intro j h1 h2
    have hlt : j - n < zs.length := by omega
    obtain ⟨o, ho, hmk⟩ := hz (j - n) zs[j - n] (List.getElem?_eq_getElem hlt)
    exact ⟨o, _, by rw [show n + (j - n) = j by omega] at ho; simpa using ho, List.getElem?_eq_getElem hlt, hmk⟩
  -- all values, the new blocks' among them
  let all : (Nat → Nat) → Nat → Value := fun β j => if n ≤ j ∧ j < N then .pointer (some ⟨β j, 0, none⟩) else vs j
  have all_lt : ∀ β j, j < n → all β j = vs j := fun β j hj => if_neg (by omega)
  -- the frame of the walk with the new blocks
  have lex : ∀ (β : Nat → Nat) (j t : Nat), j ≤ N → (puts l.toArray (all β) (List.range j) a0).tmps[t]? = match writer l.toArray t with
      | some k => if k < j then some (all β k) else a0.tmps[t]?
      | none => a0.tmps[t]? := by
    intro β j t hj
    cases hw : writer l.toArray t with
    | none =>
      refine (puts_get (all β) t _ _).1 fun i hi hd => ?_
      have hlt : i < l.toArray.size := by have := List.mem_range.1 hi; omega
      have hoi : l.toArray[i]? = some l.toArray[i] := Array.getElem?_eq_getElem hlt
      rw [hoi] at hd
      exact writer_none hw hoi hd
    | some k =>
      obtain ⟨o, ho, hd⟩ := writer_some hw
      have hsole' : ∀ i, i < l.toArray.size → (l.toArray[i]?).bind (·.dst) = some t → i = k := fun i hi hdi => by
        have hoi : l.toArray[i]? = some l.toArray[i] := Array.getElem?_eq_getElem hi
        rw [hoi] at hdi
        have := (sole_dst hsole hoi hdi).1
        rw [hw] at this
        exact (Option.some.inj this).symm
      by_cases hk : k < j
      · simp only [hk, if_true]
        exact (puts_get (all β) t _ _).2 k (fun i hi hdi => hsole' i (by have := List.mem_range.1 hi; omega) hdi) (List.mem_range.2 hk) (by rw [ho]; exact hd) (sole_dst hsole ho hd).2
      · simp only [hk, if_false]
        refine (puts_get (all β) t _ _).1 fun i hi hdi => hk ?_
        have h1 := List.mem_range.1 hi
        rw [← hsole' i (by omega) hdi]
        exact h1
  have putall : ∀ (β : Nat → Nat) j, j ≤ n → puts l.toArray (all β) (List.range j) a0 = puts l.toArray vs (List.range j) a0 := fun β j hj => puts_congr _ _ fun k hk => all_lt β k (by have := List.mem_range.1 hk; omega)
  refine wp_region_any hm ?_
  -- what holds of the new blocks
  let Inv : (Nat → Nat) → Array Bool → World → Prop := fun β L w => Below W.heap.size W w ∧ (∀ i z, zs[i]? = some z → L.getD (n + i) false = true → W.heap.size ≤ β (n + i) ∧ Blk w (β (n + i)) z) ∧
    (∀ i j, i < zs.length → j < zs.length → i ≠ j → L.getD (n + i) false = true → L.getD (n + j) false = true → β (n + i) ≠ β (n + j))
  have main : ∀ (fuel : Nat) (L : Array Bool) (a : Act) (w : World) (β : Nat → Nat), Mid l.toArray a0 (all β) L a → HeadInv .any l.toArray N L → Inv β L w → L.toList.count false = fuel → wpAny P .any l.toArray Q fuel L a w := by
    intro fuel
    induction fuel with
    | zero =>
      intro L a w β mid inv hCw hcnt
      exfalso
      have h1 := inv.tail N (Nat.le_refl _) hn
      have hl : N < L.size := by rw [inv.size]; exact hn
      have : false ∈ L.toList := by
        have h2 : L[N] = false := by simpa [hl] using h1
        rw [← h2]; simp
      have := List.count_pos_iff.2 this
      omega
    | succ fuel ih =>
      intro L a w β mid inv hCw hcnt
      by_cases hall : ∀ i, i < N → L.getD i false = true
      · have hL : L = Array.ofFn fun i : Fin l.toArray.size => decide (i.val < N) := by
          apply Array.ext
          · simp [inv.size]
          · intro i h1 h2
            have hi : i < l.toArray.size := by rw [← inv.size]; exact h1
            simp only [Array.getElem_ofFn]
            by_cases hin : i < N
            · have := hall i hin
              simp [h1] at this
              simp [hin, this]
            · have := inv.tail i (by omega) hi
              simp [h1] at this
              simp [hin, this]
        have hlaid : laid l.toArray β n zs.length A = puts l.toArray (all β) (List.range N) a0 := by
          have e1 : List.range N = List.range n ++ List.range' n zs.length := by
            rw [← hNm, List.range_eq_range', List.range_eq_range', List.range'_append_1.symm]
            simp
          rw [e1]
          unfold laid puts
          rw [List.foldl_append]
          have e2 := putall β n (Nat.le_refl _)
          unfold puts at e2
          rw [e2]
          have e3 := hAeq
          unfold puts at e3
          rw [← e3]
          exact (puts_congr (ops := l.toArray) (vs := fun j => .pointer (some ⟨β j, 0, none⟩)) (us := all β) (List.range' n zs.length) A fun j hj => by
            have := List.mem_range'_1.1 hj
            exact (if_pos (by omega)).symm)
        have ha : a = puts l.toArray (all β) (List.range N) a0 := by
          have e1 : a.tmps = (puts l.toArray (all β) (List.range N) a0).tmps := by
            apply Array.ext_getElem?
            intro t
            rw [mid.slot t, lex β N t (Nat.le_refl _)]
            cases hw : writer l.toArray t with
            | none => rfl
            | some k =>
              simp only []
              by_cases hk : k < N
              · rw [if_pos (hall k hk), if_pos hk]
              · rw [if_neg hk, if_neg]
                obtain ⟨o, ho, _⟩ := writer_some hw
                have := getD_both (inv.tail k (by omega) (Array.getElem?_eq_some_iff.1 ho).1)
                rw [this]; simp
          have e2 : a.defers = (puts l.toArray (all β) (List.range N) a0).defers := by rw [mid.defers]; exact (puts_defers (all β) _ _).symm
          cases a
          cases hp : puts l.toArray (all β) (List.range N) a0
          simp only [hp] at e1 e2
          subst e1 e2
          rfl
        have hcnt2 : fuel + 1 = (l.drop N).length := by
          rw [← hcnt, hL]
          simp only [Array.toList_ofFn, List.length_drop]
          have gen : ∀ (m n : Nat), ((List.ofFn fun i : Fin m => decide (i.val < n)).count false) = m - n := by
            intro m
            induction m with
            | zero => intro n; simp
            | succ m ihm =>
              intro n
              cases n with
              | zero =>
                have := ihm 0
                simp [List.ofFn_succ] at this ⊢
                omega
              | succ n =>
                have := ihm n
                simp [List.ofFn_succ] at this ⊢
                omega
          simpa using gen l.toArray.size N
        rw [hcnt2]
        refine wpAny_of_seq (md := .any) (l.drop N) N L a w (fun j => by simp [List.getElem?_drop]) ?_ ?_
        · rw [hL]
          have e : (l.drop N).length = l.toArray.size - N := by simp
          rw [e]; exact hseq
        · rw [ha, ← hlaid]
          exact hrest β w hCw.1 (fun i z hi => hCw.2.1 i z hi (hall _ (by have := (List.getElem?_eq_some_iff.1 hi).1; omega))) (fun i j hi hj hij => hCw.2.2 i j hi hj hij (hall _ (by omega)) (hall _ (by omega)))
      · have hex : ∃ i, i < N ∧ L.getD i true = false := by
          refine Classical.byContradiction fun hno => hall fun i hi => ?_
          cases hg : L.getD i true with
          | false => exact absurd ⟨i, hi, hg⟩ hno
          | true =>
            have hl : i < L.size := by rw [inv.size]; omega
            simp [hl] at hg ⊢
            exact hg
        obtain ⟨i0, hi0, hun0⟩ := hex
        have hready : ∀ j ∈ Region.ready .any l.toArray L, j < N := fun j hj => by
          rcases Nat.lt_or_ge j N with h | h
          · exact h
          · exact absurd hj (tail_waits hs hc hn inv _ i0 rfl hi0 hun0 j h)
        have hne : Region.ready .any l.toArray L ≠ [] := by
          intro hnil
          have hl : ∀ j, j < N → L.getD j false = true := by
            intro j
            induction j using Nat.strongRecOn with
            | _ j ihj =>
              intro hj
              cases hlj : L.getD j false with
              | true => rfl
              | false =>
                exfalso
                have hjo : j < l.toArray.size := by omega
                have hoj : l.toArray[j]? = some l.toArray[j] := Array.getElem?_eq_getElem hjo
                have : j ∈ Region.ready .any l.toArray L := mem_ready.2 ⟨getD_in (by rw [inv.size]; exact hjo) hlj, _, hoj, fun e he hb => by
                  have := seen_after hseen hoj hj he hb
                  exact ihj e.on this (by omega)⟩
                rw [hnil] at this
                cases this
          exact hall hl
        refine ⟨fun hr => absurd hr hne, fun j hj => ?_⟩
        have hjN := hready j hj
        obtain ⟨hun, o, ho, hpre⟩ := mem_ready.1 hj
        have hjs : j < L.size := by rw [inv.size]; omega
        have hcnt' : (L.setIfInBounds j true).toList.count false = fuel := by
          have := count_set L.toList j (by simp [hjs] at hun ⊢; exact hun)
          simp only [Array.toList_setIfInBounds]
          omega
        -- the frame behind it
        have mid' : ∀ (β' : Nat → Nat) (v : Value), (∀ k, k ≠ j → L.getD k false = true → all β' k = all β k) → (o.dst ≠ none → v = all β' j) → Mid l.toArray a0 (all β') (L.setIfInBounds j true) (a.put o.dst v) := by
          intro β' v hβ hv
          refine ⟨by rw [put_defers]; exact mid.defers, by rw [put_size]; exact mid.size, fun t => ?_⟩
          rw [put_get]
          by_cases hd : o.dst = some t
          · obtain ⟨hw, ht⟩ := sole_dst hsole ho hd
            rw [if_pos ⟨hd, by rw [mid.size]; exact ht⟩, hw]
            simp [hjs, hv (by rw [hd]; simp)]
          · rw [if_neg (fun h => hd h.1), mid.slot t]
            cases hw : writer l.toArray t with
            | none => rfl
            | some k =>
              have hkj : j ≠ k := by
                rintro rfl
                obtain ⟨o', ho', hd'⟩ := writer_some hw
                rw [ho] at ho'; cases ho'
                exact hd hd'
              simp only []
              rw [getD_set_ne false hkj]
              by_cases hg : L.getD k false = true
              · rw [if_pos hg, if_pos hg, hβ k (Ne.symm hkj) hg]
              · rw [if_neg hg, if_neg hg]
        unfold wpOp
        simp only [ho]
        by_cases hjn : j < n
        · -- a quiet one
          have same : ∀ t, t ∈ o.looksAt l.toArray → a.tmps[t]? = (puts l.toArray vs (List.range j) a0).tmps[t]? := by
            intro t ht
            rw [← putall β j (by omega), mid.slot t, lex β j t (by omega)]
            cases hw : writer l.toArray t with
            | none => rfl
            | some k =>
              simp only []
              rcases seen hseen ho hjN ht hw with hk | ⟨hk, hwait⟩
              · obtain ⟨o', ho', _⟩ := writer_some hw
                have := getD_both (inv.tail k hk (Array.getElem?_eq_some_iff.1 ho').1)
                rw [if_neg (by rw [this]; simp), if_neg (by omega)]
              · obtain ⟨oj, hoj, e, he, hb, hon⟩ := Region.waitsFor_spec hwait
                have : oj = o := Option.some.inj (hoj.symm.trans ho)
                subst this
                have := hpre e he hb
                rw [hon] at this
                rw [if_pos this, if_pos hk]
          have hexec : execOp a.eval o = execOp (puts l.toArray vs (List.range j) a0).eval o := by
            refine execOp_congr o (fun cs b => Region.noSelect_spec hsel j o cs b ho) fun x hx => ?_
            cases x with
            | tmp t =>
              have := same t (List.mem_append_left _ (List.mem_filterMap.2 ⟨.tmp t, by simpa using hx, rfl⟩))
              simp only [Act.eval, Array.getD_eq_getD_getElem?, this]
            | _ => rfl
          have hwant : Region.wanted o (yielded l.toArray a.tmps) = Region.wanted o (yielded l.toArray (puts l.toArray vs (List.range j) a0).tmps) := by
            unfold Region.wanted
            cases hg : o.guard with
            | none => rfl
            | some gw =>
              obtain ⟨g, want⟩ := gw
              have hy : yielded l.toArray a.tmps g = yielded l.toArray (puts l.toArray vs (List.range j) a0).tmps g := by
                unfold yielded
                cases ht : (l.toArray[g]?).bind (·.dst) with
                | none => rfl
                | some t =>
                  have := same t (List.mem_append_right _ (by simp only [hg, ht]; simp))
                  simp only [Option.bind_some, this]
              simp only [hy]
          -- the class: what is known of the new blocks
          let S : World → Prop := fun x => ∀ i z, zs[i]? = some z → L.getD (n + i) false = true → Blk x (β (n + i)) z
          have hS : Stable S := fun x y hx hb i z hi hg => (hx i z hi hg).more hb
          have hCS : ∃ u : LaterC W S, w = u.val := ⟨⟨w, hCw.1, fun i z hi hg => (hCw.2.1 i z hi hg).2⟩, rfl⟩
          obtain ⟨v, hv, ht⟩ := (told S hS ⟨hCS.choose⟩).2 j o hjn ho
          have hgetj : ∀ i, i < zs.length → (L.setIfInBounds j true).getD (n + i) false = L.getD (n + i) false := fun i hi => getD_set_ne false (by omega)
          have next : ∀ w', (∃ u : LaterC W S, w' = u.val) → wpAny P .any l.toArray Q fuel (L.setIfInBounds j true) (a.put o.dst v) w' := by
            rintro w' ⟨u, rfl⟩
            refine ih _ _ _ β (mid' β v (fun _ _ _ => rfl) (fun hd => by rw [hv hd]; exact (all_lt β j hjn).symm)) (inv.set hj hjN) ⟨u.h, fun i z hi hg => ?_, fun i k hi hk hik hg hg' => ?_⟩ hcnt'
            · rw [hgetj i (List.getElem?_eq_some_iff.1 hi).1] at hg
              exact ⟨(hCw.2.1 i z hi hg).1, u.s i z hi hg⟩
            · rw [hgetj i hi] at hg
              rw [hgetj k hk] at hg'
              exact hCw.2.2 i k hi hk hik hg hg'
          rcases ht with ⟨hwt, hq⟩ | ⟨hwt, hu⟩
          · rw [if_pos (by rw [hwant]; exact hwt)]
            left
            refine Oper.wp_of_quiet (C := fun w' => ∃ u : LaterC W S, w' = u.val) (K := fun a' => a' = a.put o.dst v) hCS (fun a' w' hw' e => e ▸ next w' hw') ⟨v, fun w' hw' => ?_, rfl⟩
            have := hq w' hw'
            unfold Oper.quietAt at this ⊢
            rw [hexec]; exact this
          · rw [if_neg (by rw [hwant, hwt]; simp), ← hu]
            exact next w hCS
        · -- a new block
          obtain ⟨o', z, ho', hzj, hmk⟩ := mk j (by omega) hjN
          have : o' = o := Option.some.inj (ho'.symm.trans ho)
          subst this
          have hw1 : Region.wanted o' (yielded l.toArray a.tmps) = true := by unfold Region.wanted; rw [hmk.1]
          rw [if_pos hw1]
          left
          obtain ⟨t, hrun⟩ := makes_run hmk a.eval w
          unfold Oper.wp
          rw [hrun, Oper.upon_value]
          let β' : Nat → Nat := fun k => if k = j then w.heap.size else β k
          have hb : Below w.heap.size w (w.alloc (.cells z t)) := Below.alloc (Below.refl _ _) (Nat.le_refl _) _
          have hβj : β' j = w.heap.size := if_pos rfl
          have hβk : ∀ k, k ≠ j → β' k = β k := fun k hk => if_neg hk
          have hgete : ∀ i, i < zs.length → n + i ≠ j → (L.setIfInBounds j true).getD (n + i) false = L.getD (n + i) false := fun i hi hne => getD_set_ne false (Ne.symm hne)
          refine ih _ _ _ β' (mid' β' _ (fun k hk _ => ?_) (fun _ => ?_)) (inv.set hj hjN) ⟨hCw.1.trans (hb.mono hCw.1.size), fun i z' hi hg => ?_, fun i k hi hk hik hg hg' => ?_⟩ hcnt'
          · show (if n ≤ k ∧ k < N then Value.pointer (some ⟨β' k, 0, none⟩) else vs k) = (if n ≤ k ∧ k < N then Value.pointer (some ⟨β k, 0, none⟩) else vs k)
            rw [hβk k hk]
          · show _ = (if n ≤ j ∧ j < N then Value.pointer (some ⟨β' j, 0, none⟩) else vs j)
            rw [if_pos (by omega), hβj]
          · by_cases e : n + i = j
            · rw [e, hβj]
              have : j - n = i := by omega
              rw [this] at hzj
              have : z' = z := Option.some.inj (hi.symm.trans hzj)
              subst this
              exact ⟨hCw.1.size, Blk.new w z' t⟩
            · rw [hgete i (List.getElem?_eq_some_iff.1 hi).1 e] at hg
              have := hCw.2.1 i z' hi hg
              rw [hβk _ e]
              exact ⟨this.1, this.2.more hb⟩
          · by_cases e : n + i = j
            · have e2 : n + k ≠ j := by omega
              rw [e, hβj, hβk _ e2]
              rw [hgete k hk e2] at hg'
              have := (hCw.2.1 k zs[k] (List.getElem?_eq_getElem hk) hg').2.lt
              omega
            · by_cases e2 : n + k = j
              · rw [e2, hβj, hβk _ e]
                rw [hgete i hi e] at hg
                have := (hCw.2.1 i zs[i] (List.getElem?_eq_getElem hi) hg).2.lt
                omega
              · rw [hβk _ e, hβk _ e2]
                rw [hgete i hi e] at hg
                rw [hgete k hk e2] at hg'
                exact hCw.2.2 i k hi hk hik hg hg'
  refine main l.toArray.size _ a0 W.drew (fun _ => 0) ⟨rfl, rfl, fun t => ?_⟩ ⟨by simp, fun j oj _ hl => (by rw [getD_replicate_false] at hl; cases hl), fun t _ ht => getD_in (by simpa using ht) (getD_replicate_false _ _)⟩ ⟨Below.drew (Below.refl _ _), fun i z _ hg => (by rw [getD_replicate_false] at hg; cases hg), fun i j _ _ _ hg => (by rw [getD_replicate_false] at hg; cases hg)⟩ (by simp)
  cases hw : writer l.toArray t with
  | none => rfl
  | some k => simp only [getD_replicate_false]; simp
end
end Go.Proofs.Ytghboanmiggcnaa
