/-
  Package heap's mathematics: which of two goes ahead; a heap as a list; what rises, what sinks.
-/
import Derived.Test.YtgjdngpninpgmaaHeapLess
namespace Go.Proofs.Ytgjdngpninpgmaa
set_option linter.unusedVariables false
set_option linter.unusedSimpArgs false

instance : DecidableEq It := fun a b =>
  if e : a.h = b.h ∧ a.l = b.l ∧ a.o = b.o ∧ a.i = b.i then isTrue (by
    obtain ⟨h, l, o, i⟩ := a
    obtain ⟨h', l', o', i'⟩ := b
    simp only at e
    obtain ⟨rfl, rfl, rfl, rfl⟩ := e
    rfl) else isFalse (fun h => e (by subst h; exact ⟨rfl, rfl, rfl, rfl⟩))

def zIt : It := ⟨0, 0, 0, 0⟩
def itAt (L : List It) (i : Nat) : It := L.getD i zIt
theorem itAt_mem (L : List It) (i : Nat) (h : i < L.length) : itAt L i ∈ L := by
  unfold itAt; rw [List.getD_eq_getElem?_getD, List.getElem?_eq_getElem h]; exact List.getElem_mem h
theorem itAt_of_mem (L : List It) (x : It) (h : x ∈ L) : ∃ i, i < L.length ∧ itAt L i = x := by
  obtain ⟨i, hi, e⟩ := List.getElem_of_mem h
  exact ⟨i, hi, by unfold itAt; rw [List.getD_eq_getElem?_getD, List.getElem?_eq_getElem hi]; exact e⟩

def ltI (a b : It) : Prop := a.h < b.h ∨ (a.h = b.h ∧ (a.l < b.l ∨ (a.l = b.l ∧ (a.o < b.o ∨ (a.o = b.o ∧ a.i < b.i)))))
instance (a b : It) : Decidable (ltI a b) := by unfold ltI; infer_instance
def leI (a b : It) : Prop := ¬ ltI b a
theorem cmpD_eqs (a b c d : Int) : cmpD a b c d = if a < c then -1 else if c < a then 1 else if b < d then -1 else if d < b then 1 else 0 := by
  unfold cmpD orI cmpI
  by_cases h1 : a < c <;> by_cases h2 : c < a <;> simp [h1, h2]
theorem lessI_neg (a b : It) : lessI a b < 0 ↔ ltI a b := by
  unfold lessI or3I orI ltI
  rw [cmpD_eqs]
  unfold cmpI
  (repeat' split) <;> omega
theorem lessB_eq (a b : It) : lessB a b = decide (ltI a b) := by
  unfold lessB
  by_cases h : ltI a b
  · rw [decide_eq_true h, decide_eq_true ((lessI_neg a b).2 h)]
  · rw [decide_eq_false h, decide_eq_false (fun x => h ((lessI_neg a b).1 x))]
theorem leI_refl (a : It) : leI a a := by unfold leI ltI; omega
theorem leI_trans {a b c : It} (h1 : leI a b) (h2 : leI b c) : leI a c := by unfold leI ltI at *; omega
theorem ltI_le {a b : It} (h : ltI a b) : leI a b := by unfold leI ltI at *; omega
theorem leI_anti {a b : It} (h1 : leI a b) (h2 : leI b a) : a = b := by
  unfold leI ltI at *
  obtain ⟨h, l, o, i⟩ := a
  obtain ⟨h', l', o', i'⟩ := b
  simp only at *
  have e1 : h = h' := by omega
  have e2 : l = l' := by omega
  have e3 : o = o' := by omega
  have e4 : i = i' := by omega
  subst e1 e2 e3 e4
  rfl

theorem itAt_set (L : List It) (i j : Nat) (x : It) (hi : i < L.length) : itAt (L.set i x) j = if i = j then x else itAt L j := by
  unfold itAt
  rw [List.getD_eq_getElem?_getD, List.getElem?_set, List.getD_eq_getElem?_getD]
  by_cases e : i = j
  · subst e; simp [hi]
  · simp [e]

def swp (L : List It) (i k : Nat) : List It := (L.set i (itAt L k)).set k (itAt L i)
theorem swp_len (L : List It) (i k : Nat) : (swp L i k).length = L.length := by simp [swp]
theorem swp_at (L : List It) (i k : Nat) (hi : i < L.length) (hk : k < L.length) (j : Nat) : itAt (swp L i k) j = if k = j then itAt L i else if i = j then itAt L k else itAt L j := by
  unfold swp
  rw [itAt_set _ _ _ _ (by simpa using hk)]
  split
  · rfl
  · rw [itAt_set _ _ _ _ hi]
theorem count_pos' (L : List It) (i : Nat) (b : It) (hi : i < L.length) (h : itAt L i = b) : 0 < L.count b := by
  rw [List.count_pos_iff, ← h]; exact itAt_mem L i hi
theorem count_set' (L : List It) (i : Nat) (x b : It) (hi : i < L.length) : (L.set i x).count b = L.count b - (if itAt L i = b then 1 else 0) + (if x = b then 1 else 0) := by
  rw [List.count_set hi]
  have e : L[i] = itAt L i := by unfold itAt; rw [List.getD_eq_getElem?_getD, List.getElem?_eq_getElem hi]; rfl
  rw [e]
  simp only [beq_iff_eq]
theorem swp_perm (L : List It) (i k : Nat) (hi : i < L.length) (hk : k < L.length) : (swp L i k).Perm L := by
  rw [List.perm_iff_count]
  intro b
  unfold swp
  rw [count_set' _ _ _ _ (by simpa using hk), count_set' _ _ _ _ hi, itAt_set _ _ _ _ hi]
  have p1 := count_pos' L i b hi
  have p2 := count_pos' L k b hk
  by_cases e : i = k
  · subst e
    by_cases e1 : itAt L i = b
    · have := p1 e1; simp [e1]; omega
    · simp [e1]
  · simp only [e, if_false]
    by_cases e1 : itAt L i = b <;> by_cases e2 : itAt L k = b
    · have := p1 e1; simp [e1, e2]; omega
    · have := p1 e1; simp [e1, e2]; omega
    · have := p2 e2; simp [e1, e2]
    · simp [e1, e2]

def HeapOk (L : List It) : Prop := ∀ j, 0 < j → j < L.length → leI (itAt L ((j - 1) / 2)) (itAt L j)
theorem heap_min {L : List It} (h : HeapOk L) : ∀ n j, j ≤ n → j < L.length → leI (itAt L 0) (itAt L j)
  | 0, j, hj, hl => by obtain rfl : j = 0 := by omega
                       exact leI_refl _
  | n + 1, j, hj, hl => by
    by_cases e : j = 0
    · subst e; exact leI_refl _
    · exact leI_trans (heap_min h n ((j - 1) / 2) (by omega) (by omega)) (h j (by omega) hl)

structure RiseOk (L : List It) (i : Nat) : Prop where
  a : ∀ j, 0 < j → j < L.length → j ≠ i → leI (itAt L ((j - 1) / 2)) (itAt L j)
  b : ∀ j, 0 < i → 0 < j → j < L.length → (j - 1) / 2 = i → leI (itAt L ((i - 1) / 2)) (itAt L j)
theorem itAt_left (L M : List It) (j : Nat) (h : j < L.length) : itAt (L ++ M) j = itAt L j := by
  unfold itAt; rw [List.getD_eq_getElem?_getD, List.getElem?_append_left h, List.getD_eq_getElem?_getD]
theorem rise_start {L : List It} (h : HeapOk L) (x : It) : RiseOk (L ++ [x]) L.length := by
  refine ⟨fun j h0 hj hne => ?_, fun j _ h0 hj he => ?_⟩
  · simp only [List.length_append, List.length_cons, List.length_nil] at hj
    rw [itAt_left _ _ _ (by omega), itAt_left _ _ _ (by omega)]
    exact h j h0 (by omega)
  · simp only [List.length_append, List.length_cons, List.length_nil] at hj
    omega
theorem rise_stop0 {L : List It} (h : RiseOk L 0) : HeapOk L := fun j h0 hj => h.a j h0 hj (by omega)
theorem rise_stop {L : List It} {i : Nat} (h : RiseOk L i) (hl : ¬ ltI (itAt L i) (itAt L ((i - 1) / 2))) : HeapOk L := fun j h0 hj => by
  by_cases e : j = i
  · subst e; exact hl
  · exact h.a j h0 hj e
theorem rise_step {L : List It} {i : Nat} (h : RiseOk L i) (h0 : 0 < i) (hi : i < L.length) (hl : ltI (itAt L i) (itAt L ((i - 1) / 2))) : RiseOk (swp L i ((i - 1) / 2)) ((i - 1) / 2) := by
  obtain ⟨p, hp⟩ : ∃ p, (i - 1) / 2 = p := ⟨_, rfl⟩
  rw [hp] at hl ⊢
  have hpi : p < i := by omega
  have sw := swp_at L i p hi (by omega)
  refine ⟨fun j j0 hj hne => ?_, fun j p0 j0 hj he => ?_⟩
  · rw [swp_len] at hj
    rw [sw j, if_neg (fun e => hne e.symm), sw ((j - 1) / 2)]
    by_cases hji : j = i
    · subst hji
      rw [if_pos rfl, if_pos hp.symm]
      exact ltI_le hl
    · rw [if_neg (show ¬ i = j from fun e => hji e.symm)]
      by_cases q1 : p = (j - 1) / 2
      · rw [if_pos q1]
        have := h.a j j0 hj hji
        rw [← q1] at this
        exact leI_trans (ltI_le hl) this
      · rw [if_neg q1]
        by_cases q2 : i = (j - 1) / 2
        · rw [if_pos q2]
          have := h.b j h0 j0 hj q2.symm
          rwa [hp] at this
        · rw [if_neg q2]
          exact h.a j j0 hj hji
  · rw [swp_len] at hj
    have hg := h.a p p0 (by omega) (by omega)
    rw [sw ((p - 1) / 2), if_neg (by omega), if_neg (by omega), sw j, if_neg (by omega)]
    by_cases hji : i = j
    · rw [if_pos hji]; exact hg
    · rw [if_neg hji]
      have := h.a j j0 hj (fun e => hji e.symm)
      rw [he] at this
      exact leI_trans hg this

structure SinkOk (L : List It) (i : Nat) : Prop where
  a : ∀ j, 0 < j → j < L.length → (j - 1) / 2 ≠ i → leI (itAt L ((j - 1) / 2)) (itAt L j)
  b : ∀ j, 0 < i → 0 < j → j < L.length → (j - 1) / 2 = i → leI (itAt L ((i - 1) / 2)) (itAt L j)
/-- The least of a place and of those of the first k below it that are there. -/
def lst (L : List It) (i : Nat) : Nat → Nat
  | 0 => i
  | k + 1 => if 2 * i + 1 + k < L.length ∧ ltI (itAt L (2 * i + 1 + k)) (itAt L (lst L i k)) then 2 * i + 1 + k else lst L i k
theorem lst_lt (L : List It) (i k : Nat) (hi : i < L.length) : lst L i k < L.length := by
  induction k with
  | zero => exact hi
  | succ k ih => unfold lst; split <;> omega
structure LstOk (L : List It) (i m : Nat) : Prop where
  at' : m = i ∨ (0 < m ∧ (m - 1) / 2 = i)
  le : ∀ j, 0 < j → j < L.length → (j - 1) / 2 = i → leI (itAt L m) (itAt L j)
  lt : m ≠ i → m < L.length ∧ ltI (itAt L m) (itAt L i)
theorem lst_ok (L : List It) (i : Nat) : LstOk L i (lst L i 2) := by
  have e1 : lst L i 1 = if 2 * i + 1 < L.length ∧ ltI (itAt L (2 * i + 1)) (itAt L i) then 2 * i + 1 else i := rfl
  have e2 : lst L i 2 = if 2 * i + 1 + 1 < L.length ∧ ltI (itAt L (2 * i + 1 + 1)) (itAt L (lst L i 1)) then 2 * i + 1 + 1 else lst L i 1 := rfl
  have hc : ∀ j, 0 < j → (j - 1) / 2 = i → j = 2 * i + 1 ∨ j = 2 * i + 1 + 1 := fun j h0 h => by omega
  have le_of : ∀ a b, ¬ ltI (itAt L a) (itAt L b) → leI (itAt L b) (itAt L a) := fun a b h => h
  rw [e2]
  by_cases h1 : 2 * i + 1 < L.length ∧ ltI (itAt L (2 * i + 1)) (itAt L i)
  · rw [if_pos h1] at e1
    rw [e1]
    by_cases h2 : 2 * i + 1 + 1 < L.length ∧ ltI (itAt L (2 * i + 1 + 1)) (itAt L (2 * i + 1))
    · rw [if_pos h2]
      refine ⟨.inr (by omega), fun j h0 hj he => ?_, fun _ => ⟨h2.1, ?_⟩⟩
      · rcases hc j h0 he with rfl | rfl
        · exact ltI_le h2.2
        · exact leI_refl _
      · have a := h1.2; have b := h2.2; unfold ltI at *; omega
    · rw [if_neg h2]
      refine ⟨.inr (by omega), fun j h0 hj he => ?_, fun _ => h1⟩
      rcases hc j h0 he with rfl | rfl
      · exact leI_refl _
      · exact le_of _ _ (fun x => h2 ⟨hj, x⟩)
  · rw [if_neg h1] at e1
    rw [e1]
    by_cases h2 : 2 * i + 1 + 1 < L.length ∧ ltI (itAt L (2 * i + 1 + 1)) (itAt L i)
    · rw [if_pos h2]
      refine ⟨.inr (by omega), fun j h0 hj he => ?_, fun _ => h2⟩
      rcases hc j h0 he with rfl | rfl
      · exact leI_trans (ltI_le h2.2) (le_of _ _ (fun x => h1 ⟨hj, x⟩))
      · exact leI_refl _
    · rw [if_neg h2]
      refine ⟨.inl rfl, fun j h0 hj he => ?_, fun x => absurd rfl x⟩
      rcases hc j h0 he with rfl | rfl
      · exact le_of _ _ (fun x => h1 ⟨hj, x⟩)
      · exact le_of _ _ (fun x => h2 ⟨hj, x⟩)
theorem sink_stop {L : List It} {i : Nat} (h : SinkOk L i) (hm : lst L i 2 = i) : HeapOk L := fun j h0 hj => by
  by_cases e : (j - 1) / 2 = i
  · have := (lst_ok L i).le j h0 hj e
    rw [hm] at this
    rw [e]
    exact this
  · exact h.a j h0 hj e
theorem sink_step {L : List It} {i : Nat} (h : SinkOk L i) (hi : i < L.length) (hm : lst L i 2 ≠ i) : SinkOk (swp L i (lst L i 2)) (lst L i 2) := by
  have H := lst_ok L i
  generalize lst L i 2 = m at *
  obtain ⟨m0, hmi⟩ := H.at'.resolve_left hm
  obtain ⟨hml, hlt⟩ := H.lt hm
  have sw := swp_at L i m hi hml
  refine ⟨fun j j0 hj hne => ?_, fun j p0 j0 hj he => ?_⟩
  · rw [swp_len] at hj
    rw [sw ((j - 1) / 2), if_neg (fun e => hne e.symm), sw j]
    by_cases q : i = (j - 1) / 2
    · rw [if_pos q]
      by_cases q2 : m = j
      · rw [if_pos q2]; exact ltI_le hlt
      · rw [if_neg q2, if_neg (by omega)]
        exact H.le j j0 hj q.symm
    · rw [if_neg q]
      rw [if_neg (fun e => by subst e; exact q hmi.symm)]
      by_cases q2 : i = j
      · rw [if_pos q2]
        subst q2
        exact h.b m j0 m0 hml hmi
      · rw [if_neg q2]
        exact h.a j j0 hj (fun e => q e.symm)
  · rw [swp_len] at hj
    rw [hmi, sw i, if_neg hm, if_pos rfl, sw j, if_neg (by omega), if_neg (by omega)]
    have := h.a j j0 hj (by omega)
    rwa [he] at this

/-- What Pop leaves: the last one at the first one's place. -/
def popL (L : List It) : List It := (L.set 0 (itAt L (L.length - 1))).dropLast
theorem popL_len (L : List It) : (popL L).length = L.length - 1 := by simp [popL]
theorem popL_at (L : List It) (j : Nat) (h : j < L.length - 1) : itAt (popL L) j = if 0 = j then itAt L (L.length - 1) else itAt L j := by
  rw [← itAt_set L 0 j _ (by omega)]
  unfold popL itAt
  rw [List.getD_eq_getElem?_getD (i := j), List.getD_eq_getElem?_getD (i := j), List.getElem?_dropLast]
  rw [if_pos (by simpa using h)]
theorem popL_perm (L : List It) (h : 0 < L.length) : (itAt L 0 :: popL L).Perm L := by
  obtain ⟨x, M, rfl⟩ : ∃ x M, L = x :: M := by cases L with
    | nil => simp at h
    | cons x M => exact ⟨x, M, rfl⟩
  show (x :: popL (x :: M)).Perm (x :: M)
  rw [List.perm_cons]
  rcases List.eq_nil_or_concat M with rfl | ⟨N, y, rfl⟩
  · exact List.Perm.refl _
  · rw [List.concat_eq_append]
    have e : itAt (x :: (N ++ [y])) ((x :: (N ++ [y])).length - 1) = y := by
      simp [itAt, List.getD]
    have e2 : popL (x :: (N ++ [y])) = y :: N := by
      unfold popL
      rw [e, List.set_cons_zero]
      have : y :: (N ++ [y]) = (y :: N) ++ [y] := rfl
      rw [this, List.dropLast_concat]
    rw [e2]
    exact (List.perm_append_comm (l₁ := [y]) (l₂ := N))
theorem pop_sink {L : List It} (h : HeapOk L) : SinkOk (popL L) 0 := by
  refine ⟨fun j h0 hj hne => ?_, fun j h => absurd h (Nat.lt_irrefl _)⟩
  rw [popL_len] at hj
  rw [popL_at L _ (by omega), popL_at L _ hj, if_neg (by omega), if_neg (by omega)]
  exact h j h0 (by omega)

/-- Of a heap and a sorted row of the same, the first ones are the same. -/
theorem first_same {L S : List It} {x : It} (h : HeapOk L) (hs : (x :: S).Pairwise leI) (hp : (x :: S).Perm L) : itAt L 0 = x := by
  have hl := hp.length_eq
  simp only [List.length_cons] at hl
  have m1 : itAt L 0 ∈ x :: S := hp.mem_iff.2 (itAt_mem L 0 (by omega))
  obtain ⟨j, hj, e⟩ := itAt_of_mem L x (hp.mem_iff.1 (List.mem_cons_self))
  have l1 : leI (itAt L 0) x := by rw [← e]; exact heap_min h j j (Nat.le_refl _) hj
  have l2 : leI x (itAt L 0) := by
    rcases List.mem_cons.1 m1 with e | e
    · rw [e]; exact leI_refl _
    · exact (List.pairwise_cons.1 hs).1 _ e
  exact leI_anti l1 l2
end Go.Proofs.Ytgjdngpninpgmaa
