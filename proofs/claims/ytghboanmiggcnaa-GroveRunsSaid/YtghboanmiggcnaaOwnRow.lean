/-
  Elements of any type in a row of the call's own: a list of them, the row that a walk reads, one more, others behind.
-/
import Derived.Test.YtghboanmiggcnaaSlices
import Derived.Test.YtghboanmiggcnaaSole
import Derived.WalkKit
import Derived.Deep.AppendLies
import Derived.Deep.RegionLaw
import Derived.Lib.AppendZeros
namespace Go.Proofs.Ytghboanmiggcnaa
open Go.RowKit
set_option linter.unusedVariables false
set_option linter.unusedSimpArgs false

/-- How the elements of a slice lie. -/
structure RowT (α : Type) where
  ty : TypeId
  sl : TypeId
  sz : Nat
  bytes : Nat
  zero : Value
  cells : α → List Value
  dflt : α
structure RowT.Ok {α : Type} (T : RowT α) : Prop where
  under : Try.prog.underlying T.sl = some (.slice T.ty)
  tab : (Try.prog.info? T.ty).map (fun i => (i.zero, i.size, i.bytes)) = some (some T.zero, T.sz, T.bytes)
  zs : T.zero.cells.size = T.sz
  pos : 0 < T.sz
  len : ∀ x, (T.cells x).length = T.sz
  one : ∀ x, ∀ u ∈ T.cells x, u.oneCell' = true

section
variable {α : Type} {T : RowT α}
def flatR (T : RowT α) (L : List α) : List Value := L.flatMap T.cells
def atR (T : RowT α) (L : List α) (i : Nat) : α := (L[i]?).getD T.dflt
theorem atR_eq (L : List α) (i : Nat) (hi : i < L.length) : atR T L i = L[i] := by simp [atR, hi]
theorem atR_mem (L : List α) (i : Nat) (hi : i < L.length) : atR T L i ∈ L := by rw [atR_eq L i hi]; exact List.getElem_mem hi
theorem atR_of_mem (L : List α) (x : α) (h : x ∈ L) : ∃ i, i < L.length ∧ atR T L i = x := by
  obtain ⟨i, hi, e⟩ := List.getElem_of_mem h
  exact ⟨i, hi, by rw [atR_eq L i hi]; exact e⟩
theorem atR_take (L : List α) (k i : Nat) (h : i < k) : atR T (L.take k) i = atR T L i := by
  unfold atR; rw [List.getElem?_take_of_lt h]
theorem atR_drop (L : List α) (k i : Nat) : atR T (L.drop k) i = atR T L (k + i) := by
  unfold atR; rw [List.getElem?_drop]
theorem flatR_append (L M : List α) : flatR T (L ++ M) = flatR T L ++ flatR T M := by simp [flatR]
theorem flatR_one (q : α) : flatR T [q] = T.cells q := by simp [flatR]
theorem flatR_length (K : T.Ok) : ∀ L : List α, (flatR T L).length = L.length * T.sz
  | [] => by simp [flatR]
  | q :: L => by
    have h := flatR_length K L
    have hq := K.len q
    simp only [flatR, List.flatMap_cons, List.length_append, List.length_cons] at h ⊢
    rw [h, hq, Nat.add_mul, Nat.one_mul, Nat.add_comm]
theorem flatR_get (K : T.Ok) : ∀ (L : List α) (i j : Nat) (hi : i < L.length) (v : Value), (T.cells L[i])[j]? = some v → (flatR T L)[i * T.sz + j]? = some v
  | [], i, j, hi, v, h => absurd hi (Nat.not_lt_zero _)
  | q :: L, 0, j, hi, v, h => by
    have hj : j < (T.cells q).length := (List.getElem?_eq_some_iff.1 h).1
    simp only [flatR, List.flatMap_cons, Nat.zero_mul, Nat.zero_add]
    rw [List.getElem?_append_left hj]
    exact h
  | q :: L, i + 1, j, hi, v, h => by
    have ih := flatR_get K L i j (by simpa using hi) v (by simpa using h)
    have hq := K.len q
    have e1 : (i + 1) * T.sz = i * T.sz + T.sz := by rw [Nat.add_mul, Nat.one_mul]
    simp only [flatR, List.flatMap_cons]
    rw [List.getElem?_append_right (by omega), show (i + 1) * T.sz + j - (T.cells q).length = i * T.sz + j by omega]
    exact ih
theorem flatR_at (K : T.Ok) (M : List α) (t : Nat) (h : t < M.length * T.sz) : (flatR T M)[t]? = (T.cells (atR T M (t / T.sz)))[t % T.sz]? := by
  have hp := K.pos
  have hi : t / T.sz < M.length := (Nat.div_lt_iff_lt_mul hp).2 h
  have e : t = t / T.sz * T.sz + t % T.sz := by rw [Nat.mul_comm]; exact (Nat.div_add_mod t T.sz).symm
  have hr : t % T.sz < (T.cells M[t / T.sz]).length := by rw [K.len]; exact Nat.mod_lt _ hp
  have hf := flatR_get K M (t / T.sz) (t % T.sz) hi _ (List.getElem?_eq_getElem hr)
  rw [← e] at hf
  rw [hf, atR_eq M _ hi, List.getElem?_eq_getElem hr]

/-- A row of the call's own holds these. -/
def RowOwn (T : RowT α) (w : World) (base : Nat) (v : Value) (L : List α) : Prop := w.ownsRow base T.ty T.sz v L.length (flatR T L)
/-- A slice of these, wherever. -/
abbrev RowOf (T : RowT α) (w : World) (q : Option Addr) (L : List α) : Prop := RowP w q T.sz L.length (fun i => T.cells (atR T L i))

theorem RowOwn.nil (w : World) (base : Nat) : RowOwn T w base (.slice none 0 0) [] := World.ownsRow_nil _ _ _ _
theorem RowOwn.more {w w' : World} {base : Nat} {v : Value} {L : List α} (h : RowOwn T w base v L) (hb : Below w.heap.size w w') : RowOwn T w' base v L :=
  own_sole h (Sole.made (S := fun _ => False) hb) fun _ _ x => x
theorem RowOwn.alloc {w : World} {base : Nat} {v : Value} {L : List α} (h : RowOwn T w base v L) (o : Obj) : RowOwn T (w.alloc o) base v L := h.more ((Below.refl _ _).alloc (Nat.le_refl _) o)
theorem RowOwn.drew {w : World} {base : Nat} {v : Value} {L : List α} (h : RowOwn T w base v L) : RowOwn T w.drew base v L := h.more (Below.refl _ _).drew
theorem RowOwn.sole {S : Nat → Prop} {w w' : World} {base : Nat} {v : Value} {L : List α} (h : RowOwn T w base v L) (hs : Sole S w w') (hn : ∀ k, v.ownBlock = some k → ¬ S k) : RowOwn T w' base v L := own_sole h hs hn
theorem RowOwn.mono {w : World} {a b : Nat} {v : Value} {L : List α} (h : RowOwn T w b v L) (hab : a ≤ b) : RowOwn T w a v L := by
  refine ⟨h.1, h.2.imp id ?_⟩
  rintro ⟨g, cap, cur, e, hb, r⟩
  exact ⟨g, cap, cur, e, Nat.le_trans hab hb, r⟩
theorem RowOwn.within {w : World} {base : Nat} {v : Value} {L : List α} (h : RowOwn T w base v L) : ∀ k, v.ownBlock = some k → base ≤ k ∧ k < w.heap.size := World.ownsRow.lt h
theorem RowOwn.open (K : T.Ok) {w : World} {base : Nat} {v : Value} {L : List α} (h : RowOwn T w base v L) :
    ∃ p cap, v = .slice p L.length cap ∧ L.length ≤ cap ∧ cap ≤ maxLen ∧ RowOf T w p L := by
  rcases h.2 with ⟨rfl, h0⟩ | ⟨g, cap, cur, rfl, hb, hg, h1, h2, h3, h4⟩
  · exact ⟨none, 0, by rw [h0], by omega, Nat.zero_le _, .inl h0⟩
  · refine ⟨_, cap, rfl, h1, h2, .inr ⟨g, 0, rfl, (h.lt g rfl).2, fun i hi j u hu => ?_⟩⟩
    rw [atR_eq L i hi] at hu
    have hf := flatR_get K L i j hi u hu
    have := h.cells (g := g) rfl (i * T.sz + j) u hf
    rw [Nat.zero_add]
    unfold Addr.add at this
    split at this
    · rename_i e
      rw [e]
      exact this
    · simpa using this
/-- No bytes, or not nil. -/
theorem RowOwn.form {w : World} {base : Nat} {v : Value} {L : List α} (h : RowOwn T w base v L) : v = .slice none 0 0 ∧ L = [] ∨ ∃ g cap, v = .slice (some ⟨g, 0, none⟩) L.length cap ∧ base ≤ g ∧ g < w.heap.size ∧ L.length ≤ cap ∧ cap ≤ maxLen := by
  rcases h.2 with ⟨rfl, h0⟩ | ⟨g, cap, cur, rfl, hb, hg, h1, h2, h3, h4⟩
  · exact .inl ⟨rfl, List.eq_nil_of_length_eq_zero h0⟩
  · exact .inr ⟨g, cap, rfl, hb, (h.lt g rfl).2, h1, h2⟩
theorem RowOf.more {w w' : World} {q : Option Addr} {L : List α} (h : RowOf T w q L) (hb : Below w.heap.size w w') : RowOf T w' q L := RowP.more h hb
/-- The first ones, and those behind. -/
theorem RowOf.take {w : World} {q : Option Addr} {L : List α} (h : RowOf T w q L) (k : Nat) (hk : k ≤ L.length) : RowOf T w q (L.take k) := by
  have hl : (L.take k).length = k := by rw [List.length_take]; omega
  unfold RowOf
  rw [hl]
  rcases RowP.take h hk with h0 | ⟨b, o, e, r⟩
  · exact .inl h0
  · exact .inr ⟨b, o, e, r.lt, fun i hi j v hv => r.cell i hi j v (by rw [atR_take L k i hi] at hv; exact hv)⟩
theorem addr_plus (b o j : Nat) : Addr.add ⟨b, o, none⟩ j = ⟨b, o + j, none⟩ := by
  unfold Addr.add
  split
  · subst j; rfl
  · rfl
/-- s[k:], where s has room for more than k. -/
theorem RowOf.drop {w : World} {b o : Nat} {L : List α} (h : RowOf T w (some ⟨b, o, none⟩) L) (k : Nat) : RowOf T w (some ⟨b, o + k * T.sz, none⟩) (L.drop k) := by
  unfold RowOf
  rw [List.length_drop]
  by_cases h0 : L.length - k = 0
  · exact .inl h0
  · obtain ⟨b', o', e, r⟩ := RowP.row h (by omega)
    cases e
    have r2 := r.drop k
    exact .inr ⟨b, _, rfl, r2.lt, fun i hi j v hv => r2.cell i hi j v (by rw [atR_drop] at hv; exact hv)⟩

/-- A new block with one. -/
theorem rowOf_one (K : T.Ok) {w : World} {b : Nat} {c : Array Value} {x : α} (B : Blk w b c) (hc : c.toList = T.cells x) : RowOf T w (some ⟨b, 0, none⟩) [x] := by
  refine .inr ⟨_, _, rfl, B.lt, fun i hi j v hv => ?_⟩
  have hi0 : i = 0 := by simpa using hi
  subst hi0
  have e : 0 + 0 * T.sz + j = j := by simp
  rw [e, B.cell, ← Array.getElem?_toList, hc]
  exact hv
theorem rowOf_nil (w : World) (q : Option Addr) : RowOf T w q [] := .inl rfl

theorem append_row (K : T.Ok) (base : Nat) (ty : TypeId) (w : World) (v : Value) (l : List α) (hown : RowOwn T w base v l) (q : Option Addr) (c : Nat) (M : List α) (R : RowOf T w q M) (hn : (l.length + M.length) * T.bytes ≤ 140737488355328) (h63 : l.length + M.length ≤ maxLen) (hbase : base ≤ w.heap.size) :
    ∃ v' w', (Builtin.append_ #[T.sl, T.sl] ty #[v, .slice q M.length c]).run Try.prog w = .ok v' w' ∧ RowOwn T w' base v' (l ++ M) ∧ w.grownBy w' v.ownBlock ∧ (v'.ownBlock = v.ownBlock ∨ v'.ownBlock = some w.heap.size) := by
  obtain ⟨i, hi, hz, hs, hby⟩ := info_parts K.tab
  have ht := K.under
  by_cases h0 : M = []
  · subst h0
    refine ⟨v, w, ?_, by simpa using hown, ⟨rfl, rfl, rfl, Nat.le_refl _, fun _ _ _ => rfl⟩, .inl rfl⟩
    rcases hown.2 with ⟨rfl, h0⟩ | ⟨g, cap, cur, rfl, hbg, hg, hnc, hcm, hcs, htake⟩
    · cases q <;> simp [Builtin.append_, run_underlying ht, sizeOf, typeInfo, hi, hs, Builtin.lenOf, Builtin.firstCells, loadCells, loadCellsFrom, storeCells]
    · cases q <;> simp [Builtin.append_, run_underlying ht, sizeOf, typeInfo, hi, hs, Builtin.lenOf, Builtin.firstCells, loadCells, loadCellsFrom, storeCells, hnc]
  · have hp : M.length ≠ 0 := fun h => h0 (List.eq_nil_of_length_eq_zero h)
    obtain ⟨b, o, rfl, r⟩ := RowP.row R hp
    have hnews : ∀ j u, (flatR T M)[j]? = some u → w.cell? ((⟨b, o, none⟩ : Addr).add j) = some u := by
      intro j u hu
      have hj : j < M.length * T.sz := by
        have := (List.getElem?_eq_some_iff.1 hu).1
        rwa [flatR_length K] at this
      rw [flatR_at K M j hj] at hu
      have := r.cell (j / T.sz) ((Nat.div_lt_iff_lt_mul K.pos).2 hj) (j % T.sz) u hu
      have e : j / T.sz * T.sz + j % T.sz = j := by rw [Nat.mul_comm]; exact Nat.div_add_mod j T.sz
      rw [addr_plus, show o + j = o + j / T.sz * T.sz + j % T.sz by omega]
      exact this
    obtain ⟨v', w', hr, O, G, N, at'⟩ := run_append_own_at (P := Try.prog) w base T.sl ty T.ty i T.zero T.sz T.bytes ht hi hz hs hby K.zs K.pos v l.length (flatR T l) hown ⟨b, o, none⟩ M.length c (flatR T M) (flatR_length K M) hnews (fun u hu => by
      unfold flatR at hu
      obtain ⟨x, -, hx⟩ := List.mem_flatMap.1 hu
      exact K.one x u hx) h63 hn hbase
    refine ⟨v', w', hr, ?_, G, at'⟩
    unfold RowOwn
    rw [List.length_append, flatR_append]
    exact O
end
end Go.Proofs.Ytghboanmiggcnaa
